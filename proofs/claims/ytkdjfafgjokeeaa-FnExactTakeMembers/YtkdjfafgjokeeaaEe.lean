/- Members of the call's own: rows of them, marks in them; the program's bench. -/
import Derived.Test.YtkdjfafgjokeeaaEd
import Derived.Test.YtkdjfafgjokeeaaSignsOf
import Derived.Test.YtkdjfafgjokeeaaMk
import Derived.Test.YtkdjfafgjokeeaaCm
namespace Go.Proofs.Ytkdjfafgjokeeaa
open Go.RowKit Go.Maps Go.WideMaps

theorem Try.infoSeat : (Try.prog.info? 93).map (fun i => (i.zero, i.size, i.bytes)) = some (some (.agg #[.int .i64 0, .int .i64 0, .int .i64 0]), 3, 24) := by kernel_rfl
theorem mcells_snoc (ms : List Mb) (o : Mb) : mcells (ms ++ [o]) = mcells ms ++ [.int .i64 o.1, .int .i64 o.2.1, .int .i64 o.2.2] := by
  unfold mcells
  rw [List.flatMap_append]
  rfl
/-- One more: what the append leaves. -/
theorem seat_added {W : World} {lo X j : Nat} {v : Value} {ms : List Mb} {o : Mb} (h : W.ownsRow lo 93 3 v j (mcells ms)) (hX : W.heap[X]? = some (.cells #[.int .i64 o.1, .int .i64 o.2.1, .int .i64 o.2.2] 93 (0, 0))) (hj : j ≤ 1000) (hlo : lo ≤ W.heap.size) :
    ∃ g cap w5, (Builtin.append_ #[65, 65] 65 #[v, .slice (some ⟨X, 0, none⟩) 1 1]).run Try.prog W = .ok (.slice (some ⟨g, 0, none⟩) (j + 1) cap) w5 ∧
      Hid (w5.ownsRow lo 93 3 (.slice (some ⟨g, 0, none⟩) (j + 1) cap) (j + 1) (mcells (ms ++ [o])) ∧ W.grownBy w5 v.ownBlock) := by
  obtain ⟨i0, hi, hz0, hz1, hz2⟩ := info_parts Try.infoSeat
  obtain ⟨v', w5, hrun, hown', hgrow, hsome⟩ := run_append_own (P := Try.prog) W lo 65 65 93 i0 (.agg #[.int .i64 0, .int .i64 0, .int .i64 0]) 3 24 Try.underlying65 hi hz0 hz1 hz2 rfl (by decide) v j (mcells ms) h ⟨X, 0, none⟩ 1 1 [.int .i64 o.1, .int .i64 o.2.1, .int .i64 o.2.2] rfl (World.news_of_block hX) (by
    intro z hz
    simp only [List.mem_cons, List.not_mem_nil, or_false] at hz
    rcases hz with rfl | rfl | rfl <;> rfl) (by unfold maxLen; omega) (by omega) hlo
  obtain ⟨g, cap, rfl⟩ := ownsRow_succ hown'
  refine ⟨g, cap, w5, hrun, ?_, hgrow⟩
  rw [mcells_snoc]
  exact hown'

/-- One more: what the append leaves. -/
theorem mem_added {W : World} {lo X j : Nat} {v : Value} {ms : List Mb} {o : Mb} (h : W.ownsRow lo 57 3 v j (mcells ms)) (hX : W.heap[X]? = some (.cells #[.int .i64 o.1, .int .i64 o.2.1, .int .i64 o.2.2] 57 (0, 0))) (hj : j ≤ 1000) (hlo : lo ≤ W.heap.size) :
    ∃ g cap w5, (Builtin.append_ #[29, 29] 29 #[v, .slice (some ⟨X, 0, none⟩) 1 1]).run Try.prog W = .ok (.slice (some ⟨g, 0, none⟩) (j + 1) cap) w5 ∧
      Hid (w5.ownsRow lo 57 3 (.slice (some ⟨g, 0, none⟩) (j + 1) cap) (j + 1) (mcells (ms ++ [o])) ∧ W.grownBy w5 v.ownBlock) := by
  obtain ⟨i0, hi, hz0, hz1, hz2⟩ := info_parts Try.infoMem
  obtain ⟨v', w5, hrun, hown', hgrow, hsome⟩ := run_append_own (P := Try.prog) W lo 29 29 57 i0 (.agg #[.int .i64 0, .int .i64 0, .int .i64 0]) 3 24 Try.underlying29 hi hz0 hz1 hz2 rfl (by decide) v j (mcells ms) h ⟨X, 0, none⟩ 1 1 [.int .i64 o.1, .int .i64 o.2.1, .int .i64 o.2.2] rfl (World.news_of_block hX) (by
    intro z hz
    simp only [List.mem_cons, List.not_mem_nil, or_false] at hz
    rcases hz with rfl | rfl | rfl <;> rfl) (by unfold maxLen; omega) (by omega) hlo
  obtain ⟨g, cap, rfl⟩ := ownsRow_succ hown'
  refine ⟨g, cap, w5, hrun, ?_, hgrow⟩
  rw [mcells_snoc]
  exact hown'

/-- A row of the call's own, blocks from 'lo' to 'hi'. -/
structure OwnR (w : World) (lo hi : Nat) (t : TypeId) (z : Nat) (v : Value) (n : Nat) (xs : List Value) : Prop where
  r : w.ownsRow lo t z v n xs
  tb : ∀ b, v.ownBlock = some b → b < hi
theorem OwnR.chg {w w' : World} {lo hi n z : Nat} {t : TypeId} {v : Value} {xs : List Value} (h : OwnR w lo hi t z v n xs) {lo' hi' : Nat} (hc : Chg w w' lo' hi') (hd : hi ≤ lo' ∨ hi' ≤ lo) : OwnR w' lo hi t z v n xs :=
  ⟨hc.row h.r (fun k hk => by have := h.tb k hk; have := (h.r.lt k hk).1; omega), h.tb⟩
theorem OwnR.below {w w' : World} {lo hi n z : Nat} {t : TypeId} {v : Value} {xs : List Value} (h : OwnR w lo hi t z v n xs) (hb : Below w.heap.size w w') : OwnR w' lo hi t z v n xs :=
  h.chg (Chg.of_below hb hi hi) (.inl (Nat.le_refl _))
theorem OwnR.of {w : World} {lo n z : Nat} {t : TypeId} {v : Value} {xs : List Value} (h : w.ownsRow lo t z v n xs) : OwnR w lo w.heap.size t z v n xs := ⟨h, fun b hb => (h.lt b hb).2⟩
theorem mat_row {w : World} {base n c : Nat} {a : Option Addr} {ms : List Mb} {t : TypeId} (h : w.ownsRow base t 3 (.slice a n c) n (mcells ms)) (hn : ms.length = n) : MAt w a n ms := by
  rcases h.2 with ⟨e, e0⟩ | ⟨g, cap, cur, e, _⟩
  · exact ⟨hn, .inl e0⟩
  · cases e; exact MAt.owned h hn
theorem take_map1 {α β : Type} {ms : List α} {n j : Nat} {o d : α} (f : α → β) (hn : ms.length = n) (hlt : j < n) (ho : o = ms.getD j d) : (ms.take (j + 1)).map f = (ms.take j).map f ++ [f o] := by
  have e : ms[j]? = some o := by rw [ho]; simp [List.getD, show j < ms.length by omega]
  rw [List.take_add_one, e]
  simp
theorem mkI3_of {xs : List Value} {k n : Nat} (hl : xs.length = n * 3) (h : ∀ j, j < n * 3 → xs[j]? = some (.int .i64 (k + j : Nat))) : xs = mkI k (n * 3) := by
  refine mkI_of (by omega) h

theorem mark3_round {w wr : World} {base g n cap j k lo hi : Nat} (hlt : j < n) (hg : Chg w wr lo hi) (hgb : lo ≤ g ∧ g < hi)
    (hx : ∃ xs, wr.ownsRow base 57 3 (.slice (some ⟨g, 0, none⟩) n cap) n xs ∧ ∀ t, t < j * 3 → xs[t]? = some (.int .i64 (k + t : Nat))) {a b c : Int} (ha : a = (k + j * 3 : Nat)) (hb : b = (k + j * 3 + 1 : Nat)) (hc : c = (k + j * 3 + 2 : Nat)) :
    ∃ u0 u1 u2, wr.cell? ⟨g, j * 3, none⟩ = some u0 ∧ wr.cell? ⟨g, j * 3 + 1, none⟩ = some u1 ∧ wr.cell? ⟨g, j * 3 + 2, none⟩ = some u2 ∧ wr.frozen? ⟨g, j * 3, none⟩ = false ∧ wr.frozen? ⟨g, j * 3 + 1, none⟩ = false ∧ wr.frozen? ⟨g, j * 3 + 2, none⟩ = false ∧
      Hid (Chg w (((wr.setCell ⟨g, j * 3, none⟩ (.int .i64 a)).setCell ⟨g, j * 3 + 1, none⟩ (.int .i64 b)).setCell ⟨g, j * 3 + 2, none⟩ (.int .i64 c)) lo hi ∧ ∃ xs, (((wr.setCell ⟨g, j * 3, none⟩ (.int .i64 a)).setCell ⟨g, j * 3 + 1, none⟩ (.int .i64 b)).setCell ⟨g, j * 3 + 2, none⟩ (.int .i64 c)).ownsRow base 57 3 (.slice (some ⟨g, 0, none⟩) n cap) n xs ∧ ∀ t, t < (j + 1) * 3 → xs[t]? = some (.int .i64 (k + t : Nat))) := by
  subst ha hb hc
  obtain ⟨xs, ho, hxs⟩ := hx
  have hxl := ho.1
  have r1 := (ho.stored (j * 3) (.int .i64 (k + j * 3 : Nat))).1
  have r2 := (r1.stored (j * 3 + 1) (.int .i64 (k + j * 3 + 1 : Nat))).1
  have r3 := (r2.stored (j * 3 + 2) (.int .i64 (k + j * 3 + 2 : Nat))).1
  refine ⟨_, _, _, (ho.cellAt (j * 3) (by omega)).trans (List.getElem?_eq_getElem (by omega)), (ho.cellAt (j * 3 + 1) (by omega)).trans (List.getElem?_eq_getElem (by omega)), (ho.cellAt (j * 3 + 2) (by omega)).trans (List.getElem?_eq_getElem (by omega)), ho.frozenAt _, ho.frozenAt _, ho.frozenAt _, ((hg.setCell hgb _).setCell hgb _).setCell hgb _, _, r3, fun t ht => ?_⟩
  by_cases e2 : t = j * 3 + 2
  · subst e2; rw [List.getElem?_set_self (by simp; omega)]; rfl
  · rw [List.getElem?_set_ne (by omega)]
    by_cases e1 : t = j * 3 + 1
    · subst e1; rw [List.getElem?_set_self (by simp; omega)]; rfl
    · rw [List.getElem?_set_ne (by omega)]
      by_cases e0 : t = j * 3
      · subst e0; rw [List.getElem?_set_self (by omega)]
      · rw [List.getElem?_set_ne (by omega)]
        exact hxs t (by omega)

set_option maxHeartbeats 1000000 in
theorem markMs_any (v : Value) (n lo hi k : Nat) (xs : List Value) (w : World) (hn : n ≤ 1048576) (hk : k ≤ 4611686018427387904) (h : OwnR w lo hi 57 3 v n xs) :
    Calls Try.prog 13 #[v, .int .i64 k] w fun e w' => e = .returned (.int .i64 (k + n * 3 : Nat)) ∧ OwnR w' lo hi 57 3 v n (mkI k (n * 3)) ∧ Chg w w' lo hi := by
  have HTB : Hid (∀ b, v.ownBlock = some b → b < hi) := h.tb
  have ho := h.r
  clear h
  rcases id ho.2 with ⟨rfl, rfl⟩ | ⟨g, cap, cur, rfl, hbg, hgg, hnc, hcm, _⟩
  · go_enter Try.func13, Try.ntmps13
    go_wp2
    refine wp_loop_rounds 1 ?_
    rw [rounds_succ]
    go_wp2
    go_ret
    exact ⟨rfl, ⟨World.ownsRow_nil _ _ _ _, fun b hb => by cases hb⟩, Chg.refl _ _ _⟩
  · have HO : Hid (w.ownsRow lo 57 3 (.slice (some ⟨g, 0, none⟩) n cap) n xs) := ho
    have HGB : Hid (lo ≤ g ∧ g < hi) := ⟨(ho.lt g rfl).1, HTB.out g rfl⟩
    clear ho hbg hgg hnc hcm
    go_enter Try.func13, Try.ntmps13
    go_wp2
    go_loopw [1, 5] (fun a i wr => ∃ j : Nat, j ≤ n ∧ i = .int .i64 j ∧ a = .int .i64 (k + j * 3 : Nat) ∧ Hid (Chg w wr lo hi) ∧ Hid (∃ xs, wr.ownsRow lo 57 3 (.slice (some ⟨g, 0, none⟩) n cap) n xs ∧ ∀ t, t < j * 3 → xs[t]? = some (.int .i64 (k + t : Nat)))) (fun _ i _ => n - (intOf i).toNat)
    case atStart => exact ⟨0, Nat.zero_le _, rfl, rfl, Chg.refl _ _ _, xs, HO.out, fun t ht => by omega⟩
    case round =>
      obtain ⟨j, hj, rfl, rfl, HG, HX⟩ := hrel
      by_cases hlt : j < n
      · obtain ⟨u0, u1, u2, c0, c1, c2, f0, f1, f2, HR⟩ := mark3_round hlt HG.out HGB.out HX.out (a := (k : Int) + (j : Int) * 3) (b := (k : Int) + (j : Int) * 3 + 1) (c := (k : Int) + (j : Int) * 3 + 1 + 1) (by omega) (by omega) (by omega)
        go_wp2
        go_roundw
        case rel => exact ⟨j + 1, by omega, by go_num, by go_num, HR.out.1, HR.out.2⟩
        case measure => simp [intOf]; omega
      · go_wp2
        go_ret
        obtain ⟨ys, h1, h2⟩ := HX.out
        have hjn : j = n := by omega
        subst hjn
        refine ⟨rfl, ⟨?_, HTB.out⟩, HG.out⟩
        rw [← mkI3_of h1.1 h2]
        exact h1

set_option maxHeartbeats 1000000 in
theorem heldMs_any (v : Value) (n lo hi k : Nat) (w : World) (hn : n ≤ 1048576) (hk : k ≤ 1000) (h : OwnR w lo hi 57 3 v n (mkI k (n * 3))) :
    Calls Try.prog 36 #[v, .int .i64 k] w fun e w' => e = .returned (.int .i64 (k + n * 3 : Nat)) ∧ w' = w := by
  have ho := h.r
  clear h
  rcases id ho.2 with ⟨rfl, rfl⟩ | ⟨g, cap, cur, rfl, hbg, hgg, hnc, hcm, _⟩
  · go_enter Try.func36, Try.ntmps36
    go_wp2
    refine wp_loop_rounds 1 ?_
    rw [rounds_succ]
    go_wp2
    go_ret
    exact ⟨rfl, rfl⟩
  · have HO : Hid (w.ownsRow lo 57 3 (.slice (some ⟨g, 0, none⟩) n cap) n (mkI k (n * 3))) := ho
    clear ho hbg hgg hnc hcm
    go_enter Try.func36, Try.ntmps36
    go_wp2
    go_loop [1, 5] (fun a i => ∃ j : Nat, j ≤ n ∧ i = .int .i64 j ∧ a = .int .i64 (k + j * 3 : Nat)) (fun _ i => n - (intOf i).toNat)
    case atStart => exact ⟨0, Nat.zero_le _, rfl, rfl⟩
    case round =>
      obtain ⟨j, hj, rfl, rfl⟩ := hrel
      by_cases hlt : j < n
      · have c0 : w.cell? ⟨g, j * 3, none⟩ = some (.int .i64 ((k : Int) + (j : Int) * 3)) := (HO.out.cellAt (j * 3) (by omega)).trans (by rw [mkI_at (by omega)]; simp)
        have c1 : w.cell? ⟨g, j * 3 + 1, none⟩ = some (.int .i64 ((k : Int) + (j : Int) * 3 + 1)) := (HO.out.cellAt (j * 3 + 1) (by omega)).trans (by rw [mkI_at (by omega)]; simp; omega)
        have c2 : w.cell? ⟨g, j * 3 + 2, none⟩ = some (.int .i64 ((k : Int) + (j : Int) * 3 + 1 + 1)) := (HO.out.cellAt (j * 3 + 2) (by omega)).trans (by rw [mkI_at (by omega)]; simp; omega)
        go_wp2
        go_round
        case rel => exact ⟨j + 1, by omega, by go_num, by go_num⟩
        case measure => simp [intOf]; omega
      · go_wp2
        go_ret
        have hjn : j = n := by omega
        subst hjn
        exact ⟨rfl, rfl⟩

set_option maxRecDepth 20000 in
set_option maxHeartbeats 2000000 in
/-- The bench is filled where the members have no fault; else the code. -/
theorem fillBench_bad (n c : Nat) (a : Option Addr) (ms : List Mb) (cd : Int) (w : World) (hn : n ≤ 1048576) (hC : MAt w a n ms) (hcd : memsR ms = cd) (h0 : ¬ cd = 0) :
    Calls Try.prog 26 #[.slice a n c] w fun e w' => e = .returned (.tuple #[.slice none 0 0, .int .i64 cd]) ∧ Below w.heap.size w w' := by
  have hF := iMembersFault_any n c a ms w hn hC
  rw [hcd] at hF
  clear hC hcd
  go_enter Try.func26, Try.ntmps26
  go_wp2_with (first | (go_at_call 46; (with_reducible refine hF.mono ?_); clear hF; rintro e w2 ⟨rfl, hb2⟩))
  exact bodyPost_ret (v := .tuple #[.slice none 0 0, .int .i64 cd]) (by simp [results, Try.results26, go_sem]) rfl ⟨rfl, hb2⟩

set_option maxRecDepth 20000 in
set_option maxHeartbeats 2000000 in
theorem fillBench_ok (n c : Nat) (a : Option Addr) (ms : List Mb) (w : World) (hn : n ≤ 1048576) (hC : MAt w a n ms) (hcd : memsR ms = 0) :
    Calls Try.prog 26 #[.slice a n c] w fun e w' => ∃ va vc, e = .returned (.tuple #[.slice va n vc, .int .i64 0]) ∧ w'.ownsRow w.heap.size 93 3 (.slice va n vc) n (mcells ms) ∧ Below w.heap.size w w' := by
  have hF := iMembersFault_any n c a ms w hn hC
  rw [hcd] at hF
  have h8 : n ≤ 8 := by
    rcases Nat.lt_or_ge 8 n with h | h
    · unfold memsR at hcd
      rw [if_pos (by rw [hC.1]; exact h)] at hcd
      cases hcd
    · exact h
  have HC : Hid (MAt w a n ms) := hC
  have HN : Hid (ms.length = n) := hC.1
  clear hC hcd
  go_enter Try.func26, Try.ntmps26
  go_wp2_with (first | (go_at_call 46; (with_reducible refine hF.mono ?_); clear hF; rintro e w2 ⟨rfl, hb2⟩; have HB2 : Hid (Below w.heap.size w w2) := hb2; clear hb2))
  go_loopw [5, 15] (fun v i wr => ∃ j : Nat, j ≤ n ∧ i = .int .i64 j ∧ Below w.heap.size w wr ∧ ∃ va vc, v = .slice va j vc ∧ Hid (wr.ownsRow w.heap.size 93 3 (.slice va j vc) j (mcells (ms.take j)))) (fun _ i _ => n - (intOf i).toNat)
  case atStart => exact ⟨0, Nat.zero_le _, rfl, HB2.out, none, 0, rfl, ⟨rfl, .inl ⟨rfl, rfl⟩⟩⟩
  case round =>
    obtain ⟨j, hj, rfl, hbel, va, vc, rfl, HO⟩ := hrel
    by_cases hlt : j < n
    · rcases HC.out.2 with h0 | ⟨b, off, e0, l0, d0⟩
      · omega
      subst e0
      obtain ⟨o, ho⟩ : ∃ o, o = ms.getD j Z3 := ⟨_, rfl⟩
      have p0 := d0 j hlt
      rw [← ho] at p0
      have HTS : Hid (ms.take (j + 1) = ms.take j ++ [o]) := by
        have := take_map1 id HN.out hlt ho
        rw [List.map_id, List.map_id] at this
        exact this
      obtain ⟨ok, op, oq⟩ := o
      have x0 := (hbel.cell (p := ⟨b, off + j * 3, none⟩) l0).trans p0.1
      have x1 := (hbel.cell (p := ⟨b, off + j * 3 + 1, none⟩) l0).trans p0.2.1
      have x2 := (hbel.cell (p := ⟨b, off + j * 3 + 2, none⟩) l0).trans p0.2.2
      simp only at x0 x1 x2
      have hki : (j : Int) < (n : Int) := by omega
      have hsz := hbel.size
      obtain ⟨g5, cap, w5, hrun, HC5⟩ := seat_added (o := (ok, op, oq)) (X := wr.heap.size + 1) ((HO.out.alloc (.cells #[.int .i64 ok, .int .i64 op, .int .i64 oq] 57)).alloc (.cells #[.int .i64 ok, .int .i64 op, .int .i64 oq] 93)) (heap_alloc_at _ _ _ (by simp)) (by omega) (by simp; omega)
      have HB5 : Hid (Below w.heap.size w w5) := (hbel.trans ((below_box2 _ _).mono hbel.size)).grown HC5.out.2 (by simp; omega) (fun k hk => (HO.out.lt k hk).1)
      clear ho p0 d0 hsz
      go_wp2_with (first
        | (at_builtin; go_must (refine wpList_append_runC (by rfl) _ _ _ (by rfl) (by rfl) (by rfl) hrun ?_); clear hrun))
      go_roundw
      case rel => exact ⟨j + 1, by omega, by go_num, HB5.out, _, _, rfl, by rw [HTS.out]; exact HC5.out.1⟩
      case measure => simp [intOf]; omega
    · have hjn : j = n := by omega
      subst hjn
      have HTF : Hid (ms.take j = ms) := List.take_of_length_le (by rw [HN.out]; omega)
      go_wp2
      exact bodyPost_ret (v := .tuple #[.slice va j vc, .int .i64 0]) (by simp [results, Try.results26, go_sem]) rfl ⟨va, vc, rfl, by have := HO.out; rw [HTF.out] at this; exact this, hbel⟩

end Go.Proofs.Ytkdjfafgjokeeaa
