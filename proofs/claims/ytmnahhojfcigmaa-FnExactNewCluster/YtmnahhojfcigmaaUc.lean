/- The bad ones are struck from a list of one's own; the program's keys that are not bad. -/
import Derived.Test.YtmnahhojfcigmaaUb
import Derived.Test.YtmnahhojfcigmaaXh
namespace Go.Proofs.Ytmnahhojfcigmaa
open Go.RowKit Go.Maps Go.WideMaps

theorem row_prefix1 {w : World} {lo g n cap k : Nat} {e : TypeId} {xs : List Value} (h : w.ownsRow lo e 1 (.slice (some ⟨g, 0, none⟩) n cap) n xs) (hk : k ≤ n) : w.ownsRow lo e 1 (.slice (some ⟨g, 0, none⟩) k cap) k (xs.take k) := by
  have hl := h.1
  refine ⟨by rw [List.length_take]; omega, ?_⟩
  rcases h.2 with ⟨e1, _⟩ | ⟨g', cap', cur, e1, h1, h2, h3, h4, h5, h6⟩
  · cases e1
  · cases e1
    refine .inr ⟨g, cap, cur, rfl, h1, h2, by omega, h4, h5, ?_⟩
    rw [← h6, List.take_take]
    congr 1
    omega
theorem setCells_row1 {lo g n cap : Nat} {e : TypeId} : ∀ (vs : List Value) (o : Nat) (w : World) (xs : List Value), w.ownsRow lo e 1 (.slice (some ⟨g, 0, none⟩) n cap) n xs →
    ∃ ys, (w.setCells g o vs).ownsRow lo e 1 (.slice (some ⟨g, 0, none⟩) n cap) n ys ∧ (∀ t, t < o → ys[t]? = xs[t]?) ∧ w.grownBy (w.setCells g o vs) (some g)
  | [], o, w, xs, h => ⟨xs, h, fun t _ => rfl, World.grownBy.refl _ _⟩
  | v :: vs, o, w, xs, h => by
    have h1 := h.stored o v
    obtain ⟨ys, r1, r2, r3⟩ := setCells_row1 vs (o + 1) (w.setCell ⟨g, o, none⟩ v) _ h1.1
    refine ⟨ys, r1, fun t ht => ?_, ?_⟩
    · rw [r2 t (by omega), List.getElem?_set_ne (by omega)]
    · have a := h1.2
      exact ⟨r3.os.trans a.os, r3.tape.trans a.tape, r3.output.trans a.output, Nat.le_trans a.size r3.size, fun b hb hne => (r3.block b (Nat.lt_of_lt_of_le hb a.size) hne).trans (a.block b hb hne)⟩
/-- 'clear' of the last of a row of numbers. -/
theorem run_clearI {w : World} {lo g n cap k m c : Nat} {xs : List Value} (h : w.ownsRow lo 2 1 (.slice (some ⟨g, 0, none⟩) n cap) n xs) (hkm : k + m = n) (hm : 0 < m) (ty : TypeId) :
    (Builtin.clear_ #[22] ty #[.slice (some ⟨g, k, none⟩) m c]).run Try.prog w = .ok (.tuple #[]) (w.setCells g k (List.replicate m (.int .i64 0))) := by
  have hxl := h.1
  exact Lib.run_clear_slice w 22 2 ty (.int .i64 0) Try.underlying22 (fun w => by kernel_rfl) rfl rfl g k m c hm (fun j hj => by
    rw [h.cellAt (k + j) (by omega), List.getElem?_eq_getElem (by omega)]; rfl) (fun j _ => h.frozenAt _)

theorem filt_yesI {l : List Int} {n j : Nat} {o : Int} {p : Int → Bool} (hn : l.length = n) (hlt : j < n) (ho : o = l.getD j 0) (hp : p o = true) : (l.take (j + 1)).filter p = (l.take j).filter p ++ [o] := by
  rw [take_next hn hlt ho, List.filter_append]; simp [hp]
theorem filt_noI {l : List Int} {n j : Nat} {o : Int} {p : Int → Bool} (hn : l.length = n) (hlt : j < n) (ho : o = l.getD j 0) (hp : p o = false) : (l.take (j + 1)).filter p = (l.take j).filter p := by
  rw [take_next hn hlt ho, List.filter_append]; simp [hp]
theorem filt_allI {ms : List Int} {p : Int → Bool} (h : ∀ t, t < ms.length → p (ms.getD t 0) = true) : ms.filter p = ms := by
  rw [List.filter_eq_self]
  intro x hx
  obtain ⟨t, ht, rfl⟩ := List.getElem_of_mem hx
  have := h t ht
  rw [List.getD, List.getElem?_eq_getElem ht] at this
  exact this
theorem filt_firstI {ms : List Int} {n k : Nat} {p : Int → Bool} (hn : ms.length = n) (hk : k < n) (h : ∀ t, t < k → p (ms.getD t 0) = true) (h2 : p (ms.getD k 0) = false) : (ms.take (k + 1)).filter p = ms.take k := by
  rw [filt_noI hn hk rfl h2]
  refine filt_allI fun t ht => ?_
  rw [List.length_take] at ht
  have e : (ms.take k).getD t 0 = ms.getD t 0 := by simp only [List.getD]; rw [List.getElem?_take_of_lt (by omega)]
  rw [e]
  exact h t (by omega)
theorem ints_getD {l : List Int} {n t : Nat} (hn : l.length = n) (ht : t < n) : (ints l)[t]? = some (.int .i64 (l.getD t 0)) := by
  simp [ints, List.getD, show t < l.length by omega]

/-- In the midst of the striking. -/
structure DelI (w wr : World) (lo g n cap i j : Nat) (l : List Int) (p : Int → Bool) : Prop where
  gr : w.grownBy wr (some g)
  row : ∃ xs, wr.ownsRow lo 2 1 (.slice (some ⟨g, 0, none⟩) n cap) n xs ∧ xs.take i = ints ((l.take j).filter p) ∧ ∀ t, j ≤ t → t < n → xs[t]? = some (.int .i64 (l.getD t 0))
theorem DelI.below {w wr w2 : World} {lo g n cap i j : Nat} {l : List Int} {p : Int → Bool} (h : DelI w wr lo g n cap i j l p) (hb : Below wr.heap.size wr w2) : DelI w w2 lo g n cap i j l p := by
  obtain ⟨xs, h1, h2, h3⟩ := h.row
  exact ⟨grown_below h.gr hb, xs, h1.kept (grown_of_below hb) (by cases Value.ownBlock (.slice (some ⟨g, 0, none⟩) n cap) <;> simp), h2, h3⟩
theorem DelI.skip {w wr : World} {lo g n cap i j : Nat} {l : List Int} {p : Int → Bool} {o : Int} (h : DelI w wr lo g n cap i j l p) (hn : l.length = n) (hlt : j < n) (ho : o = l.getD j 0) (hp : p o = false) : DelI w wr lo g n cap i (j + 1) l p := by
  obtain ⟨xs, h1, h2, h3⟩ := h.row
  exact ⟨h.gr, xs, h1, by rw [filt_noI hn hlt ho hp]; exact h2, fun t h4 h5 => h3 t (by omega) h5⟩
theorem take_set1 {xs ys : List Value} {i : Nat} {a : Value} (h : xs.take i = ys) (hl : i < xs.length) : (xs.set i a).take (i + 1) = ys ++ [a] := by
  subst h
  rw [List.take_add_one, List.getElem?_set_self hl, List.take_set_of_le (Nat.le_refl _)]
  rfl
theorem DelI.put {w wr : World} {lo g n cap i j : Nat} {l : List Int} {p : Int → Bool} {o : Int} (h : DelI w wr lo g n cap i j l p) (hn : l.length = n) (hij : i < j) (hlt : j < n) (ho : o = l.getD j 0) (hp : p o = true) :
    (∃ u0, wr.cell? ⟨g, i, none⟩ = some u0) ∧ wr.frozen? ⟨g, i, none⟩ = false ∧ Hid (DelI w (wr.setCell ⟨g, i, none⟩ (.int .i64 o)) lo g n cap (i + 1) (j + 1) l p) := by
  obtain ⟨xs, h1, h2, h3⟩ := h.row
  have hxl := h1.1
  have r1 := h1.stored i (.int .i64 o)
  refine ⟨⟨_, (h1.cellAt i (by omega)).trans (List.getElem?_eq_getElem (by omega))⟩, h1.frozenAt _, grown_trans h.gr r1.2, _, r1.1, ?_, fun t h4 h5 => ?_⟩
  · rw [take_set1 h2 (by omega), filt_yesI hn hlt ho hp, ints_snoc]
  · rw [List.getElem?_set_ne (by omega)]
    exact h3 t (by omega) h5

def DelOi (w w' : World) (e : Ending) (lo g cap : Nat) (l : List Int) : Prop :=
  e = .returned (.slice (some ⟨g, 0, none⟩) l.length cap) ∧ w'.ownsRow lo 2 1 (.slice (some ⟨g, 0, none⟩) l.length cap) l.length (ints l) ∧ w.grownBy w' (some g)

set_option maxRecDepth 20000 in
set_option maxHeartbeats 4000000 in
theorem deleteI_any (g n cap lo B : Nat) (l t : List Int) (w : World) (hn : n ≤ 500) (hnl : l.length = n) (h : w.ownsRow lo 2 1 (.slice (some ⟨g, 0, none⟩) n cap) n (ints l)) (hk : allK l = true) (hB : Bks w B t) (hBg : B ≠ g) :
    Calls Try.prog 41 #[.slice (some ⟨g, 0, none⟩) n cap, .func (.func 42) #[.map (some B)] #[]] w fun e w' => DelOi w w' e lo g cap (goodL l t) := by
  obtain ⟨hq1, hq2⟩ := row_caps1 h
  have hI := idxHas_any n cap B (some ⟨g, 0, none⟩) l t w (by omega) (IAt.owned h hnl) hk hB
  have HH : Hid (w.ownsRow lo 2 1 (.slice (some ⟨g, 0, none⟩) n cap) n (ints l)) := h
  have HN : Hid (l.length = n) := hnl
  have HCA : Hid (∀ W (s : Int), w.grownBy W (some g) → s ∈ l → Calls Try.prog 42 #[.map (some B), .int .i64 s] W fun e w' => e = .returned (.bool (hasK t s)) ∧ Below W.heap.size W w') := fun W s hW hs =>
    has_any B t s W (hB.kept hW (by simpa using hBg)) (by
      unfold allK at hk
      rw [List.all_eq_true] at hk
      exact wf_key (hk s hs))
  obtain ⟨pd, hpd⟩ : ∃ q : Int → Bool, q = fun k => !hasK t k := ⟨_, rfl⟩
  have HPD : Hid (pd = fun k => !hasK t k) := hpd
  have hgd : goodL l t = l.filter pd := by rw [hpd]; rfl
  rw [hgd]
  unfold maxLen at hq2
  clear h hk hB hpd hnl hgd
  go_enter Try.func41, Try.ntmps41
  go_wp2_with (fail)
  refine hI.mono ?_
  clear hI
  rintro e w2 ⟨i, rfl, hi, hb2⟩
  rcases hi with ⟨rfl, hno⟩ | ⟨k, hk, rfl, hah, hhit⟩
  · have HFI : Hid (DelOi w w2 (.returned (.slice (some ⟨g, 0, none⟩) n cap)) lo g cap (l.filter pd)) := by
      have e : l.filter pd = l := filt_allI fun t ht => by rw [HPD.out]; have := hno t (by rw [← HN.out]; exact ht); simp only at this ⊢; rw [this]; rfl
      rw [e]
      refine ⟨by rw [HN.out], ?_, grown_below (World.grownBy.refl _ _) hb2⟩
      rw [HN.out]
      exact HH.out.kept (grown_of_below hb2) (by cases Value.ownBlock (.slice (some ⟨g, 0, none⟩) n cap) <;> simp)
    clear hno
    go_wp2
    go_ret
    exact HFI.out
  · have HM0 : Hid (DelI w w2 lo g n cap k (k + 1) l pd) := by
      have h0 : DelI w w lo g n cap k (k + 1) l pd := ⟨World.grownBy.refl _ _, ints l, HH.out, by
        rw [filt_firstI HN.out hk (fun t ht => by rw [HPD.out]; have := hah t ht; simp only at this ⊢; rw [this]; rfl) (by rw [HPD.out]; simp only at hhit ⊢; rw [hhit]; rfl)]
        simp [ints, List.map_take], fun t _ h5 => ints_getD HN.out h5⟩
      exact h0.below hb2
    have hkm : ¬ (k : Int) = -1 := by omega
    have hkb : ((k : Int) == -1) = false := by simp
    clear hah hhit hb2
    go_wp2
    go_loopw [5, 6] (fun a b wr => ∃ i j : Nat, j ≤ n ∧ i < j ∧ a = .int .i64 i ∧ b = .int .i64 j ∧ Hid (DelI w wr lo g n cap i j l pd)) (fun _ b _ => n - (intOf b).toNat)
    case atStart => exact ⟨k, k + 1, by omega, by omega, rfl, by go_num, HM0.out⟩
    case round =>
      obtain ⟨i, j, hj, hij, rfl, rfl, HM⟩ := hrel
      by_cases hlt : j < n
      · obtain ⟨o, ho⟩ : ∃ o, o = l.getD j 0 := ⟨_, rfl⟩
        have HS : Hid (o = l.getD j 0) := ho
        have x0 : wr.cell? ⟨g, j, none⟩ = some (.int .i64 o) := by
          obtain ⟨xs, h1, _, h3⟩ := HM.out.row
          have a0 := h3 j (Nat.le_refl _) hlt
          rw [← ho] at a0
          have hxl := h1.1
          exact (h1.cellAt _ (by omega)).trans a0
        have hca := HCA.out wr o HM.out.gr (mem_hit HN.out hlt ho rfl)
        obtain ⟨mb, hmb⟩ : ∃ b, b = hasK t o := ⟨_, rfl⟩
        rw [← hmb] at hca
        have HPO : Hid (pd o = !mb) := by show _ = _; rw [HPD.out, hmb]
        have hki : (j : Int) < (n : Int) := by omega
        have hii : (i : Int) < (n : Int) := by omega
        clear ho hmb
        cases mb
        · go_wp2_with (first
            | (go_at_call 42; (with_reducible refine hca.mono ?_); clear hca; rintro e w3 ⟨rfl, hb3⟩; obtain ⟨⟨u0, c0⟩, f0, HMN⟩ := (HM.out.below hb3).put HN.out hij hlt HS.out HPO.out; clear hb3 x0))
          go_roundw
          case rel => exact ⟨i + 1, j + 1, by omega, by omega, by go_num, by go_num, HMN.out⟩
          case measure => simp [intOf]; omega
        · go_wp2_with (first
            | (go_at_call 42; (with_reducible refine hca.mono ?_); clear hca; rintro e w3 ⟨rfl, hb3⟩; have HMN : Hid (DelI w w3 lo g n cap i (j + 1) l pd) := (HM.out.below hb3).skip HN.out hlt HS.out HPO.out; clear hb3 x0))
          go_roundw
          case rel => exact ⟨i, j + 1, by omega, by omega, rfl, by go_num, HMN.out⟩
          case measure => simp [intOf]; omega
      · obtain ⟨xs, hx1, hx2, _⟩ := HM.out.row
        have hfl : (l.take j).filter pd = l.filter pd := by rw [List.take_of_length_le (by rw [HN.out]; omega)]
        rw [hfl] at hx2
        have hxl := hx1.1
        have hlen : (l.filter pd).length = i := by
          have := congrArg List.length hx2
          rw [List.length_take] at this
          simp [ints] at this
          omega
        have hcl := fun c ty => run_clearI (k := i) (m := n - i) (c := c) hx1 (by omega) (by omega) ty
        obtain ⟨ys, hy1, hy2, hy3⟩ := setCells_row1 (List.replicate (n - i) (.int .i64 0)) i wr xs hx1
        have HFI : Hid (DelOi w (wr.setCells g i (List.replicate (n - i) (.int .i64 0))) (.returned (.slice (some ⟨g, 0, none⟩) i cap)) lo g cap (l.filter pd)) := by
          refine ⟨by rw [hlen], ?_, grown_trans HM.out.gr hy3⟩
          rw [hlen]
          have hp := row_prefix1 hy1 (k := i) (by omega)
          have e : ys.take i = ints (l.filter pd) := by
            rw [← hx2]
            apply List.ext_getElem?
            intro t
            by_cases ht : t < i
            · rw [List.getElem?_take_of_lt ht, List.getElem?_take_of_lt ht, hy2 t ht]
            · rw [List.getElem?_eq_none (by rw [List.length_take]; omega), List.getElem?_eq_none (by rw [List.length_take]; omega)]
          rw [e] at hp
          exact hp
        have hki : ¬ (j : Int) < (n : Int) := by omega
        have k1 : (i : Int) ≤ (n : Int) := by omega
        have k2 : (i : Int) ≤ (cap : Int) := by omega
        have k3 : ¬ cap = i := by omega
        have k4 : (0 : Int) ≤ (i : Int) := by omega
        clear hx1 hx2 hfl hxl hlen hy1 hy2 hy3 HM
        go_wp2_with (first | (at_builtin; go_must (refine wpList_clear_run (by rfl) _ _ (by rfl) (by rfl) (hcl _ _) ?_)))
        go_ret
        exact HFI.out

set_option maxHeartbeats 1000000 in
/-- The keys of a quorum that are not bad, in memory of their own. -/
theorem goodKeys_any (b off n cap B : Nat) (l t : List Int) (x : Int) (w : World) (hn : n ≤ 8) (hI : IAt w (some ⟨b, off, none⟩) n l) (hk : allK l = true) (hB : Bks w B t) :
    Calls Try.prog 24 #[.agg #[.slice (some ⟨b, off, none⟩) n cap, .int .i64 x], .map (some B)] w fun e w' => ∃ va vc, e = .returned (.slice va (goodL l t).length vc) ∧ w'.ownsRow w.heap.size 2 1 (.slice va (goodL l t).length vc) (goodL l t).length (ints (goodL l t)) ∧ Below w.heap.size w w' := by
  have hbx : Below w.heap.size w (w.alloc (.cells #[.slice (some ⟨b, off, none⟩) n cap, .int .i64 x] 26)) := below_box _
  have hC := clone_any b off n cap l (w.alloc (.cells #[.slice (some ⟨b, off, none⟩) n cap, .int .i64 x] 26)) (by omega) (hI.below hbx (Nat.le_refl _))
  have HBX : Hid (Below w.heap.size w (w.alloc (.cells #[.slice (some ⟨b, off, none⟩) n cap, .int .i64 x] 26))) := hbx
  have HN : Hid (l.length = n) := hI.1
  have HB : Hid (Bks (w.alloc (.cells #[.slice (some ⟨b, off, none⟩) n cap, .int .i64 x] 26)) B t) := hB.below hbx
  have hmf : ∀ (fn : Fn) (first cap : Array Value) (w : World), (Instr.makeFunc fn first cap).run Try.prog w = .ok (.func fn first cap) w := fun _ _ _ _ => rfl
  have HK : Hid (allK l = true) := hk
  clear hbx hI hB hk
  go_enter Try.func24, Try.ntmps24
  go_wp2_with (first
    | (go_at_call 37; (with_reducible refine hC.mono ?_); clear hC; rintro e w2 ⟨g, c, rfl, hrow, hb2⟩; have hD := deleteI_any g n c _ B l t w2 (by omega) HN.out hrow HK.out (HB.out.below hb2) (by have := (hrow.lt g rfl).1; have := HB.out.lt; omega); have HGB : Hid (w.heap.size ≤ g) := (by have := (hrow.lt g rfl).1; simp at this; show _ ≤ _; omega); have HB2 : Hid (Below w.heap.size w w2) := HBX.out.trans (hb2.mono HBX.out.size); clear hrow hb2)
    | (go_at_call 41; (with_reducible refine hD.mono ?_); clear hD; rintro e w3 ⟨rfl, ho3, hg3⟩))
  go_ret
  refine ⟨_, _, rfl, Joins.ownsRow_le ho3 (by simp), ?_⟩
  exact HB2.out.grown hg3 HB2.out.size (fun k hk => by cases hk; exact HGB.out)

end Go.Proofs.Ytmnahhojfcigmaa
