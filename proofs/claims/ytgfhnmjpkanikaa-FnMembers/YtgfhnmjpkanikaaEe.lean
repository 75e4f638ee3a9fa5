/- Members of the call's own: rows of them, marks in them; the program's bench. -/
import Derived.Test.YtgfhnmjpkanikaaEd
import Derived.Test.YtgfhnmjpkanikaaJn1
import Derived.Test.YtgfhnmjpkanikaaJn2
namespace Go.Proofs.Ytgfhnmjpkanikaa
open Go.RowKit Go.Maps Go.WideMaps

theorem Try.infoSeat : (Try.prog.info? 68).map (fun i => (i.zero, i.size, i.bytes)) = some (some (.agg #[.int .i64 0, .int .i64 0, .int .i64 0]), 3, 24) := by kernel_rfl
theorem mcells_snoc (ms : List Mb) (o : Mb) : mcells (ms ++ [o]) = mcells ms ++ [.int .i64 o.1, .int .i64 o.2.1, .int .i64 o.2.2] := by
  unfold mcells
  rw [List.flatMap_append]
  rfl
theorem ints_snoc (ks : List Int) (k : Int) : ints (ks ++ [k]) = ints ks ++ [.int .i64 k] := by simp [ints]

/-- One more: what the append leaves. -/
theorem seat_added {W : World} {lo X j : Nat} {v : Value} {ms : List Mb} {o : Mb} (h : W.ownsRow lo 68 3 v j (mcells ms)) (hX : W.heap[X]? = some (.cells #[.int .i64 o.1, .int .i64 o.2.1, .int .i64 o.2.2] 68 (0, 0))) (hj : j ≤ 1000) (hlo : lo ≤ W.heap.size) :
    ∃ g cap w5, (Builtin.append_ #[53, 53] 53 #[v, .slice (some ⟨X, 0, none⟩) 1 1]).run Try.prog W = .ok (.slice (some ⟨g, 0, none⟩) (j + 1) cap) w5 ∧
      Hid (w5.ownsRow lo 68 3 (.slice (some ⟨g, 0, none⟩) (j + 1) cap) (j + 1) (mcells (ms ++ [o])) ∧ W.grownBy w5 v.ownBlock) := by
  obtain ⟨i0, hi, hz0, hz1, hz2⟩ := info_parts Try.infoSeat
  obtain ⟨v', w5, hrun, hown', hgrow, hsome⟩ := run_append_own (P := Try.prog) W lo 53 53 68 i0 (.agg #[.int .i64 0, .int .i64 0, .int .i64 0]) 3 24 Try.underlying53 hi hz0 hz1 hz2 rfl (by decide) v j (mcells ms) h ⟨X, 0, none⟩ 1 1 [.int .i64 o.1, .int .i64 o.2.1, .int .i64 o.2.2] rfl (World.news_of_block hX) (by
    intro z hz
    simp only [List.mem_cons, List.not_mem_nil, or_false] at hz
    rcases hz with rfl | rfl | rfl <;> rfl) (by unfold maxLen; omega) (by omega) hlo
  obtain ⟨g, cap, rfl⟩ := ownsRow_succ hown'
  refine ⟨g, cap, w5, hrun, ?_, hgrow⟩
  rw [mcells_snoc]
  exact hown'

/-- One more: what the append leaves. -/
theorem mem_added {W : World} {lo X j : Nat} {v : Value} {ms : List Mb} {o : Mb} (h : W.ownsRow lo 38 3 v j (mcells ms)) (hX : W.heap[X]? = some (.cells #[.int .i64 o.1, .int .i64 o.2.1, .int .i64 o.2.2] 38 (0, 0))) (hj : j ≤ 1000) (hlo : lo ≤ W.heap.size) :
    ∃ g cap w5, (Builtin.append_ #[24, 24] 24 #[v, .slice (some ⟨X, 0, none⟩) 1 1]).run Try.prog W = .ok (.slice (some ⟨g, 0, none⟩) (j + 1) cap) w5 ∧
      Hid (w5.ownsRow lo 38 3 (.slice (some ⟨g, 0, none⟩) (j + 1) cap) (j + 1) (mcells (ms ++ [o])) ∧ W.grownBy w5 v.ownBlock) := by
  obtain ⟨i0, hi, hz0, hz1, hz2⟩ := info_parts Try.infoMem
  obtain ⟨v', w5, hrun, hown', hgrow, hsome⟩ := run_append_own (P := Try.prog) W lo 24 24 38 i0 (.agg #[.int .i64 0, .int .i64 0, .int .i64 0]) 3 24 Try.underlying24 hi hz0 hz1 hz2 rfl (by decide) v j (mcells ms) h ⟨X, 0, none⟩ 1 1 [.int .i64 o.1, .int .i64 o.2.1, .int .i64 o.2.2] rfl (World.news_of_block hX) (by
    intro z hz
    simp only [List.mem_cons, List.not_mem_nil, or_false] at hz
    rcases hz with rfl | rfl | rfl <;> rfl) (by unfold maxLen; omega) (by omega) hlo
  obtain ⟨g, cap, rfl⟩ := ownsRow_succ hown'
  refine ⟨g, cap, w5, hrun, ?_, hgrow⟩
  rw [mcells_snoc]
  exact hown'

/-- One more: what the append leaves. -/
theorem int_added {W : World} {lo X j : Nat} {v : Value} {ks : List Int} {k : Int} (h : W.ownsRow lo 2 1 v j (ints ks)) (hX : W.heap[X]? = some (.cells #[.int .i64 k] 2 (0, 0))) (hj : j ≤ 1000) (hlo : lo ≤ W.heap.size) :
    ∃ g cap w5, (Builtin.append_ #[39, 39] 39 #[v, .slice (some ⟨X, 0, none⟩) 1 1]).run Try.prog W = .ok (.slice (some ⟨g, 0, none⟩) (j + 1) cap) w5 ∧
      Hid (w5.ownsRow lo 2 1 (.slice (some ⟨g, 0, none⟩) (j + 1) cap) (j + 1) (ints (ks ++ [k])) ∧ W.grownBy w5 v.ownBlock) := by
  obtain ⟨i0, hi, hz0, hz1, hz2⟩ := info_parts Try.infoI64
  obtain ⟨v', w5, hrun, hown', hgrow, hsome⟩ := run_append_own (P := Try.prog) W lo 39 39 2 i0 (.int .i64 0) 1 8 Try.underlying39 hi hz0 hz1 hz2 rfl (by decide) v j (ints ks) h ⟨X, 0, none⟩ 1 1 [.int .i64 k] rfl (World.news_of_block hX) (by
    intro z hz
    simp only [List.mem_cons, List.not_mem_nil, or_false] at hz
    subst hz; rfl) (by unfold maxLen; omega) (by omega) hlo
  obtain ⟨g, cap, rfl⟩ := ownsRow_succ hown'
  refine ⟨g, cap, w5, hrun, ?_, hgrow⟩
  rw [ints_snoc]
  exact hown'

theorem mat_row {w : World} {base n c : Nat} {a : Option Addr} {ms : List Mb} {t : TypeId} (h : w.ownsRow base t 3 (.slice a n c) n (mcells ms)) (hn : ms.length = n) : MAt w a n ms := by
  rcases h.2 with ⟨e, e0⟩ | ⟨g, cap, cur, e, _⟩
  · exact ⟨hn, .inl e0⟩
  · cases e; exact MAt.owned h hn
theorem take_map1 {α β : Type} {ms : List α} {n j : Nat} {o d : α} (f : α → β) (hn : ms.length = n) (hlt : j < n) (ho : o = ms.getD j d) : (ms.take (j + 1)).map f = (ms.take j).map f ++ [f o] := by
  have e : ms[j]? = some o := by rw [ho]; simp [List.getD, show j < ms.length by omega]
  rw [List.take_add_one, e]
  simp
set_option maxRecDepth 20000 in
set_option maxHeartbeats 2000000 in
/-- The bench is filled where the members have no fault; else the code. -/
theorem fillBench_bad (n c : Nat) (a : Option Addr) (ms : List Mb) (cd : Int) (w : World) (hn : n ≤ 1048576) (hC : MAt w a n ms) (hcd : memsR ms = cd) (h0 : ¬ cd = 0) :
    Calls Try.prog 19 #[.slice a n c] w fun e w' => e = .returned (.tuple #[.slice none 0 0, .int .i64 cd]) ∧ Below w.heap.size w w' := by
  have hF := iMembersFault_any n c a ms w hn hC
  rw [hcd] at hF
  clear hC hcd
  go_enter Try.func19, Try.ntmps19
  go_wp2_with (first | (go_at_call 10; (with_reducible refine hF.mono ?_); clear hF; rintro e w2 ⟨rfl, hb2⟩))
  exact bodyPost_ret (v := .tuple #[.slice none 0 0, .int .i64 cd]) (by simp [results, Try.results19, go_sem]) rfl ⟨rfl, hb2⟩

set_option maxRecDepth 20000 in
set_option maxHeartbeats 2000000 in
theorem fillBench_ok (n c : Nat) (a : Option Addr) (ms : List Mb) (w : World) (hn : n ≤ 1048576) (hC : MAt w a n ms) (hcd : memsR ms = 0) :
    Calls Try.prog 19 #[.slice a n c] w fun e w' => ∃ va vc, e = .returned (.tuple #[.slice va n vc, .int .i64 0]) ∧ w'.ownsRow w.heap.size 68 3 (.slice va n vc) n (mcells ms) ∧ Below w.heap.size w w' := by
  have hF := iMembersFault_any n c a ms w hn hC
  rw [hcd] at hF
  have h8 : n ≤ 8 := by
    rcases Nat.lt_or_ge 8 n with h | h
    · unfold memsR at hcd
      rw [if_pos (by rw [hC.1]; exact h)] at hcd
      cases hcd
    · exact h
  have HC : Hid (MAt w a n ms) := hC
  have HN : Hid (ms.length = n) := hC.1
  clear hC hcd
  go_enter Try.func19, Try.ntmps19
  go_wp2_with (first | (go_at_call 10; (with_reducible refine hF.mono ?_); clear hF; rintro e w2 ⟨rfl, hb2⟩; have HB2 : Hid (Below w.heap.size w w2) := hb2; clear hb2))
  go_loopw [5, 15] (fun v i wr => ∃ j : Nat, j ≤ n ∧ i = .int .i64 j ∧ Below w.heap.size w wr ∧ ∃ va vc, v = .slice va j vc ∧ Hid (wr.ownsRow w.heap.size 68 3 (.slice va j vc) j (mcells (ms.take j)))) (fun _ i _ => n - (intOf i).toNat)
  case atStart => exact ⟨0, Nat.zero_le _, rfl, HB2.out, none, 0, rfl, ⟨rfl, .inl ⟨rfl, rfl⟩⟩⟩
  case round =>
    obtain ⟨j, hj, rfl, hbel, va, vc, rfl, HO⟩ := hrel
    by_cases hlt : j < n
    · rcases HC.out.2 with h0 | ⟨b, off, e0, l0, d0⟩
      · omega
      subst e0
      obtain ⟨o, ho⟩ : ∃ o, o = ms.getD j Z3 := ⟨_, rfl⟩
      have p0 := d0 j hlt
      rw [← ho] at p0
      have HTS : Hid (ms.take (j + 1) = ms.take j ++ [o]) := by
        have := take_map1 id HN.out hlt ho
        rw [List.map_id, List.map_id] at this
        exact this
      obtain ⟨ok, op, oq⟩ := o
      have x0 := (hbel.cell (p := ⟨b, off + j * 3, none⟩) l0).trans p0.1
      have x1 := (hbel.cell (p := ⟨b, off + j * 3 + 1, none⟩) l0).trans p0.2.1
      have x2 := (hbel.cell (p := ⟨b, off + j * 3 + 2, none⟩) l0).trans p0.2.2
      simp only at x0 x1 x2
      have hki : (j : Int) < (n : Int) := by omega
      have hsz := hbel.size
      obtain ⟨g5, cap, w5, hrun, HC5⟩ := seat_added (o := (ok, op, oq)) (X := wr.heap.size + 1) ((HO.out.alloc (.cells #[.int .i64 ok, .int .i64 op, .int .i64 oq] 38)).alloc (.cells #[.int .i64 ok, .int .i64 op, .int .i64 oq] 68)) (heap_alloc_at _ _ _ (by simp)) (by omega) (by simp; omega)
      have HB5 : Hid (Below w.heap.size w w5) := (hbel.trans ((below_box2 _ _).mono hbel.size)).grown HC5.out.2 (by simp; omega) (fun k hk => (HO.out.lt k hk).1)
      clear ho p0 d0 hsz
      go_wp2_with (first
        | (at_builtin; go_must (refine wpList_append_runC (by rfl) _ _ _ (by rfl) (by rfl) (by rfl) hrun ?_); clear hrun))
      go_roundw
      case rel => exact ⟨j + 1, by omega, by go_num, HB5.out, _, _, rfl, by rw [HTS.out]; exact HC5.out.1⟩
      case measure => simp [intOf]; omega
    · have hjn : j = n := by omega
      subst hjn
      have HTF : Hid (ms.take j = ms) := List.take_of_length_le (by rw [HN.out]; omega)
      go_wp2
      exact bodyPost_ret (v := .tuple #[.slice va j vc, .int .i64 0]) (by simp [results, Try.results19, go_sem]) rfl ⟨va, vc, rfl, by have := HO.out; rw [HTF.out] at this; exact this, hbel⟩

end Go.Proofs.Ytgfhnmjpkanikaa
