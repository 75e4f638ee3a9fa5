/- SupplyTo: the program's, the specification's, and the law's walk. -/
import Derived.Test.YtdomekniepeohaaFb
namespace Go.Proofs.Ytdomekniepeohaa
open Go.RowKit Go.Maps Go.WideMaps

def supQ : Nat → Int
  | 0 => 0
  | k + 1 => supQ k + rewQ ((k : Int) + 1)
def supR (h : Int) : Int × Int := if inB h 0 40 = true then (0, supQ h.toNat) else (3, 0)
theorem rewQ_in (h : Int) : 0 ≤ rewQ h ∧ rewQ h ≤ 1000 := by
  unfold rewQ
  exact ⟨Int.ediv_nonneg (by omega) (Int.le_of_lt (Int.pow_pos (by omega))), Int.ediv_le_self _ (by omega)⟩
theorem supQ_in (k : Nat) : 0 ≤ supQ k ∧ supQ k ≤ 1000 * (k : Int) := by
  induction k with
  | zero => simp [supQ]
  | succ k ih =>
    have := rewQ_in ((k : Int) + 1)
    simp only [supQ]
    omega
theorem two_last {w2 : World} {b : Nat} {w : World} (hb : Below w.heap.size w w2) (hl : w.heap.size ≤ b) (v0 v1 : Value) : Below w.heap.size w ((w2.setCell ⟨b, 0, none⟩ v0).setCell ⟨b, 1, none⟩ v1) :=
  (hb.setCell (p := ⟨b, 0, none⟩) hl _).setCell (p := ⟨b, 1, none⟩) hl _
theorem fieldInt (a b : Value) (W : World) : (Instr.field 23 (.agg #[a, b]) 1).run Try.prog W = .ok b W := by
  kernel_rfl

set_option maxRecDepth 20000 in
set_option maxHeartbeats 1000000 in
theorem sSupplyTo_any (h : Int) (w : World) : Calls Try.prog 6 #[.int .i64 h] w fun e w' => e = .returned (.agg #[.int .i64 (supR h).1, .int .i64 (supR h).2]) ∧ Below w.heap.size w w' := by
  obtain ⟨kb, hkb⟩ : ∃ k, k = inB h 0 40 := ⟨_, rfl⟩
  have hin : ∀ u, Calls Try.prog 20 #[.int .i64 h, .int .i64 0, .int .i64 40] u fun e w' => e = .returned (.bool kb) ∧ w' = u := fun u => by rw [hkb]; exact l1In_any _ _ _ u
  cases kb
  · have hr : supR h = (3, 0) := by unfold supR; rw [if_neg (by rw [← hkb]; simp)]
    rw [hr]
    clear hr hkb
    go_enter Try.func6, Try.ntmps6
    go_wp2_with (go_at_call 20; refine (hin _).mono ?_; rintro e w' ⟨rfl, hw⟩; have hw2 := hw.symm; subst hw2)
    obtain ⟨s0, s1⟩ := cells2 (heap_alloc_new w (.cells #[.int .i64 3, .int .i64 0] 23))
    exact bodyPost_ret (v := .agg #[.int .i64 3, .int .i64 0]) (by simp [results, Try.results6, go_sem, s0, s1]) rfl ⟨rfl, below_box _⟩
  · have hr : supR h = (0, supQ h.toNat) := by unfold supR; rw [if_pos hkb.symm]
    rw [hr]
    have hb := inB_true.1 hkb.symm
    obtain ⟨n, rfl⟩ : ∃ n : Nat, h = (n : Int) := ⟨h.toNat, by omega⟩
    have hn : n ≤ 40 := by omega
    rw [Int.toNat_natCast]
    clear hr hkb hb
    go_enter Try.func6, Try.ntmps6
    go_wp2_with (go_at_call 20; refine (hin _).mono ?_; rintro e w' ⟨rfl, hw⟩; have hw2 := hw.symm; subst hw2)
    go_loopw [3, 4] (fun t i wr => ∃ j : Nat, j ≤ n ∧ i = .int .i64 ((j : Int) + 1) ∧ ∃ v : Int, t = .int .i64 v ∧ Hid (v = supQ j) ∧ Hid (wr.heap[w.heap.size]? = some (.cells #[.int .i64 0, .int .i64 0] 23 (0, 0))) ∧ Below w.heap.size w wr) (fun _ i _ => n + 1 - (intOf i).toNat)
    case atStart => exact ⟨0, Nat.zero_le _, rfl, _, rfl, rfl, heap_alloc_new _ _, below_box _⟩
    case round =>
      obtain ⟨j, hj, rfl, v, rfl, HT, HX, hbel⟩ := hrel
      by_cases hlt : j < n
      · obtain ⟨q, hq⟩ : ∃ q, q = rewQ ((j : Int) + 1) := ⟨_, rfl⟩
        have hv := supQ_in j
        rw [← HT.out] at hv
        have hq1 := rewQ_in ((j : Int) + 1)
        rw [← hq] at hq1
        have HQ : Hid (q = rewQ ((j : Int) + 1)) := hq
        have hl : Calls Try.prog 21 #[.int .i64 ((j : Int) + 1)] wr fun e w' => e = .returned (.int .i64 q) ∧ w' = wr := by rw [hq]; exact l7Reward_any _ _ (by omega) (by omega)
        clear hq
        have hwr := IntWalk.i64_in (v + q) (by omega)
        have hki : (j : Int) + 1 ≤ (n : Int) := by omega
        go_wp2_with (first
          | (go_at_call 21; (with_reducible refine hl.mono ?_); clear hl; rintro e w' ⟨rfl, hw⟩; have hw2 := hw.symm; subst hw2))
        go_roundw
        case rel => exact ⟨j + 1, by omega, by go_num, _, rfl, by show _ = _; rw [supQ, HT.out, HQ.out], HX.out, hbel⟩
        case measure => simp [intOf]; omega
      · obtain rfl : j = n := by omega
        obtain rfl : v = supQ j := HT.out
        obtain ⟨_, s1, s2⟩ := two_set HX.out (.int .i64 0) (.int .i64 (supQ j))
        obtain ⟨x0, x1, f0, f1, _⟩ := res_cells HX.out (Below.refl wr.heap.size _) (lt_of_block HX.out)
        have hki : ¬ (j : Int) + 1 ≤ (j : Int) := by omega
        go_wp2
        exact bodyPost_ret (v := .agg #[.int .i64 0, .int .i64 (supQ j)]) (by simp [results, Try.results6, go_sem, s1, s2]) rfl ⟨rfl, two_last hbel (Nat.le_refl _) _ _⟩

set_option maxRecDepth 20000 in
set_option maxHeartbeats 1000000 in
theorem iSupplyTo_any (h : Int) (w : World) : Calls Try.prog 7 #[.int .i64 h] w fun e w' => e = .returned (.agg #[.int .i64 (supR h).1, .int .i64 (supR h).2]) ∧ Below w.heap.size w w' := by
  obtain ⟨kb, hkb⟩ : ∃ k, k = inB h 0 40 := ⟨_, rfl⟩
  have hin : ∀ u, Calls Try.prog 22 #[.int .i64 h, .int .i64 0, .int .i64 40] u fun e w' => e = .returned (.bool kb) ∧ w' = u := fun u => by rw [hkb]; exact isWithin_any _ _ _ u
  cases kb
  · have hr : supR h = (3, 0) := by unfold supR; rw [if_neg (by rw [← hkb]; simp)]
    rw [hr]
    clear hr hkb
    go_enter Try.func7, Try.ntmps7
    go_wp2_with (go_at_call 22; refine (hin _).mono ?_; rintro e w' ⟨rfl, hw⟩; have hw2 := hw.symm; subst hw2)
    obtain ⟨s0, s1⟩ := cells2 (heap_alloc_new w (.cells #[.int .i64 3, .int .i64 0] 23))
    exact bodyPost_ret (v := .agg #[.int .i64 3, .int .i64 0]) (by simp [results, Try.results7, go_sem, s0, s1]) rfl ⟨rfl, below_box _⟩
  · have hr : supR h = (0, supQ h.toNat) := by unfold supR; rw [if_pos hkb.symm]
    rw [hr]
    have hb := inB_true.1 hkb.symm
    obtain ⟨n, rfl⟩ : ∃ n : Nat, h = (n : Int) := ⟨h.toNat, by omega⟩
    have hn : n ≤ 40 := by omega
    rw [Int.toNat_natCast]
    clear hr hkb hb
    go_enter Try.func7, Try.ntmps7
    go_wp2_with (go_at_call 22; refine (hin _).mono ?_; rintro e w' ⟨rfl, hw⟩; have hw2 := hw.symm; subst hw2)
    go_loopw [3, 4] (fun t i wr => ∃ j : Nat, j ≤ n ∧ i = .int .i64 ((j : Int) + 1) ∧ ∃ v : Int, t = .int .i64 v ∧ Hid (v = supQ j) ∧ Hid (wr.heap[w.heap.size]? = some (.cells #[.int .i64 0, .int .i64 0] 23 (0, 0))) ∧ Below w.heap.size w wr) (fun _ i _ => n + 1 - (intOf i).toNat)
    case atStart => exact ⟨0, Nat.zero_le _, rfl, _, rfl, rfl, heap_alloc_new _ _, below_box _⟩
    case round =>
      obtain ⟨j, hj, rfl, v, rfl, HT, HX, hbel⟩ := hrel
      by_cases hlt : j < n
      · obtain ⟨q, hq⟩ : ∃ q, q = rewQ ((j : Int) + 1) := ⟨_, rfl⟩
        have hv := supQ_in j
        rw [← HT.out] at hv
        have hq1 := rewQ_in ((j : Int) + 1)
        rw [← hq] at hq1
        have HQ : Hid (q = rewQ ((j : Int) + 1)) := hq
        have hfl := fieldInt
        have hl : Calls Try.prog 23 #[.int .i64 ((j : Int) + 1)] wr fun e w' => e = .returned (.agg #[.int .i64 0, .int .i64 q]) ∧ Below wr.heap.size wr w' := by
          have e : rewR ((j : Int) + 1) = (0, rewQ ((j : Int) + 1)) := by unfold rewR; rw [if_pos (inB_true.2 (by omega))]
          have := iRewardOf_any ((j : Int) + 1) wr
          rw [e, ← hq] at this
          exact this
        clear hq
        have hwr := IntWalk.i64_in (v + q) (by omega)
        have hki : (j : Int) + 1 ≤ (n : Int) := by omega
        go_wp2_with (first
          | (go_at_call 23; (with_reducible refine hl.mono ?_); clear hl; rintro e w2 ⟨rfl, hb2⟩; have HX2 := keepb HX.out hb2; have hbel2 : Below w.heap.size w w2 := hbel.trans (hb2.mono hbel.size); clear hb2))
        go_roundw
        case rel => exact ⟨j + 1, by omega, by go_num, _, rfl, by show _ = _; rw [supQ, HT.out, HQ.out], HX2.out, hbel2⟩
        case measure => simp [intOf]; omega
      · obtain rfl : j = n := by omega
        obtain rfl : v = supQ j := HT.out
        obtain ⟨_, s1, s2⟩ := two_set HX.out (.int .i64 0) (.int .i64 (supQ j))
        obtain ⟨x0, x1, f0, f1, _⟩ := res_cells HX.out (Below.refl wr.heap.size _) (lt_of_block HX.out)
        have hki : ¬ (j : Int) + 1 ≤ (j : Int) := by omega
        go_wp2
        exact bodyPost_ret (v := .agg #[.int .i64 0, .int .i64 (supQ j)]) (by simp [results, Try.results7, go_sem, s1, s2]) rfl ⟨rfl, two_last hbel (Nat.le_refl _) _ _⟩

theorem lawSupplyTo (h : Int) (w : World) : Calls Try.prog 3 #[.int .i64 h] w fun e w' => e = .returned (.bool true) ∧ Below w.heap.size w w' := by
  obtain ⟨c, hc⟩ : ∃ c, c = (supR h).1 := ⟨_, rfl⟩
  obtain ⟨q, hq⟩ : ∃ q, q = (supR h).2 := ⟨_, rfl⟩
  have h1 := sSupplyTo_any h w
  have h2 := fun u => iSupplyTo_any h u
  rw [← hc, ← hq] at h1
  simp only [← hc, ← hq] at h2
  clear hc hq
  go_enter Try.func3, Try.ntmps3
  go_wp2_with (first
    | (go_at_call 6; (with_reducible refine h1.mono ?_); clear h1; rintro e w1 ⟨rfl, hb1⟩; have HB1 : Hid (Below w.heap.size w (w1.alloc (.cells #[.int .i64 c, .int .i64 q] 23))) := hb1.trans ((below_box _).mono hb1.size); have HX1 : Hid ((w1.alloc (.cells #[.int .i64 c, .int .i64 q] 23)).heap[w1.heap.size]? = some (.cells #[.int .i64 c, .int .i64 q] 23 (0, 0))) := heap_alloc_new _ _; clear hb1)
    | (go_at_call 7; (with_reducible refine (h2 _).mono ?_); clear h2; rintro e w2 ⟨rfl, hb2⟩; have HB2 : Hid (Below w.heap.size w (w2.alloc (.cells #[.int .i64 c, .int .i64 q] 23))) := (HB1.out.trans (hb2.mono HB1.out.size)).trans ((below_box _).mono (Nat.le_trans HB1.out.size hb2.size)); obtain ⟨x0, x1⟩ := cells2 (keepb (keepb HX1.out hb2).out (below_box (.cells #[.int .i64 c, .int .i64 q] 23))).out; have h3 := eqIntR_any c q (w2.alloc (.cells #[.int .i64 c, .int .i64 q] 23)); clear hb2)
    | (go_at_call 8; (with_reducible refine h3.mono ?_); clear h3; rintro e w3 ⟨rfl, hb3⟩; have HB3 : Hid (Below w.heap.size w w3) := HB2.out.trans (hb3.mono HB2.out.size); clear hb3))
  go_ret
  exact ⟨rfl, HB3.out⟩

end Go.Proofs.Ytdomekniepeohaa
