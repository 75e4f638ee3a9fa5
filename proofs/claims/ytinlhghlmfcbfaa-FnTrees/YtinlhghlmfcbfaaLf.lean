/- ForkOf: the specification's. -/
import Derived.Test.YtinlhghlmfcbfaaLd
namespace Go.Proofs.Ytinlhghlmfcbfaa
open Go.RowKit Go.Maps Go.WideMaps

theorem two_end {w2 : World} {b : Nat} {w : World} (hb : Below w.heap.size w w2) (hl : w.heap.size ≤ b) (v0 v1 : Value) : Below w.heap.size w ((w2.setCell ⟨b, 0, none⟩ v0).setCell ⟨b, 1, none⟩ v1) :=
  (hb.setCell (p := ⟨b, 0, none⟩) hl _).setCell (p := ⟨b, 1, none⟩) hl _
/-- The first from a upwards that is above b. -/
def forkF (ms : List Mb) (b : Int) : Nat → Int → Int
  | 0, _ => 0
  | f + 1, a => if a = 0 then 0 else if aboveB ms a b = true then a else forkF ms b f (ms.getD (nAt ms a).toNat Z3).2.1
def forkR (ms : List Mb) (a b : Int) : Int × Int := if treeR ms ≠ 0 then (treeR ms, 0) else if nAt ms a < 0 ∨ nAt ms b < 0 then (4, 0) else (0, forkF ms b (ms.length + 1) a)

set_option maxRecDepth 20000 in
set_option maxHeartbeats 2000000 in
theorem sForkOf_any (n c : Nat) (ad : Option Addr) (ms : List Mb) (a b : Int) (w : World) (hn : n ≤ 1048576) (hcap : n ≤ c) (hC : MAt w ad n ms) :
    Calls Try.prog 9 #[.slice ad n c, .int .i64 a, .int .i64 b] w fun e w' => e = .returned (.agg #[.int .i64 (forkR ms a b).1, .int .i64 (forkR ms a b).2]) ∧ Below w.heap.size w w' := by
  have hbx : Below w.heap.size w (w.alloc (.cells #[.int .i64 0, .int .i64 0] 28)) := below_box _
  have HBX : Hid (Below w.heap.size w (w.alloc (.cells #[.int .i64 0, .int .i64 0] 28))) := hbx
  have HX : Hid ((w.alloc (.cells #[.int .i64 0, .int .i64 0] 28)).heap[w.heap.size]? = some (.cells #[.int .i64 0, .int .i64 0] 28 (0, 0))) := heap_alloc_new _ _
  have hF := l9Fault_any n c ad ms (w.alloc (.cells #[.int .i64 0, .int .i64 0] 28)) hcap (hC.below hbx (Nat.le_refl _))
  have HC : Hid (MAt w ad n ms) := hC
  have HN : Hid (ms.length = n) := hC.1
  obtain ⟨cd, hcd⟩ : ∃ x, x = treeR ms := ⟨_, rfl⟩
  rw [← hcd] at hF
  by_cases h0 : cd = 0
  rotate_left
  · have e1 : forkR ms a b = (cd, 0) := by unfold forkR; rw [← hcd, if_pos h0]
    rw [e1]
    clear e1 hcd hC hbx
    go_enter Try.func9, Try.ntmps9
    go_wp2_with (go_at_call 25; (with_reducible refine hF.mono ?_); clear hF; rintro e w2 ⟨rfl, hb2⟩; have HB2 : Hid (Below w.heap.size w w2) := HBX.out.trans (hb2.mono HBX.out.size); have HX2 := keepb HX.out hb2; obtain ⟨x0, x1, f0, f1, _⟩ := res_cells HX2.out (Below.refl w2.heap.size _) (lt_of_block HX2.out); clear hb2)
    obtain ⟨_, s1, s2⟩ := two_set HX2.out (.int .i64 cd) (.int .i64 0)
    exact bodyPost_ret (v := .agg #[.int .i64 cd, .int .i64 0]) (by simp [results, Try.results9, go_sem, s1, s2]) rfl ⟨rfl, two_end HB2.out (Nat.le_refl _) _ _⟩
  have HZ : Hid (treeR ms = 0) := by show _ = _; rw [← hcd]; exact h0
  obtain ⟨i1, hi1⟩ : ∃ x, x = nAt ms a := ⟨_, rfl⟩
  obtain ⟨i2, hi2⟩ : ∃ x, x = nAt ms b := ⟨_, rfl⟩
  have HI : Hid (nAt ms a = i1 ∧ nAt ms b = i2) := ⟨hi1.symm, hi2.symm⟩
  subst h0
  by_cases hneg : i1 < 0 ∨ i2 < 0
  · have e1 : forkR ms a b = (4, 0) := by unfold forkR; rw [← hcd, if_neg (by simp), if_pos (by rw [← hi1, ← hi2]; exact hneg)]
    rw [e1]
    clear e1 hcd hC hbx hi1 hi2
    by_cases hn1 : i1 < 0
    · go_enter Try.func9, Try.ntmps9
      go_wp2_with (first
        | (go_at_call 25; (with_reducible refine hF.mono ?_); clear hF; rintro e w2 ⟨rfl, hb2⟩; have HB2 : Hid (Below w.heap.size w w2) := HBX.out.trans (hb2.mono HBX.out.size); have HX2 := keepb HX.out hb2; obtain ⟨x0, x1, f0, f1, _⟩ := res_cells HX2.out (Below.refl w2.heap.size _) (lt_of_block HX2.out); have hA := l9At_any n c ad ms a w2 hn (HC.out.below HB2.out (Nat.le_refl _)); rw [HI.out.1] at hA; clear hb2)
        | (go_at_call 26; (with_reducible refine hA.mono ?_); clear hA; rintro e w' ⟨rfl, hw⟩; have hw2 := hw.symm; subst hw2))
      obtain ⟨_, s1, s2⟩ := two_set HX2.out (.int .i64 4) (.int .i64 0)
      exact bodyPost_ret (v := .agg #[.int .i64 4, .int .i64 0]) (by simp [results, Try.results9, go_sem, s1, s2]) rfl ⟨rfl, two_end HB2.out (Nat.le_refl _) _ _⟩
    · have hn2 : i2 < 0 := by rcases hneg with h | h; exact absurd h hn1; exact h
      go_enter Try.func9, Try.ntmps9
      go_wp2_with (first
        | (go_at_call 25; (with_reducible refine hF.mono ?_); clear hF; rintro e w2 ⟨rfl, hb2⟩; have HB2 : Hid (Below w.heap.size w w2) := HBX.out.trans (hb2.mono HBX.out.size); have HX2 := keepb HX.out hb2; obtain ⟨x0, x1, f0, f1, _⟩ := res_cells HX2.out (Below.refl w2.heap.size _) (lt_of_block HX2.out); have hA := l9At_any n c ad ms a w2 hn (HC.out.below HB2.out (Nat.le_refl _)); rw [HI.out.1] at hA; have hA2 := l9At_any n c ad ms b w2 hn (HC.out.below HB2.out (Nat.le_refl _)); rw [HI.out.2] at hA2; clear hb2)
        | (go_at_call 26; first | ((have hq := hA); clear hA; (with_reducible refine hq.mono ?_); clear hq; rintro e w' ⟨rfl, hw⟩; have hw2 := hw.symm; subst hw2) | ((with_reducible refine hA2.mono ?_); clear hA2; rintro e w' ⟨rfl, hw⟩; have hw2 := hw.symm; subst hw2)))
      obtain ⟨_, s1, s2⟩ := two_set HX2.out (.int .i64 4) (.int .i64 0)
      exact bodyPost_ret (v := .agg #[.int .i64 4, .int .i64 0]) (by simp [results, Try.results9, go_sem, s1, s2]) rfl ⟨rfl, two_end HB2.out (Nat.le_refl _) _ _⟩
  have hn1 : ¬ i1 < 0 := fun h => hneg (.inl h)
  have hn2 : ¬ i2 < 0 := fun h => hneg (.inr h)
  obtain ⟨r, hr⟩ : ∃ x, x = forkF ms b (ms.length + 1) a := ⟨_, rfl⟩
  have e1 : forkR ms a b = (0, r) := by unfold forkR; rw [← hcd, if_neg (by simp), if_neg (by rw [← hi1, ← hi2]; exact hneg), hr]
  rw [e1]
  have HR : Hid (r = forkF ms b (ms.length + 1) a) := hr
  have HF0 : Hid (nAt ms a < ((ms.length + 1 : Nat) : Int)) := by
    show _ < _
    rcases nAt_lt ms a with e | ⟨j, h1, h2, _⟩ <;> omega
  have HP0 : Hid (a = 0 ∨ 0 ≤ nAt ms a) := .inr (by rw [← hi1]; omega)
  clear e1 hcd hC hbx hi1 hi2 hr hneg
  go_enter Try.func9, Try.ntmps9
  go_wp2_with (first
    | (go_at_call 25; (with_reducible refine hF.mono ?_); clear hF; rintro e w2 ⟨rfl, hb2⟩; have HB2 : Hid (Below w.heap.size w w2) := HBX.out.trans (hb2.mono HBX.out.size); have HX2 := keepb HX.out hb2; obtain ⟨x0, x1, f0, f1, _⟩ := res_cells HX2.out (Below.refl w2.heap.size _) (lt_of_block HX2.out); have HC2 : Hid (MAt w2 ad n ms) := HC.out.below HB2.out (Nat.le_refl _); have hA := l9At_any n c ad ms a w2 hn HC2.out; rw [HI.out.1] at hA; have hA2 := l9At_any n c ad ms b w2 hn HC2.out; rw [HI.out.2] at hA2; clear hb2)
    | (go_at_call 26; first | ((have hq := hA); clear hA; (with_reducible refine hq.mono ?_); clear hq; rintro e w' ⟨rfl, hw⟩; have hw2 := hw.symm; subst hw2) | ((with_reducible refine hA2.mono ?_); clear hA2; rintro e w' ⟨rfl, hw⟩; have hw2 := hw.symm; subst hw2)))
  go_loop [1] (fun v => ∃ (a' : Int) (f : Nat), v = .int .i64 a' ∧ Hid (r = forkF ms b f a') ∧ Hid (nAt ms a' < (f : Int)) ∧ Hid (a' = 0 ∨ 0 ≤ nAt ms a')) (fun v => (nAt ms (intOf v) + 1).toNat)
  case atStart => exact ⟨a, _, rfl, HR, HF0, HP0⟩
  case round =>
    obtain ⟨a', f, rfl, HT, HF, HP⟩ := hrel
    by_cases h0 : a' = 0
    · subst h0
      obtain rfl : r = 0 := by
        rw [HT.out]
        cases f with
        | zero => rfl
        | succ f => rw [forkF, if_pos rfl]
      go_wp2
      obtain ⟨_, s1, s2⟩ := two_set HX2.out (.int .i64 0) (.int .i64 0)
      exact bodyPost_ret (v := .agg #[.int .i64 0, .int .i64 0]) (by simp [results, Try.results9, go_sem, s1, s2]) rfl ⟨rfl, two_end HB2.out (Nat.le_refl _) _ _⟩
    have h0n : (a' != 0) = true := by simpa using h0
    have hpos : 0 ≤ nAt ms a' := by rcases HP.out with h | h; exact absurd h h0; exact h
    obtain ⟨f', rfl⟩ : ∃ f', f = f' + 1 := ⟨f - 1, by have := HF.out; omega⟩
    obtain ⟨ab, hab⟩ : ∃ x, x = aboveB ms a' b := ⟨_, rfl⟩
    have hB := l9Above_any n c ad ms a' b w2 hn HZ.out HC2.out
    rw [← hab] at hB
    cases ab
    rotate_left
    · obtain rfl : r = a' := by rw [HT.out, forkF, if_neg h0, if_pos hab.symm]
      clear hab
      go_wp2_with (go_at_call 27; (with_reducible refine hB.mono ?_); clear hB; rintro e w' ⟨rfl, hw⟩; have hw2 := hw.symm; subst hw2)
      obtain ⟨_, s1, s2⟩ := two_set HX2.out (.int .i64 0) (.int .i64 r)
      exact bodyPost_ret (v := .agg #[.int .i64 0, .int .i64 r]) (by simp [results, Try.results9, go_sem, s1, s2]) rfl ⟨rfl, two_end HB2.out (Nat.le_refl _) _ _⟩
    obtain ⟨i, hi⟩ : ∃ x, x = nAt ms a' := ⟨_, rfl⟩
    have hA := l9At_any n c ad ms a' w2 hn HC2.out
    rw [← hi] at hA hpos
    obtain ⟨j, rfl⟩ := Int.eq_ofNat_of_zero_le hpos
    have hjn : j < n := by
      rcases nAt_lt ms a' with e | ⟨q, h1, h2, _⟩
      · rw [← hi] at e; omega
      · rw [← hi] at h2; have := HN.out; omega
    obtain ⟨pv, hpv⟩ : ∃ x, x = (ms.getD j Z3).2.1 := ⟨_, rfl⟩
    have HT2 : Hid (r = forkF ms b f' pv) := by show _ = _; rw [HT.out, forkF, if_neg h0, if_neg (by rw [← hab]; simp), ← hi, hpv]; simp
    have hpl := prev_lt HZ.out (show j < ms.length by rw [HN.out]; exact hjn)
    rw [← hpv] at hpl
    have HP2 : Hid (pv = 0 ∨ 0 ≤ nAt ms pv) := by rcases hpl with e | ⟨e, _⟩; exact .inl e; exact .inr e
    have hlt : nAt ms pv < (j : Int) := by
      rcases hpl with e | ⟨_, e⟩
      · rw [e, no_zero HZ.out]; omega
      · exact e
    have HF2 : Hid (nAt ms pv < (f' : Int)) := by show _ < _; have := HF.out; rw [← hi] at this; omega
    have HM : Hid ((nAt ms pv + 1).toNat < (nAt ms a' + 1).toNat) := by show _ < _; rw [← hi]; rcases nAt_lt ms pv with e | ⟨q, _, e, _⟩ <;> omega
    rcases HC2.out.2 with q0 | ⟨bb, off, e0, l0, d0⟩
    · omega
    subst e0
    have y1 := (d0 j hjn).2.1
    rw [← hpv] at y1
    have hki : (j : Int) < (n : Int) := by omega
    clear hi hpv d0 hlt HT HF HP hab hpl
    go_wp2_with (first
      | (go_at_call 27; (with_reducible refine hB.mono ?_); clear hB; rintro e w' ⟨rfl, hw⟩; have hw2 := hw.symm; subst hw2)
      | (go_at_call 26; (with_reducible refine hA.mono ?_); clear hA; rintro e w' ⟨rfl, hw⟩; have hw2 := hw.symm; subst hw2))
    go_round
    case rel => exact ⟨pv, f', rfl, HT2, HF2, HP2⟩
    case measure => exact HM.out

end Go.Proofs.Ytinlhghlmfcbfaa
