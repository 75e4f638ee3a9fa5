/- What is wrong with a node: the program's. -/
import Derived.Test.YtglpbkicmpmepaaNa
namespace Go.Proofs.Ytglpbkicmpmepaa
open Go.RowKit Go.Maps Go.WideMaps

theorem isBlockHeight_any (v : Int) (w : World) : Calls Try.prog 59 #[.int .i64 v] w fun e w' => e = .returned (.bool (inB v 1 40)) ∧ w' = w := by
  have h := isWithin_any v 1 40 w
  obtain ⟨r, hr⟩ : ∃ r, r = inB v 1 40 := ⟨_, rfl⟩
  rw [← hr] at h ⊢
  clear hr
  go_enter Try.func59, Try.ntmps59
  go_wp2_with (go_at_call 44; (with_reducible refine h.mono ?_); clear h; rintro e w' ⟨rfl, hw⟩; have hw2 := hw.symm; subst hw2)
  go_ret
  exact ⟨rfl, rfl⟩
theorem wf_in {v a b : Int} (h : inB v a b = true) (ha : -9223372036854775808 ≤ a) (hb : b ≤ 9223372036854775807) : (Lit.int .i64 v).wf = true := by
  have := inB_true.1 h
  exact WalkArith.wf_i64 (by omega)

/-- The height of the one ahead, as the program asks it. -/
theorem aheadH_any {w : World} {lo G B : Nat} {s : Value} {ms : List Mb} {bs : List Nat} (h : Gv w lo G B s ms bs) (hz : treeR ms = 0) {pv : Int} (hp : pv = 0 ∨ 0 ≤ nAt ms pv) :
    Calls Try.prog 60 #[ptrOf ms bs pv] w fun e w' => e = .returned (.int .i64 (aboveR ms pv)) ∧ w' = w := by
  by_cases e0 : pv = 0
  · subst e0
    rw [ptrOf_none (by rw [no_zero hz]; omega)]
    unfold aboveR
    rw [if_pos rfl]
    exact height_nil w
  · have h1 : 0 ≤ nAt ms pv := hp.resolve_left e0
    rcases nAt_lt ms pv with e | ⟨j, h2, h3, _⟩
    · omega
    · rw [ptrOf_some h3]
      unfold aboveR
      rw [if_neg e0, h3]
      have hb := (h.node j h2).1
      exact height_some _ _ w (by unfold World.cell?; rw [hb]; rfl)

theorem ptrOf_form (ms : List Mb) (bs : List Nat) (id : Int) : (nAt ms id < 0 ∧ ptrOf ms bs id = .pointer none) ∨ (0 ≤ nAt ms id ∧ ∃ b, ptrOf ms bs id = .pointer (some ⟨b, 0, none⟩)) := by
  by_cases h : nAt ms id < 0
  · exact .inl ⟨h, ptrOf_none h⟩
  · exact .inr ⟨by omega, _, by unfold ptrOf ptB; rw [if_neg h]⟩

theorem ht_bound {ms : List Mb} (hz : treeR ms = 0) {pv : Int} (hp : pv = 0 ∨ 0 ≤ nAt ms pv) : 0 ≤ aboveR ms pv ∧ aboveR ms pv ≤ 40 := by
  unfold aboveR
  split
  · omega
  · rename_i e
    rcases nAt_lt ms pv with q | ⟨j, h1, h2, _⟩
    · rcases hp with hp | hp <;> omega
    · have := nodeR_ht (tree_node hz h1)
      rw [h2]
      simp only [Int.toNat_natCast]
      omega

set_option maxRecDepth 20000 in
set_option maxHeartbeats 2000000 in
theorem nodeFault_any (lo G B : Nat) (s : Value) (ms : List Mb) (bs : List Nat) (id pv h : Int) (w : World) (hz : treeR ms = 0) (hw : (Lit.int .i64 pv).wf = true) (hG : Gv w lo G B s ms bs) :
    Calls Try.prog 55 #[.pointer (some ⟨G, 0, none⟩), .agg #[.int .i64 id, .int .i64 pv, .int .i64 h]] w fun e w' => e = .returned (.int .i64 (nodeR ms id pv h)) ∧ Below w.heap.size w w' := by
  have hbx : Below w.heap.size w (w.alloc (.cells #[.int .i64 id, .int .i64 pv, .int .i64 h] 53)) := below_box _
  have HBX : Hid (Below w.heap.size w (w.alloc (.cells #[.int .i64 id, .int .i64 pv, .int .i64 h] 53))) := hbx
  have hG1 := hG.below hbx
  obtain ⟨kb, hkb⟩ : ∃ b, b = inB id 1 60 := ⟨_, rfl⟩
  obtain ⟨fb, hfb⟩ : ∃ b, b = inB h 1 40 := ⟨_, rfl⟩
  have hin : ∀ u, Calls Try.prog 44 #[.int .i64 id, .int .i64 1, .int .i64 60] u fun e w' => e = .returned (.bool kb) ∧ w' = u := fun u => by rw [hkb]; exact isWithin_any _ _ _ u
  have hif : ∀ u, Calls Try.prog 59 #[.int .i64 h] u fun e w' => e = .returned (.bool fb) ∧ w' = u := fun u => by rw [hfb]; exact isBlockHeight_any _ u
  have HZ : Hid (treeR ms = 0) := hz
  have hf2 := find_any lo G B s ms bs pv _ hw hG1
  have HG : Hid (Gv (w.alloc (.cells #[.int .i64 id, .int .i64 pv, .int .i64 h] 53)) lo G B s ms bs) := hG1
  cases kb
  · rw [nodeR_range (.inl hkb.symm)]
    clear hf2 hkb hfb hG hG1 hbx hz
    go_enter Try.func55, Try.ntmps55
    go_wp2_with (go_at_call 44; (with_reducible refine (hin _).mono ?_); rintro e w' ⟨rfl, hw⟩; have hw2 := hw.symm; subst hw2)
    go_ret
    exact ⟨rfl, HBX.out⟩
  cases fb
  · rw [nodeR_range (.inr hfb.symm)]
    clear hf2 hkb hfb hG hG1 hbx hz
    go_enter Try.func55, Try.ntmps55
    go_wp2_with (first | (go_at_call 44; (with_reducible refine (hin _).mono ?_); rintro e w' ⟨rfl, hw⟩; have hw2 := hw.symm; subst hw2) | (go_at_call 59; (with_reducible refine (hif _).mono ?_); rintro e w' ⟨rfl, hw⟩; have hw2 := hw.symm; subst hw2))
    go_ret
    exact ⟨rfl, HBX.out⟩
  have hf1 := find_any lo G B s ms bs id _ (wf_in hkb.symm (by omega) (by omega)) hG1
  rcases ptrOf_form ms bs id with ⟨ht, hpt⟩ | ⟨ht, b1, hpt⟩
  rotate_left
  · rw [nodeR_taken hkb.symm hfb.symm ht]
    rw [hpt] at hf1
    clear hf2 hkb hfb hG hG1 hbx hz hpt ht
    go_enter Try.func55, Try.ntmps55
    go_wp2_with (first | (go_at_call 44; (with_reducible refine (hin _).mono ?_); rintro e w' ⟨rfl, hw⟩; have hw2 := hw.symm; subst hw2) | (go_at_call 59; (with_reducible refine (hif _).mono ?_); rintro e w' ⟨rfl, hw⟩; have hw2 := hw.symm; subst hw2) | (go_at_call 46; (with_reducible refine hf1.mono ?_); clear hf1; rintro e w' ⟨rfl, hw⟩; have hw2 := hw.symm; subst hw2))
    go_ret
    exact ⟨rfl, HBX.out⟩
  rw [hpt] at hf1
  have ht' : ¬ 0 ≤ nAt ms id := by omega
  by_cases hnone : pv ≠ 0 ∧ nAt ms pv < 0
  · rw [nodeR_none hkb.symm hfb.symm ht' hnone]
    rw [ptrOf_none hnone.2] at hf2
    have hp0 : (pv != 0) = true := by simpa using hnone.1
    clear hkb hfb hG hG1 hbx hz hpt ht ht' hnone
    go_enter Try.func55, Try.ntmps55
    go_wp2_with (first | (go_at_call 44; (with_reducible refine (hin _).mono ?_); rintro e w' ⟨rfl, hw⟩; have hw2 := hw.symm; subst hw2) | (go_at_call 59; (with_reducible refine (hif _).mono ?_); rintro e w' ⟨rfl, hw⟩; have hw2 := hw.symm; subst hw2) | (go_at_call 46; first | ((have hq := hf1); clear hf1; (with_reducible refine hq.mono ?_); clear hq; rintro e w' ⟨rfl, hw⟩; have hw2 := hw.symm; subst hw2) | ((with_reducible refine hf2.mono ?_); clear hf2; rintro e w' ⟨rfl, hw⟩; have hw2 := hw.symm; subst hw2)))
    go_ret
    exact ⟨rfl, HBX.out⟩
  rw [nodeR_end hkb.symm hfb.symm ht' hnone]
  have hp : pv = 0 ∨ 0 ≤ nAt ms pv := by
    by_cases e : pv = 0
    · exact .inl e
    · exact .inr (by have : ¬ nAt ms pv < 0 := fun q => hnone ⟨e, q⟩; omega)
  have hH : ∀ nq, Calls Try.prog 60 #[ptrOf ms bs pv] ((w.alloc (.cells #[.int .i64 id, .int .i64 pv, .int .i64 h] 53)).drewN nq) fun e w' => e = .returned (.int .i64 (aboveR ms pv)) ∧ w' = (w.alloc (.cells #[.int .i64 id, .int .i64 pv, .int .i64 h] 53)).drewN nq := fun nq => aheadH_any (HG.out.below (Joins.below_draws _ _ _)) HZ.out hp
  have hbd := ht_bound HZ.out hp
  obtain ⟨ar, har⟩ : ∃ x, x = aboveR ms pv := ⟨_, rfl⟩
  rw [← har] at hH hbd ⊢
  have hcase : (pv = 0 ∧ ptrOf ms bs pv = .pointer none) ∨ ((pv != 0) = true ∧ ∃ b, ptrOf ms bs pv = .pointer (some ⟨b, 0, none⟩)) := by
    rcases ptrOf_form ms bs pv with ⟨e, e1⟩ | ⟨e0, e⟩
    · rcases hp with hp | hp
      · exact .inl ⟨hp, e1⟩
      · omega
    · exact .inr ⟨by simpa using fun q : pv = 0 => by rw [q, no_zero HZ.out] at e0; omega, e⟩
  clear hkb hfb hG hG1 hbx hz hpt ht ht' hnone har hp
  rcases hcase with ⟨rfl, e⟩ | ⟨hp0, b, e⟩
  · rw [e] at hf2 hH
    clear e
    by_cases hne : h ≠ ar + 1
    · have hne2 : (h != ar + 1) = true := by simpa using hne
      rw [if_pos hne]
      clear hne
      go_enter Try.func55, Try.ntmps55
      go_wp2_with (first | (go_at_call 44; (with_reducible refine (hin _).mono ?_); rintro e w' ⟨rfl, hw⟩; have hw2 := hw.symm; subst hw2) | (go_at_call 59; (with_reducible refine (hif _).mono ?_); rintro e w' ⟨rfl, hw⟩; have hw2 := hw.symm; subst hw2) | (go_at_call 46; first | ((have hq := hf1); clear hf1; (with_reducible refine hq.mono ?_); clear hq; rintro e w' ⟨rfl, hw⟩; have hw2 := hw.symm; subst hw2) | ((with_reducible refine hf2.mono ?_); clear hf2; rintro e w' ⟨rfl, hw⟩; have hw2 := hw.symm; subst hw2)))
      go_quiet (first | (go_at_call 60; refine Calls.quiet_of_same (hH _)))
      go_wp2
      go_ret
      exact ⟨rfl, HBX.out.trans (Joins.below_draws _ _ _)⟩
    · have hne2 : (h != ar + 1) = false := by simpa using hne
      rw [if_neg hne]
      clear hne
      go_enter Try.func55, Try.ntmps55
      go_wp2_with (first | (go_at_call 44; (with_reducible refine (hin _).mono ?_); rintro e w' ⟨rfl, hw⟩; have hw2 := hw.symm; subst hw2) | (go_at_call 59; (with_reducible refine (hif _).mono ?_); rintro e w' ⟨rfl, hw⟩; have hw2 := hw.symm; subst hw2) | (go_at_call 46; first | ((have hq := hf1); clear hf1; (with_reducible refine hq.mono ?_); clear hq; rintro e w' ⟨rfl, hw⟩; have hw2 := hw.symm; subst hw2) | ((with_reducible refine hf2.mono ?_); clear hf2; rintro e w' ⟨rfl, hw⟩; have hw2 := hw.symm; subst hw2)))
      go_quiet (first | (go_at_call 60; refine Calls.quiet_of_same (hH _)))
      go_wp2
      go_ret
      exact ⟨rfl, HBX.out.trans (Joins.below_draws _ _ _)⟩
  · rw [e] at hf2 hH
    clear e
    by_cases hne : h ≠ ar + 1
    · have hne2 : (h != ar + 1) = true := by simpa using hne
      rw [if_pos hne]
      clear hne
      go_enter Try.func55, Try.ntmps55
      go_wp2_with (first | (go_at_call 44; (with_reducible refine (hin _).mono ?_); rintro e w' ⟨rfl, hw⟩; have hw2 := hw.symm; subst hw2) | (go_at_call 59; (with_reducible refine (hif _).mono ?_); rintro e w' ⟨rfl, hw⟩; have hw2 := hw.symm; subst hw2) | (go_at_call 46; first | ((have hq := hf1); clear hf1; (with_reducible refine hq.mono ?_); clear hq; rintro e w' ⟨rfl, hw⟩; have hw2 := hw.symm; subst hw2) | ((with_reducible refine hf2.mono ?_); clear hf2; rintro e w' ⟨rfl, hw⟩; have hw2 := hw.symm; subst hw2)))
      go_quiet (first | (go_at_call 60; refine Calls.quiet_of_same (hH _)))
      go_wp2
      go_ret
      exact ⟨rfl, HBX.out.trans (Joins.below_draws _ _ _)⟩
    · have hne2 : (h != ar + 1) = false := by simpa using hne
      rw [if_neg hne]
      clear hne
      go_enter Try.func55, Try.ntmps55
      go_wp2_with (first | (go_at_call 44; (with_reducible refine (hin _).mono ?_); rintro e w' ⟨rfl, hw⟩; have hw2 := hw.symm; subst hw2) | (go_at_call 59; (with_reducible refine (hif _).mono ?_); rintro e w' ⟨rfl, hw⟩; have hw2 := hw.symm; subst hw2) | (go_at_call 46; first | ((have hq := hf1); clear hf1; (with_reducible refine hq.mono ?_); clear hq; rintro e w' ⟨rfl, hw⟩; have hw2 := hw.symm; subst hw2) | ((with_reducible refine hf2.mono ?_); clear hf2; rintro e w' ⟨rfl, hw⟩; have hw2 := hw.symm; subst hw2)))
      go_quiet (first | (go_at_call 60; refine Calls.quiet_of_same (hH _)))
      go_wp2
      go_ret
      exact ⟨rfl, HBX.out.trans (Joins.below_draws _ _ _)⟩

end Go.Proofs.Ytglpbkicmpmepaa
