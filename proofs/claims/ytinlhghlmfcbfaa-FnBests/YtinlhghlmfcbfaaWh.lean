/- The law on best nodes: the best block goes with all locks, and none that does is higher. -/
import Derived.Test.YtinlhghlmfcbfaaWf
import Derived.Test.YtinlhghlmfcbfaaWg
import Derived.Test.YtinlhghlmfcbfaaVj
import Derived.Test.YtinlhghlmfcbfaaVl
import Derived.Test.YtinlhghlmfcbfaaVf
import Derived.Lib.QuietBelow
namespace Go.Proofs.Ytinlhghlmfcbfaa
open Go.RowKit Go.Maps Go.WideMaps Go.Sort

theorem lwBigU_any (cn cc : Nat) (ca : Option Addr) (w : World) : Calls Try.prog 5 #[.slice ca cn cc] w fun e w' => e = .returned (.bool (decide ((1048576 : Int) < (cn : Int)))) ∧ w' = w := by
  go_enter Try.func5, Try.ntmps5
  go_wp2
  go_ret
  exact ⟨rfl, rfl⟩
theorem fieldB0 (a b : Value) (W : World) : (Instr.field 28 (.agg #[a, b]) 0).run Try.prog W = .ok a W := by
  kernel_rfl
theorem fieldB1 (a b : Value) (W : World) : (Instr.field 28 (.agg #[a, b]) 1).run Try.prog W = .ok b W := by
  kernel_rfl
theorem best_zero {ms : List Mb} {ls : List Int} (h : (bestR ms ls).1 = 0) : treeR ms = 0 ∧ ls.length ≤ 20 ∧ foundB ms ls = true ∧ (bestR ms ls).2 = bestI ms ls := by
  unfold bestR at h ⊢
  by_cases h0 : treeR ms ≠ 0
  · rw [if_pos h0] at h; exact absurd h h0
  · rw [if_neg h0] at h ⊢
    by_cases h1 : 20 < ls.length
    · rw [if_pos h1] at h; cases h
    · rw [if_neg h1] at h ⊢
      by_cases h2 : foundB ms ls = false
      · rw [if_pos h2] at h; cases h
      · rw [if_neg h2]
        exact ⟨Decidable.not_not.1 h0, by omega, by simpa using h2, rfl⟩
/-- The place of the best node, its height; a place that is none where there is none. -/
theorem best_place {ms : List Mb} (h : treeR ms = 0) (ls : List Int) : ∃ jb : Nat, jb ≤ ms.length ∧ (∀ t, t < ms.length → ((ms.getD t Z3).1 == bestI ms ls) = decide (t = jb)) ∧ (jb < ms.length → (ms.getD jb Z3).2.2 = highR ms ls) ∧ (jb = ms.length → highR ms ls = 0) := by
  rcases bestI_ok h ls with ⟨_, e⟩ | ⟨j, h1, _, e2, e3, e4⟩
  · refine ⟨ms.length, Nat.le_refl _, fun t ht => ?_, fun q => by omega, fun _ => by unfold highR; rw [if_pos e]⟩
    rw [e, decide_eq_false (by omega)]
    have := nAt_self h ht
    simp only [beq_eq_false_iff_ne]
    intro q
    rw [q, no_zero h] at this
    omega
  · refine ⟨j, by omega, fun t ht => ?_, fun _ => ?_, fun q => by omega⟩
    · have ht2 := nAt_self h ht
      by_cases q : t = j
      · rw [decide_eq_true q, q, e2]; simp
      · rw [decide_eq_false q]
        simp only [beq_eq_false_iff_ne]
        intro q2
        rw [q2, e3] at ht2
        omega
    · unfold highR htR
      rw [if_neg e4, e3]
      rfl

/-- With a node put behind the best one that one is the best. -/
theorem newBest {ms : List Mb} {ls : List Int} {rv h : Int} {ns : List Mb} {nl m lo vc g2 : Nat} {va : Option Addr} {U : World} (hz : treeR ms = 0) (hf : foundB ms ls = true) (hrv : rv = bestI ms ls) (hh : h = highR ms ls) (hn : (addNR ms (60, rv, h + 1)).1 = 0 ∧ (addNR ms (60, rv, h + 1)).2 = ns) (hl : ns.length = nl) (hok : ls = [] ∨ rv ≠ 0) (hfi : FineI ls) (hlm : ls.length = m) (hm : m ≤ 20)
    (hr : U.ownsRow lo 40 3 (.slice va nl vc) nl (mcells ns)) (hI : IAt U (some ⟨g2, 0, none⟩) m ls) :
    ∀ c2 dd os, Calls Try.prog 15 #[.slice va nl vc, .slice (some ⟨g2, 0, none⟩) m c2] (grow (redrawn U dd) os) fun e w'' => e = .returned (.agg #[.int .i64 0, .int .i64 60]) ∧ ∃ p : Regrown, w'' = grow (redrawn U p.d) p.os := by
  intro c2 dd os
  obtain ⟨e1, e2⟩ := add_tree hz hn.1
  have ens : ns = ms ++ [(60, rv, h + 1)] := hn.2.symm.trans e1
  have hz2 : treeR ns = 0 := by rw [ens]; exact e2
  have hcaps : nl ≤ vc ∧ vc ≤ maxLen := by
    rcases id hr.2 with ⟨e, e0⟩ | ⟨g', c', cur, e, _, _, k1, k2, _⟩
    · exfalso; rw [e0] at hl; rw [ens] at hl; simp at hl
    · cases e; exact ⟨k1, k2⟩
  have hf2 : foundB ns ls = true := by
    unfold foundB at hf ⊢
    rw [List.all_eq_true] at hf ⊢
    intro x hx
    have := hf x hx
    simp only [decide_eq_true_eq] at this ⊢
    rw [ens, nAt_more this]
    exact this
  have hb : bestR ns ls = (0, 60) := by
    unfold bestR
    rw [if_neg (by simp [hz2])]
    by_cases h20 : 20 < ls.length
    · omega
    · rw [if_neg h20, if_neg (by simp [hf2])]
      have := best_more (id := 60) hz hf (by rw [← hrv, ← hh]; exact e2) (by rw [← hrv]; exact hok)
      rw [← hrv, ← hh, ← ens] at this
      rw [this]
  refine Calls.regrown_of ?_
  have := iBestOf_any nl vc m c2 va (some ⟨g2, 0, none⟩) ns ls (grow (redrawn U dd) os) (by omega) ⟨hcaps.1, hcaps.2, (mat_row hr hl).below (below_regrown U dd os) (Nat.le_refl _)⟩ (hI.below (below_regrown U dd os) (Nat.le_refl _)) (fine_tree hz2) hfi
  rw [hb] at this
  exact this

/-- What the law holds on to. -/
structure Bb (w W : World) (g c n g2 c2 m : Nat) (ms : List Mb) (ls : List Int) (B1 : Nat) (rc rv : Int) : Prop where
  bel : Below w.heap.size w W
  tree : n ≤ c ∧ c ≤ maxLen ∧ MAt W (some ⟨g, 0, none⟩) n ms
  lock : IAt W (some ⟨g2, 0, none⟩) m ls
  b1 : W.heap[B1]? = some (.cells #[.int .i64 rc, .int .i64 rv] 28 (0, 0))
theorem Bb.step {w W W' : World} {g c n g2 c2 m : Nat} {ms : List Mb} {ls : List Int} {B1 : Nat} {rc rv : Int} (h : Bb w W g c n g2 c2 m ms ls B1 rc rv) (hb : Below W.heap.size W W') : Bb w W' g c n g2 c2 m ms ls B1 rc rv :=
  ⟨h.bel.trans (hb.mono h.bel.size), ⟨h.tree.1, h.tree.2.1, h.tree.2.2.below hb (Nat.le_refl _)⟩, h.lock.below hb (Nat.le_refl _), (keepb h.b1 hb).out⟩

set_option maxRecDepth 20000 in
set_option maxHeartbeats 8000000 in
theorem lawBests (cn cc : Nat) (ca : Option Addr) (l : List Int) (w : World) (hB : BAt w ca cn l) :
    Calls Try.prog 4 #[.slice ca cn cc] w fun e w' => e = .returned (.bool true) ∧ Below w.heap.size w w' := by
  have hbig := lwBigU_any cn cc ca w
  have hmix : Try.prog.follows .mixedOrders = true := by kernel_rfl
  by_cases hcn : 1048576 < cn
  · have hd : decide ((1048576 : Int) < (cn : Int)) = true := decide_eq_true (by omega)
    rw [hd] at hbig
    clear hB hd
    go_enter Try.func4, Try.ntmps4
    go_wp2_with (go_at_call 5; (with_reducible refine hbig.mono ?_); clear hbig; rintro e w1 ⟨rfl, hw⟩; have hw2 := hw.symm; subst hw2)
    go_ret
    exact ⟨rfl, Below.refl _ _⟩
  have hd : decide ((1048576 : Int) < (cn : Int)) = false := decide_eq_false (by omega)
  rw [hd] at hbig
  have hdr := drawBest_any cn cc ca l w (by omega) hB
  clear hB hd
  go_enter Try.func4, Try.ntmps4
  go_wp2_with (first
    | (go_at_call 5; (with_reducible refine hbig.mono ?_); clear hbig; rintro e w1 ⟨rfl, hw⟩; have hw2 := hw.symm; subst hw2)
    | (go_at_call 14; (with_reducible refine hdr.mono ?_); clear hdr; rintro e v ⟨g, c, n, g2, c2, m, ms, ls, rfl, H1, H2, HBL⟩))
  have hn61 : n ≤ 61 := by rw [← H1.out.1]; exact H2.out.1.2
  have hm21 : m ≤ 21 := H2.out.2.2.2.1
  obtain ⟨rc, hrc⟩ : ∃ z, z = (bestR ms ls).1 := ⟨_, rfl⟩
  obtain ⟨rv, hrv⟩ : ∃ z, z = (bestR ms ls).2 := ⟨_, rfl⟩
  have HRR : Hid ((bestR ms ls).1 = rc ∧ (bestR ms ls).2 = rv) := ⟨hrc.symm, hrv.symm⟩
  have h1 := iBestOf_any n c m c2 (some ⟨g, 0, none⟩) (some ⟨g2, 0, none⟩) ms ls v (by omega) H1.out.2 H2.out.2.2.2.2 H2.out.1.1 H2.out.2.1
  rw [← hrc, ← hrv] at h1
  clear hrc hrv
  refine h1.mono ?_
  clear h1
  rintro e wa1 ⟨rfl, hb1⟩
  obtain ⟨U1, hU1⟩ : ∃ U, U = wa1.alloc (.cells #[.int .i64 rc, .int .i64 rv] 28) := ⟨_, rfl⟩
  have HU1 : Hid (U1 = wa1.alloc (.cells #[.int .i64 rc, .int .i64 rv] 28)) := hU1
  have hb2 : Below v.heap.size v U1 := by rw [hU1]; exact hb1.trans ((below_box _).mono hb1.size)
  have HBX : Hid (Bb w U1 g c n g2 c2 m ms ls wa1.heap.size rc rv) := ⟨HBL.out.trans (hb2.mono HBL.out.size), ⟨H1.out.2.1, H1.out.2.2.1, H1.out.2.2.2.below hb2 (Nat.le_refl _)⟩, H2.out.2.2.2.2.below hb2 (Nat.le_refl _), by rw [hU1]; exact heap_alloc_new _ _⟩
  obtain ⟨x0, x1⟩ := cells2 HBX.out.b1
  have cS : ∀ V, Below U1.heap.size U1 V → ∀ dd os, Calls Try.prog 16 #[.slice (some ⟨g, 0, none⟩) n c, .slice (some ⟨g2, 0, none⟩) m c2] (grow (redrawn V dd) os) fun e w'' => e = .returned (.agg #[.int .i64 rc, .int .i64 rv]) ∧ ∃ p : Regrown, w'' = grow (redrawn V p.d) p.os := fun V hV dd os => Calls.regrown_of (by
    have := sBestOf_any n c m c2 (some ⟨g, 0, none⟩) (some ⟨g2, 0, none⟩) ms ls (grow (redrawn V dd) os) (by omega) (by omega) ⟨HBX.out.tree.1, HBX.out.tree.2.1, (HBX.out.tree.2.2.below hV (Nat.le_refl _)).below (below_regrown V dd os) (Nat.le_refl _)⟩ ((HBX.out.lock.below hV (Nat.le_refl _)).below (below_regrown V dd os) (Nat.le_refl _))
    rw [HRR.out.1, HRR.out.2] at this
    exact this)
  clear hU1 hb1 hb2
  have hf0 := fieldB0 (.int .i64 rc) (.int .i64 rv)
  have hf1 := fieldB1 (.int .i64 rc) (.int .i64 rv)
  by_cases h0 : rc = 0
  rotate_left
  · have hne : (rc != 0) = true := by simpa using h0
    have y0 := cell_regrown x0
    have cQ := cS U1 (Below.refl _ _)
    rw [HU1.out] at x0
    go_wp2_with fail
    rw [← HU1.out] at x0
    rw [← HU1.out]
    refine wp_region_quiet_below hmix (by kernel_rfl) ?_
    repeat (go_big_quiet_step (first | exact cQ _ _))
    refine wpQuiet_nil ?_
    intro _ hw'
    obtain ⟨⟨dq, osq⟩, hw''⟩ := hw'
    subst hw''
    go_wp2_with fail
    go_ret
    exact ⟨rfl, HBX.out.bel.trans ((below_regrown U1 dq osq).mono HBX.out.bel.size)⟩
  subst h0
  obtain ⟨hz, hl20, hfo, hrv⟩ := best_zero HRR.out.1
  have HM20 : Hid (m ≤ 20) := by show _ ≤ _; rw [← H2.out.2.2.1]; exact hl20
  have HZ : Hid (treeR ms = 0 ∧ foundB ms ls = true ∧ rv = bestI ms ls) := ⟨hz, hfo, HRR.out.2.symm.trans hrv⟩
  obtain ⟨H, hH⟩ : ∃ z, z = highR ms ls := ⟨_, rfl⟩
  have HH : Hid (H = highR ms ls) := hH
  obtain ⟨jb, hjb, hj1, hj2, hj3⟩ := best_place hz ls
  have HJ : Hid (jb ≤ n ∧ (∀ t, t < n → ((ms.getD t Z3).1 == rv) = decide (t = jb)) ∧ (jb < n → (ms.getD jb Z3).2.2 = H) ∧ (jb = n → H = 0)) := by
    rw [HZ.out.2.2, hH, ← H1.out.1]
    exact ⟨hjb, hj1, hj2, hj3⟩
  clear hz hl20 hfo hrv hH hjb hj1 hj2 hj3
  rw [HU1.out] at x0
  go_wp2_with fail
  rw [← HU1.out] at x0
  rw [← HU1.out]
  go_loopw [6, 7] (fun u i V => ∃ (t : Nat) (h : Int), i = .int .i64 t ∧ u = .int .i64 h ∧ t ≤ n ∧ Hid (Below U1.heap.size U1 V) ∧ Hid (h = if jb < t then H else 0)) (fun _ i _ => n - (intOf i).toNat)
  case atStart => exact ⟨0, 0, rfl, rfl, Nat.zero_le _, Below.refl _ _, by show _ = _; rw [if_neg (by omega)]⟩
  case round =>
    obtain ⟨t, h, rfl, rfl, htn, HBV, HHT⟩ := hrel
    have HBW : Hid (Bb w wr g c n g2 c2 m ms ls wa1.heap.size 0 rv) := HBX.out.step HBV.out
    obtain ⟨r0, r1⟩ := cells2 HBW.out.b1
    by_cases htl : t < n
    · rcases HBW.out.tree.2.2.2 with q0 | ⟨tb, to, e1, tl, td⟩
      · omega
      cases e1
      obtain ⟨x, hx⟩ : ∃ x, x = (ms.getD t Z3).1 := ⟨_, rfl⟩
      obtain ⟨hh, hhh⟩ : ∃ x, x = (ms.getD t Z3).2.2 := ⟨_, rfl⟩
      have s0 := (td t htl).1
      have s2 := (td t htl).2.2
      simp only [Nat.zero_add] at s0 s2
      rw [← hx] at s0
      rw [← hhh] at s2
      have hti : (t : Int) < (n : Int) := by omega
      have hjt := HJ.out.2.1 t htl
      rw [← hx] at hjt
      by_cases ej : t = jb
      · have hxe : (x == rv) = true := by rw [hjt]; exact decide_eq_true ej
        have HNX : Hid (hh = if jb < t + 1 then H else 0) := by
          show _ = _
          rw [if_pos (by omega), hhh, ej]
          exact HJ.out.2.2.1 (by omega)
        clear hx hhh hjt td ej
        go_wp2_with fail
        go_quiet (fail)
        have HBD : Hid (Below U1.heap.size U1 (wr.drewN nq)) := HBV.out.trans ((Joins.below_draws _ _ _).mono HBV.out.size)
        have s3 : (wr.drewN nq).cell? ⟨g, t * 3 + 2, none⟩ = some (.int .i64 hh) := s2
        go_wp2
        go_roundw
        case rel => exact ⟨t + 1, hh, by go_num, rfl, by omega, HBD.out, HNX⟩
        case measure => simp [intOf]; omega
      · have hxe : (x == rv) = false := by rw [hjt]; exact decide_eq_false ej
        have HNX : Hid (h = if jb < t + 1 then H else 0) := by
          show _ = _
          rw [HHT.out]
          by_cases q : jb < t
          · rw [if_pos q, if_pos (by omega)]
          · rw [if_neg q, if_neg (by omega)]
        clear hx hhh hjt td ej
        go_wp2_with fail
        go_quiet (fail)
        have HBD : Hid (Below U1.heap.size U1 (wr.drewN nq)) := HBV.out.trans ((Joins.below_draws _ _ _).mono HBV.out.size)
        go_wp2
        go_roundw
        case rel => exact ⟨t + 1, h, by go_num, rfl, by omega, HBD.out, HNX⟩
        case measure => simp [intOf]; omega
    have htn2 : t = n := by omega
    obtain rfl : h = H := by
      rw [HHT.out]
      by_cases q : jb < t
      · rw [if_pos q]
      · rw [if_neg q]
        exact (HJ.out.2.2.2 (by have := HJ.out.1; omega)).symm
    have g1 : ¬ (t : Int) < (n : Int) := by omega
    have cA : ∀ V x y, Below U1.heap.size U1 V → (Lit.int .i64 x).wf = true → (Lit.int .i64 y).wf = true → ∀ r, aboveB ms x y = r → ∀ dd os, Calls Try.prog 12 #[.slice (some ⟨g, 0, none⟩) n c, .int .i64 x, .int .i64 y] (grow (redrawn V dd) os) fun e w'' => e = .returned (.bool r) ∧ ∃ p : Regrown, w'' = grow (redrawn V p.d) p.os := fun V x y hV hx hy r hr dd os => Calls.regrown_of (by
      have := iIsAbove_any n c (some ⟨g, 0, none⟩) ms x y (grow (redrawn V dd) os) ((HBX.out.tree.2.2.below hV (Nat.le_refl _)).below (below_regrown V dd os) (Nat.le_refl _)) H2.out.1.1 hx hy (Nat.le_trans H1.out.2.1 H1.out.2.2.1)
      have e : isAboveR ms x y = r := by unfold isAboveR; rw [if_pos HZ.out.1]; exact hr
      rw [e] at this
      exact this)
    have HWV : Hid ((Lit.int .i64 rv).wf = true) := by
      rw [HZ.out.2.2]
      rcases bestI_ok HZ.out.1 ls with ⟨_, e⟩ | ⟨j, _, _, e, _⟩
      · rw [e]; exact wf_lim (by decide) (by decide)
      · rw [e]; exact ((fine_tree HZ.out.1) j).1
    have HHB : Hid (0 ≤ h ∧ h ≤ 40) := by
      show 0 ≤ h ∧ h ≤ 40
      rw [HH.out]
      unfold highR
      split
      · omega
      · rename_i e
        rcases bestI_ok HZ.out.1 ls with ⟨_, e2⟩ | ⟨j, q1, _, _, e2, _⟩
        · exact absurd e2 e
        · unfold htR
          rw [e2]
          have := nodeR_ht (tree_node HZ.out.1 q1)
          simp only [Int.toNat_natCast]
          omega
    clear r0 r1 htl HHT HBW
    go_wp2_with fail
    go_loopw [8] (fun i V => ∃ k : Nat, i = .int .i64 k ∧ k ≤ m ∧ Hid (Below U1.heap.size U1 V)) (fun i _ => m - (intOf i).toNat)
    case atStart => exact ⟨0, rfl, Nat.zero_le _, HBV⟩
    case round =>
      obtain ⟨k, rfl, hkm, HBV2⟩ := hrel
      have HBW : Hid (Bb w wr g c n g2 c2 m ms ls wa1.heap.size 0 rv) := HBX.out.step HBV2.out
      obtain ⟨r0, r1⟩ := cells2 HBW.out.b1
      by_cases hkl : k < m
      · rcases HBW.out.lock.2 with q0 | ⟨lb, lo, e1, ll, ld⟩
        · omega
        cases e1
        obtain ⟨x, hx⟩ : ∃ x, x = ls.getD k 0 := ⟨_, rfl⟩
        have s0 := ld k hkl
        rw [← hx] at s0
        simp only [Nat.zero_add] at s0
        have hki : (k : Int) < (m : Int) := by omega
        have v0 := cell_regrown r0
        have v1 := cell_regrown r1
        have v2 := cell_regrown s0
        by_cases hrv : rv = 0
        · have hne : (rv != 0) = false := by simpa using hrv
          clear hx ld hrv
          go_wp2_with fail
          refine wp_region_quiet_below hmix (by kernel_rfl) ?_
          repeat (go_big_quiet_step (fail))
          refine wpQuiet_nil ?_
          intro _ hw'
          obtain ⟨⟨dq, osq⟩, hw''⟩ := hw'
          subst hw''
          go_wp2
          go_roundw
          case rel => exact ⟨k + 1, by go_num, by omega, HBV2.out.trans ((below_regrown wr dq osq).mono HBV2.out.size)⟩
          case measure => simp [intOf]; omega
        · have hne : (rv != 0) = true := by simpa using hrv
          have cQ := cA wr x rv HBV2.out (by rw [hx]; exact H2.out.2.1 k) HWV.out true (by
            rw [HZ.out.2.2, hx]
            exact best_above HZ.out.1 (by rw [← HZ.out.2.2]; exact hrv) (mem_getD (by rw [H2.out.2.2.1]; exact hkl)))
          clear hx ld hrv
          go_wp2_with fail
          refine wp_region_quiet_below hmix (by kernel_rfl) ?_
          repeat (go_big_quiet_step (first | exact cQ _ _))
          refine wpQuiet_nil ?_
          intro _ hw'
          obtain ⟨⟨dq, osq⟩, hw''⟩ := hw'
          subst hw''
          go_wp2
          go_roundw
          case rel => exact ⟨k + 1, by go_num, by omega, HBV2.out.trans ((below_regrown wr dq osq).mono HBV2.out.size)⟩
          case measure => simp [intOf]; omega
      have hki : ¬ (k : Int) < (m : Int) := by omega
      clear r0 r1 HBW
      go_wp2_with fail
      go_loopw [9] (fun i V => ∃ t : Nat, i = .int .i64 t ∧ t ≤ n ∧ Hid (Below U1.heap.size U1 V)) (fun i _ => n - (intOf i).toNat)
      case atStart => exact ⟨0, rfl, Nat.zero_le _, HBV2⟩
      case round =>
        obtain ⟨t3, rfl, ht3, HBV3⟩ := hrel
        have HBW : Hid (Bb w wr g c n g2 c2 m ms ls wa1.heap.size 0 rv) := HBX.out.step HBV3.out
        by_cases htl3 : t3 < n
        · obtain ⟨y, hy⟩ : ∃ y, y = (ms.getD t3 Z3).1 := ⟨_, rfl⟩
          obtain ⟨hy2, hhy⟩ : ∃ y, y = (ms.getD t3 Z3).2.2 := ⟨_, rfl⟩
          have HY : Hid ((ms.getD t3 Z3).1 = y ∧ (ms.getD t3 Z3).2.2 = hy2 ∧ t3 < ms.length) := ⟨hy.symm, hhy.symm, by rw [H1.out.1]; exact htl3⟩
          have HTD : Hid (∀ V, Below U1.heap.size U1 V → V.cell? ⟨g, t3 * 3, none⟩ = some (.int .i64 y) ∧ V.cell? ⟨g, t3 * 3 + 2, none⟩ = some (.int .i64 hy2)) := fun V hV => by
            rcases (HBX.out.tree.2.2.below hV (Nat.le_refl _)).2 with q0 | ⟨tb, to, e1, tl, td⟩
            · omega
            cases e1
            have s0 := (td t3 htl3).1
            have s2 := (td t3 htl3).2.2
            rw [HY.out.1] at s0
            rw [HY.out.2.1] at s2
            simp only [Nat.zero_add] at s0 s2
            exact ⟨s0, s2⟩
          have hti3 : (t3 : Int) < (n : Int) := by omega
          clear hy hhy HBW
          go_wp2_with fail
          go_loopw [10, 11] (fun u i V => ∃ (k : Nat) (b : Bool), i = .int .i64 k ∧ u = .bool b ∧ k ≤ m ∧ Hid (Below U1.heap.size U1 V) ∧ Hid (b = (ls.take k).all fun l => aboveB ms l y)) (fun _ i _ => m - (intOf i).toNat)
          case atStart => exact ⟨0, true, rfl, rfl, Nat.zero_le _, HBV3, rfl⟩
          case round =>
            obtain ⟨k4, b, rfl, rfl, hk4, HBV4, HBB⟩ := hrel
            have HBW : Hid (Bb w wr g c n g2 c2 m ms ls wa1.heap.size 0 rv) := HBX.out.step HBV4.out
            obtain ⟨s5, s6⟩ := HTD.out wr HBV4.out
            by_cases hkl4 : k4 < m
            · rcases HBW.out.lock.2 with q0 | ⟨lb, lo, e1, ll, ld⟩
              · omega
              cases e1
              obtain ⟨x, hx⟩ : ∃ x, x = ls.getD k4 0 := ⟨_, rfl⟩
              have s0 := ld k4 hkl4
              rw [← hx] at s0
              simp only [Nat.zero_add] at s0
              have hki4 : (k4 : Int) < (m : Int) := by omega
              have v2 := cell_regrown s0
              have v5 := cell_regrown s5
              have v6 := cell_regrown s6
              obtain ⟨r, hr⟩ : ∃ r, r = aboveB ms x y := ⟨_, rfl⟩
              have HST : Hid (((ls.take (k4 + 1)).all fun l => aboveB ms l y) = (b && r)) := by
                show _ = _
                have hk5 : k4 < ls.length := by rw [H2.out.2.2.1]; exact hkl4
                rw [HBB.out, List.take_add_one, List.all_append, hr, hx]
                simp [List.getD, hk5]
              have cQ := cA wr x y HBV4.out (by rw [hx]; exact H2.out.2.1 k4) (by rw [← HY.out.1]; exact ((fine_tree HZ.out.1) t3).1) r hr.symm
              cases b
              · have HNX : Hid (false = (ls.take (k4 + 1)).all fun l => aboveB ms l y) := by show _ = _; rw [HST.out]; rfl
                clear hx ld hr HST
                go_wp2_with fail
                refine wp_region_quiet_below hmix (by kernel_rfl) ?_
                repeat (go_big_quiet_step (first | exact cQ _ _))
                refine wpQuiet_nil ?_
                intro _ hw'
                obtain ⟨⟨dq, osq⟩, hw''⟩ := hw'
                subst hw''
                go_wp2
                go_roundw
                case rel => exact ⟨k4 + 1, false, by go_num, rfl, by omega, HBV4.out.trans ((below_regrown wr dq osq).mono HBV4.out.size), HNX⟩
                case measure => simp [intOf]; omega
              · have HNX : Hid (r = (ls.take (k4 + 1)).all fun l => aboveB ms l y) := by show _ = _; rw [HST.out]; rfl
                clear hx ld hr HST
                go_wp2_with fail
                refine wp_region_quiet_below hmix (by kernel_rfl) ?_
                repeat (go_big_quiet_step (first | exact cQ _ _))
                refine wpQuiet_nil ?_
                intro _ hw'
                obtain ⟨⟨dq, osq⟩, hw''⟩ := hw'
                subst hw''
                go_wp2
                go_roundw
                case rel => exact ⟨k4 + 1, r, by go_num, rfl, by omega, HBV4.out.trans ((below_regrown wr dq osq).mono HBV4.out.size), HNX⟩
                case measure => simp [intOf]; omega
            have hki4 : ¬ (k4 : Int) < (m : Int) := by omega
            have HFB : Hid (b = fitB ms y ls) := by
              show _ = _
              rw [HBB.out, List.take_of_length_le (by rw [H2.out.2.2.1]; omega)]
              rfl
            cases b
            · clear s5 s6
              go_wp2_with fail
              go_roundw
              case rel => exact ⟨t3 + 1, by go_num, by omega, HBV4⟩
              case measure => simp [intOf]; omega
            · have hle : hy2 ≤ h := by
                rw [HH.out, ← HY.out.2.1]
                exact best_high HZ.out.1 HY.out.2.2 (by rw [HY.out.1]; exact HFB.out.symm)
              have hgt : ¬ h < hy2 := by omega
              have hgd : decide (h < hy2) = false := decide_eq_false hgt
              go_wp2_with fail
              go_roundw
              case rel => exact ⟨t3 + 1, by go_num, by omega, HBV4⟩
              case measure => simp [intOf]; omega
        have hti3 : ¬ (t3 : Int) < (n : Int) := by omega
        obtain ⟨r0, r1⟩ := cells2 HBW.out.b1
        have hhb := HHB.out
        have hwi := IntWalk.i64_in (h + 1) (by omega)
        clear hhb
        go_wp2_with fail
        obtain ⟨nc, hnc⟩ : ∃ z, z = (addNR ms (60, rv, h + 1)).1 := ⟨_, rfl⟩
        obtain ⟨ns, hns⟩ : ∃ z, z = (addNR ms (60, rv, h + 1)).2 := ⟨_, rfl⟩
        have HNN : Hid ((addNR ms (60, rv, h + 1)).1 = nc ∧ (addNR ms (60, rv, h + 1)).2 = ns) := ⟨hnc.symm, hns.symm⟩
        have hadd := iAddNode_any n c (some ⟨g, 0, none⟩) ms 60 rv (h + 1) wr HBW.out.tree H2.out.1.1 HWV.out
        rw [← hnc, ← hns] at hadd
        clear hnc hns
        refine hadd.mono ?_
        clear hadd
        rintro e wa2 ⟨va, vc, rfl, hr2, hb2⟩
        obtain ⟨nl, hnl⟩ : ∃ z, z = ns.length := ⟨_, rfl⟩
        rw [← hnl] at hr2
        rw [← hnl]
        have HNL : Hid (ns.length = nl) := hnl.symm
        obtain ⟨U2, hU2⟩ : ∃ U, U = wa2.alloc (.cells #[.int .i64 nc, .slice va nl vc] 42) := ⟨_, rfl⟩
        have HU2 : Hid (U2 = wa2.alloc (.cells #[.int .i64 nc, .slice va nl vc] 42)) := hU2
        have hb3 : Below wr.heap.size wr U2 := by rw [hU2]; exact hb2.trans ((below_box _).mono hb2.size)
        have HB3 : Hid (Bb w U2 g c n g2 c2 m ms ls wa1.heap.size 0 rv) := HBW.out.step hb3
        have HX2 : Hid (U2.heap[wa2.heap.size]? = some (.cells #[.int .i64 nc, .slice va nl vc] 42 (0, 0))) := by rw [hU2]; exact heap_alloc_new _ _
        have HR2 : Hid (U2.ownsRow wr.heap.size 40 3 (.slice va nl vc) nl (mcells ns)) := by rw [hU2]; exact hr2.alloc _
        have HBU : Hid (Below U1.heap.size U1 U2) := HBV3.out.trans (hb3.mono HBV3.out.size)
        have cQ := cS U2 HBU.out
        clear r0 r1 hU2 hb2 hr2 hnl hb3
        obtain ⟨r0, r1⟩ := cells2 HB3.out.b1
        obtain ⟨r2, r3⟩ := cells2 HX2.out
        have v0 := cell_regrown r0
        have v1 := cell_regrown r1
        have v2 := cell_regrown r2
        have v3 := cell_regrown r3
        by_cases hc0 : nc = 0
        rotate_left
        · have hcn0 : (nc != 0) = true := by simpa using hc0
          go_wp2_with fail
          rw [← HU2.out]
          refine wp_region_quiet_below hmix (by kernel_rfl) ?_
          repeat (go_big_quiet_step (first | exact cQ _ _))
          refine wpQuiet_nil ?_
          intro _ hw'
          obtain ⟨⟨dq, osq⟩, hw''⟩ := hw'
          subst hw''
          go_wp2_with fail
          go_ret
          exact ⟨rfl, HB3.out.bel.trans ((below_regrown U2 dq osq).mono HB3.out.bel.size)⟩
        subst hc0
        by_cases hm0 : 0 < m
        · have hmI : (0 : Int) < (m : Int) := by omega
          by_cases hrv : rv = 0
          · have hr0 : (rv == 0) = true := by simpa using hrv
            clear hrv
            go_wp2_with fail
            rw [← HU2.out]
            refine wp_region_quiet_below hmix (by kernel_rfl) ?_
            repeat (go_big_quiet_step (first | exact cQ _ _))
            refine wpQuiet_nil ?_
            intro _ hw'
            obtain ⟨⟨dq, osq⟩, hw''⟩ := hw'
            subst hw''
            go_wp2_with fail
            go_ret
            exact ⟨rfl, HB3.out.bel.trans ((below_regrown U2 dq osq).mono HB3.out.bel.size)⟩
          · have hr0 : (rv == 0) = false := by simpa using hrv
            have cN := newBest HZ.out.1 HZ.out.2.1 HZ.out.2.2 HH.out HNN.out HNL.out (.inr hrv) H2.out.2.1 H2.out.2.2.1 HM20.out HR2.out HB3.out.lock
            have hf9 := fieldB1 (.int .i64 0) (.int .i64 60)
            clear hrv
            go_wp2_with fail
            rw [← HU2.out]
            refine wp_region_quiet_below hmix (by kernel_rfl) ?_
            repeat (go_big_quiet_step (first | exact cQ _ _ | exact cN _ _ _))
            refine wpQuiet_nil ?_
            intro _ hw'
            obtain ⟨⟨dq, osq⟩, hw''⟩ := hw'
            subst hw''
            go_wp2_with fail
            go_ret
            exact ⟨rfl, HB3.out.bel.trans ((below_regrown U2 dq osq).mono HB3.out.bel.size)⟩
        · have hmI : ¬ (0 : Int) < (m : Int) := by omega
          have cN := newBest HZ.out.1 HZ.out.2.1 HZ.out.2.2 HH.out HNN.out HNL.out (.inl (by have := H2.out.2.2.1; exact List.length_eq_zero_iff.1 (by omega))) H2.out.2.1 H2.out.2.2.1 HM20.out HR2.out HB3.out.lock
          have hf9 := fieldB1 (.int .i64 0) (.int .i64 60)
          go_wp2_with fail
          rw [← HU2.out]
          refine wp_region_quiet_below hmix (by kernel_rfl) ?_
          repeat (go_big_quiet_step (first | exact cQ _ _ | exact cN _ _ _))
          refine wpQuiet_nil ?_
          intro _ hw'
          obtain ⟨⟨dq, osq⟩, hw''⟩ := hw'
          subst hw''
          go_wp2_with fail
          go_ret
          exact ⟨rfl, HB3.out.bel.trans ((below_regrown U2 dq osq).mono HB3.out.bel.size)⟩

end Go.Proofs.Ytinlhghlmfcbfaa
