/- The law on trees: a path leads to the one that was asked for, and where two part is above both. -/
import Derived.Test.YtinlhghlmfcbfaaWa
import Derived.Test.YtinlhghlmfcbfaaWd
import Derived.Test.YtinlhghlmfcbfaaVc
import Derived.Test.YtinlhghlmfcbfaaNh
import Derived.Test.YtinlhghlmfcbfaaLf
import Derived.Lib.QuietBelow
namespace Go.Proofs.Ytinlhghlmfcbfaa
open Go.RowKit Go.Maps Go.WideMaps Go.Sort

theorem lwBigT_any (cn cc : Nat) (ca : Option Addr) (w : World) : Calls Try.prog 5 #[.slice ca cn cc] w fun e w' => e = .returned (.bool (decide ((1048576 : Int) < (cn : Int)))) ∧ w' = w := by
  go_enter Try.func5, Try.ntmps5
  go_wp2
  go_ret
  exact ⟨rfl, rfl⟩
theorem fieldIR (a b : Value) (W : World) : (Instr.field 28 (.agg #[a, b]) 0).run Try.prog W = .ok a W := by
  kernel_rfl
theorem fork_zero {ms : List Mb} {a b : Int} (h : (forkR ms a b).1 = 0) : treeR ms = 0 ∧ 0 ≤ nAt ms a ∧ 0 ≤ nAt ms b ∧ (forkR ms a b).2 = forkB ms b a := by
  unfold forkR at h ⊢
  by_cases h0 : treeR ms ≠ 0
  · rw [if_pos h0] at h; exact absurd h h0
  · rw [if_neg h0] at h ⊢
    by_cases h1 : nAt ms a < 0 ∨ nAt ms b < 0
    · rw [if_pos h1] at h; cases h
    · rw [if_neg h1]
      exact ⟨Decidable.not_not.1 h0, by omega, by omega, rfl⟩
theorem path_zeroR {ms : List Mb} {a : Int} (h : treeR ms = 0) (ha : 0 ≤ nAt ms a) : pathR ms a = (0, pathB ms a) := by
  unfold pathR
  rw [if_neg (by simp [h]), if_neg (by omega)]
  rfl

theorem fineP {ms : List Mb} {P : List Int} {a : Int} (h : treeR ms = 0) (hP : P = pathB ms a) (ha : 0 ≤ nAt ms a) (t : Nat) : (Lit.int .i64 (P.getD t 0)).wf = true := by
  by_cases ht : t < P.length
  · have hm : P.getD t 0 ∈ pathB ms a := by rw [← hP]; exact mem_getD ht
    have hn := path_in h a (.inr ha) _ hm
    rcases nAt_lt ms (P.getD t 0) with e | ⟨j, h1, h2, h3⟩
    · omega
    · rw [← h3]
      exact ((fine_tree h) j).1
  · rw [List.getD, List.getElem?_eq_none (by omega)]
    exact wf_lim (by decide) (by decide)

/-- The three results in their boxes. -/
structure Bx3 (w W : World) (g c n : Nat) (ms : List Mb) (B1 B2 B3 : Nat) (fc fv pc qc : Int) (P Q : List Int) (lp lq : Nat) (va vb : Option Addr) (vc vd : Nat) : Prop where
  bel : Below w.heap.size w W
  tree : n ≤ c ∧ c ≤ maxLen ∧ MAt W (some ⟨g, 0, none⟩) n ms
  b1 : W.heap[B1]? = some (.cells #[.int .i64 fc, .int .i64 fv] 28 (0, 0))
  b2 : W.heap[B2]? = some (.cells #[.int .i64 pc, .slice va lp vc] 32 (0, 0))
  b3 : W.heap[B3]? = some (.cells #[.int .i64 qc, .slice vb lq vd] 32 (0, 0))
  p : IAt W va lp P
  q : IAt W vb lq Q
theorem Bx3.step {w W W' : World} {g c n : Nat} {ms : List Mb} {B1 B2 B3 : Nat} {fc fv pc qc : Int} {P Q : List Int} {lp lq : Nat} {va vb : Option Addr} {vc vd : Nat} (h : Bx3 w W g c n ms B1 B2 B3 fc fv pc qc P Q lp lq va vb vc vd) (hb : Below W.heap.size W W') : Bx3 w W' g c n ms B1 B2 B3 fc fv pc qc P Q lp lq va vb vc vd :=
  ⟨h.bel.trans (hb.mono h.bel.size), ⟨h.tree.1, h.tree.2.1, h.tree.2.2.below hb (Nat.le_refl _)⟩, (keepb h.b1 hb).out, (keepb h.b2 hb).out, (keepb h.b3 hb).out, h.p.below hb (Nat.le_refl _), h.q.below hb (Nat.le_refl _)⟩

set_option maxRecDepth 20000 in
set_option maxHeartbeats 8000000 in
theorem lawTrees (cn cc : Nat) (ca : Option Addr) (l : List Int) (w : World) (hB : BAt w ca cn l) :
    Calls Try.prog 3 #[.slice ca cn cc] w fun e w' => e = .returned (.bool true) ∧ Below w.heap.size w w' := by
  have hbig := lwBigT_any cn cc ca w
  have hmix : Try.prog.follows .mixedOrders = true := by kernel_rfl
  by_cases hcn : 1048576 < cn
  · have hd : decide ((1048576 : Int) < (cn : Int)) = true := decide_eq_true (by omega)
    rw [hd] at hbig
    clear hB hd
    go_enter Try.func3, Try.ntmps3
    go_wp2_with (go_at_call 5; (with_reducible refine hbig.mono ?_); clear hbig; rintro e w1 ⟨rfl, hw⟩; have hw2 := hw.symm; subst hw2)
    go_ret
    exact ⟨rfl, Below.refl _ _⟩
  have hd : decide ((1048576 : Int) < (cn : Int)) = false := decide_eq_false (by omega)
  rw [hd] at hbig
  have hdr := drawFork_any cn cc ca l w (by omega) hB
  clear hB hd
  go_enter Try.func3, Try.ntmps3
  go_wp2_with (first
    | (go_at_call 5; (with_reducible refine hbig.mono ?_); clear hbig; rintro e w1 ⟨rfl, hw⟩; have hw2 := hw.symm; subst hw2)
    | (go_at_call 6; (with_reducible refine hdr.mono ?_); clear hdr; rintro e v ⟨g, c, n, ms, a, b, rfl, H1, H2, HBL⟩))
  have hn61 : n ≤ 61 := by rw [← H1.out.1]; exact H2.out.1.2
  obtain ⟨fc, hfc⟩ : ∃ z, z = (forkR ms a b).1 := ⟨_, rfl⟩
  obtain ⟨fv, hfv⟩ : ∃ z, z = (forkR ms a b).2 := ⟨_, rfl⟩
  obtain ⟨pc, hpc⟩ : ∃ z, z = (pathR ms a).1 := ⟨_, rfl⟩
  obtain ⟨P, hP⟩ : ∃ z, z = (pathR ms a).2 := ⟨_, rfl⟩
  obtain ⟨qc, hqc⟩ : ∃ z, z = (pathR ms b).1 := ⟨_, rfl⟩
  obtain ⟨Q, hQ⟩ : ∃ z, z = (pathR ms b).2 := ⟨_, rfl⟩
  obtain ⟨lp, hlp⟩ : ∃ z, z = P.length := ⟨_, rfl⟩
  obtain ⟨lq, hlq⟩ : ∃ z, z = Q.length := ⟨_, rfl⟩
  have HFF : Hid ((forkR ms a b).1 = fc ∧ (forkR ms a b).2 = fv) := ⟨hfc.symm, hfv.symm⟩
  have HPP : Hid ((pathR ms a).1 = pc ∧ (pathR ms a).2 = P ∧ P.length = lp) := ⟨hpc.symm, hP.symm, hlp.symm⟩
  have HQQ : Hid ((pathR ms b).1 = qc ∧ (pathR ms b).2 = Q ∧ Q.length = lq) := ⟨hqc.symm, hQ.symm, hlq.symm⟩
  have h1 := iForkOf_any n c (some ⟨g, 0, none⟩) ms a b v H1.out.2.2.2 H2.out.1.1 H2.out.2.1 H2.out.2.2 (Nat.le_trans H1.out.2.1 H1.out.2.2.1)
  rw [← hfc, ← hfv] at h1
  have hPA : ∀ W, Below v.heap.size v W → Calls Try.prog 8 #[.slice (some ⟨g, 0, none⟩) n c, .int .i64 a] W fun e w' => ∃ va vc, e = .returned (.agg #[.int .i64 pc, .slice va lp vc]) ∧ Hid (w'.ownsRow W.heap.size 2 1 (.slice va lp vc) lp (ints P)) ∧ Hid (Below W.heap.size W w') := fun W hW => by
    have := iPathTo_any n c (some ⟨g, 0, none⟩) ms a W (by omega) ⟨H1.out.2.1, H1.out.2.2.1, H1.out.2.2.2.below hW (Nat.le_refl _)⟩ H2.out.1.1 H2.out.2.1
    rw [HPP.out.1, HPP.out.2.1] at this
    refine this.mono fun e w' ⟨va, vc, e1, e2, e3⟩ => ?_
    rw [HPP.out.2.2] at e1 e2
    exact ⟨va, vc, e1, e2, e3⟩
  have hPB : ∀ W, Below v.heap.size v W → Calls Try.prog 8 #[.slice (some ⟨g, 0, none⟩) n c, .int .i64 b] W fun e w' => ∃ va vc, e = .returned (.agg #[.int .i64 qc, .slice va lq vc]) ∧ Hid (w'.ownsRow W.heap.size 2 1 (.slice va lq vc) lq (ints Q)) ∧ Hid (Below W.heap.size W w') := fun W hW => by
    have := iPathTo_any n c (some ⟨g, 0, none⟩) ms b W (by omega) ⟨H1.out.2.1, H1.out.2.2.1, H1.out.2.2.2.below hW (Nat.le_refl _)⟩ H2.out.1.1 H2.out.2.2
    rw [HQQ.out.1, HQQ.out.2.1] at this
    refine this.mono fun e w' ⟨va, vc, e1, e2, e3⟩ => ?_
    rw [HQQ.out.2.2] at e1 e2
    exact ⟨va, vc, e1, e2, e3⟩
  clear hfc hfv hpc hP hqc hQ hlp hlq
  refine h1.mono ?_
  clear h1
  rintro e wa1 ⟨rfl, hb1⟩
  obtain ⟨U1, hU1⟩ : ∃ U, U = wa1.alloc (.cells #[.int .i64 fc, .int .i64 fv] 28) := ⟨_, rfl⟩
  have HU1 : Hid (U1 = wa1.alloc (.cells #[.int .i64 fc, .int .i64 fv] 28)) := hU1
  have HB1 : Hid (Below v.heap.size v U1) := by rw [hU1]; exact hb1.trans ((below_box _).mono hb1.size)
  have HX1 : Hid (U1.heap[wa1.heap.size]? = some (.cells #[.int .i64 fc, .int .i64 fv] 28 (0, 0))) := by rw [hU1]; exact heap_alloc_new _ _
  have h2 := hPA U1 HB1.out
  rw [hU1] at h2
  clear hb1 hPA hU1
  go_wp2_with (go_at_call 8; (with_reducible refine h2.mono ?_); clear h2; rintro e wa2 ⟨va, vc, rfl, HR2, HB2⟩; rw [← HU1.out] at HR2 HB2)
  obtain ⟨U2, hU2⟩ : ∃ U, U = wa2.alloc (.cells #[.int .i64 pc, .slice va lp vc] 32) := ⟨_, rfl⟩
  have HU2 : Hid (U2 = wa2.alloc (.cells #[.int .i64 pc, .slice va lp vc] 32)) := hU2
  have hb12 : Below U1.heap.size U1 U2 := by rw [hU2]; exact HB2.out.trans ((below_box _).mono HB2.out.size)
  have HB3 : Hid (Below v.heap.size v U2) := HB1.out.trans (hb12.mono HB1.out.size)
  have HX2 : Hid (U2.heap[wa1.heap.size]? = some (.cells #[.int .i64 fc, .int .i64 fv] 28 (0, 0))) := keepb HX1.out hb12
  have HY2 : Hid (U2.heap[wa2.heap.size]? = some (.cells #[.int .i64 pc, .slice va lp vc] 32 (0, 0))) := by rw [hU2]; exact heap_alloc_new _ _
  have HP2 : Hid (IAt U2 va lp P) := by rw [hU2]; exact (IAt.owned HR2.out HPP.out.2.2).below (below_box _) (Nat.le_refl _)
  have h3 := hPB U2 HB3.out
  rw [hU2] at h3
  clear hPB hU2 hb12
  refine h3.mono ?_
  clear h3
  rintro e wa3 ⟨vb, vd, rfl, HR3, HB4⟩
  rw [← HU2.out] at HR3 HB4
  obtain ⟨U3, hU3⟩ : ∃ U, U = wa3.alloc (.cells #[.int .i64 qc, .slice vb lq vd] 32) := ⟨_, rfl⟩
  have HU3 : Hid (U3 = wa3.alloc (.cells #[.int .i64 qc, .slice vb lq vd] 32)) := hU3
  have hb23 : Below U2.heap.size U2 U3 := by rw [hU3]; exact HB4.out.trans ((below_box _).mono HB4.out.size)
  have hbv : Below v.heap.size v U3 := HB3.out.trans (hb23.mono HB3.out.size)
  have HBX : Hid (Bx3 w U3 g c n ms wa1.heap.size wa2.heap.size wa3.heap.size fc fv pc qc P Q lp lq va vb vc vd) := ⟨HBL.out.trans (hbv.mono HBL.out.size), ⟨H1.out.2.1, H1.out.2.2.1, H1.out.2.2.2.below hbv (Nat.le_refl _)⟩, (keepb HX2.out hb23).out, (keepb HY2.out hb23).out, by rw [hU3]; exact heap_alloc_new _ _, HP2.out.below hb23 (Nat.le_refl _), by rw [hU3]; exact (IAt.owned HR3.out HQQ.out.2.2).below (below_box _) (Nat.le_refl _)⟩
  obtain ⟨x0, x1⟩ := cells2 HBX.out.b1
  obtain ⟨x2, x3⟩ := cells2 HBX.out.b2
  obtain ⟨x4, x5⟩ := cells2 HBX.out.b3
  clear hU3 hb23 hbv
  by_cases h0 : fc = 0
  rotate_left
  · have hne : (fc != 0) = true := by simpa using h0
    obtain ⟨tr, htr⟩ : ∃ z, z = treeR ms := ⟨_, rfl⟩
    have y0 := cell_regrown x0
    have cS : ∀ dd os, Calls Try.prog 9 #[.slice (some ⟨g, 0, none⟩) n c, .int .i64 a, .int .i64 b] (grow (redrawn U3 dd) os) fun e w'' => e = .returned (.agg #[.int .i64 fc, .int .i64 fv]) ∧ ∃ p : Regrown, w'' = grow (redrawn U3 p.d) p.os := fun dd os => Calls.regrown_of (by
      have := sForkOf_any n c (some ⟨g, 0, none⟩) ms a b (grow (redrawn U3 dd) os) (by omega) H1.out.2.1 (HBX.out.tree.2.2.below (below_regrown U3 dd os) (Nat.le_refl _))
      rw [HFF.out.1, HFF.out.2] at this
      exact this)
    have cI : ∀ dd os, Calls Try.prog 10 #[.slice (some ⟨g, 0, none⟩) n c] (grow (redrawn U3 dd) os) fun e w'' => e = .returned (.int .i64 tr) ∧ ∃ p : Regrown, w'' = grow (redrawn U3 p.d) p.os := fun dd os => Calls.regrown_of (by
      rw [htr]
      exact iTreeFault_any n c (some ⟨g, 0, none⟩) ms (grow (redrawn U3 dd) os) (HBX.out.tree.2.2.below (below_regrown U3 dd os) (Nat.le_refl _)) H2.out.1.1 (Nat.le_trans H1.out.2.1 H1.out.2.2.1))
    have cT : ∀ dd os, Calls Try.prog 11 #[.slice (some ⟨g, 0, none⟩) n c] (grow (redrawn U3 dd) os) fun e w'' => e = .returned (.int .i64 tr) ∧ ∃ p : Regrown, w'' = grow (redrawn U3 p.d) p.os := fun dd os => Calls.regrown_of (by
      rw [htr]
      exact sTreeFault_any n c (some ⟨g, 0, none⟩) ms (grow (redrawn U3 dd) os) H1.out.2.1 (HBX.out.tree.2.2.below (below_regrown U3 dd os) (Nat.le_refl _)))
    have hfd := fieldIR (.int .i64 fc) (.int .i64 fv)
    clear htr
    rw [HU3.out] at x0
    go_wp2_with fail
    rw [← HU3.out] at x0
    rw [← HU3.out]
    refine wp_region_quiet_below hmix (by kernel_rfl) ?_
    repeat (go_big_quiet_step (first | exact cS _ _ | exact cI _ _ | exact cT _ _))
    refine wpQuiet_nil ?_
    intro _ hw'
    obtain ⟨⟨dq, osq⟩, hw''⟩ := hw'
    subst hw''
    go_wp2_with fail
    go_ret
    exact ⟨rfl, HBX.out.bel.trans ((below_regrown U3 dq osq).mono HBX.out.bel.size)⟩
  subst h0
  obtain ⟨hz, ha, hb, hfv⟩ := fork_zero HFF.out.1
  have HZ : Hid (treeR ms = 0 ∧ 0 ≤ nAt ms a ∧ 0 ≤ nAt ms b) := ⟨hz, ha, hb⟩
  have HPB : Hid (P = pathB ms a) := HPP.out.2.1.symm.trans (by rw [path_zeroR hz ha])
  have HQB : Hid (Q = pathB ms b) := HQQ.out.2.1.symm.trans (by rw [path_zeroR hz hb])
  have HFV : Hid (fv = forkB ms b a) := HFF.out.2.symm.trans hfv
  have hl1 : 0 < lp := by rw [← HPP.out.2.2, HPB.out]; exact (path_last hz ha).1
  have hl2 : 0 < lq := by rw [← HQQ.out.2.2, HQB.out]; exact (path_last hz hb).1
  have hl3 : lp ≤ 61 := by rw [← HPP.out.2.2, HPB.out]; have := pathF_len ms (ms.length + 1) a; have := tree_few hz; unfold pathB; omega
  have hl4 : lq ≤ 61 := by rw [← HQQ.out.2.2, HQB.out]; have := pathF_len ms (ms.length + 1) b; have := tree_few hz; unfold pathB; omega
  clear hz ha hb hfv
  rcases HBX.out.p.2 with q0 | ⟨pb, po, e1, pl, pd⟩
  · omega
  subst e1
  rcases HBX.out.q.2 with q0 | ⟨qb, qo, e1, ql, qd⟩
  · omega
  subst e1
  have HPD : Hid (∀ j, j < lp → U3.cell? ⟨pb, po + j, none⟩ = some (.int .i64 (P.getD j 0))) := pd
  have HQD : Hid (∀ j, j < lq → U3.cell? ⟨qb, qo + j, none⟩ = some (.int .i64 (Q.getD j 0))) := qd
  clear pd qd
  rw [HU3.out] at x0
  go_wp2_with fail
  rw [← HU3.out] at x0
  rw [← HU3.out]
  go_loopw [9] (fun u wr => ∃ k : Nat, u = .int .i64 k ∧ k ≤ lp ∧ k ≤ lq ∧ Hid (∃ q, wr = U3.drewN q) ∧ Hid (∀ t, t < k → P.getD t 0 = Q.getD t 0)) (fun u _ => lp - (intOf u).toNat)
  case atStart => exact ⟨0, rfl, Nat.zero_le _, Nat.zero_le _, ⟨0, rfl⟩, fun t ht => by omega⟩
  case round =>
    obtain ⟨k, rfl, hkp, hkq, HWR, HE⟩ := hrel
    obtain ⟨q, hq⟩ := HWR.out
    have hbd : Below U3.heap.size U3 wr := by rw [hq]; exact Joins.below_draws _ _ _
    have HBR : Hid (Bx3 w wr g c n ms wa1.heap.size wa2.heap.size wa3.heap.size 0 fv pc qc P Q lp lq (some ⟨pb, po, none⟩) (some ⟨qb, qo, none⟩) vc vd) := HBX.out.step hbd
    have HBD : Hid (Below U3.heap.size U3 wr) := hbd
    have HWQ : Hid (∀ nq, ∃ q, wr.drewN nq = U3.drewN q) := fun nq => by
      obtain ⟨q, hq⟩ := HWR.out
      rw [hq]
      exact ⟨q + nq, by simp⟩
    obtain ⟨y0, y1⟩ := cells2 HBR.out.b1
    obtain ⟨y2, y3⟩ := cells2 HBR.out.b2
    obtain ⟨y4, y5⟩ := cells2 HBR.out.b3
    clear hq
    by_cases h1 : k < lp ∧ k < lq ∧ P.getD k 0 = Q.getD k 0
    · obtain ⟨x, hx⟩ : ∃ x, x = P.getD k 0 := ⟨_, rfl⟩
      have z1 := (hbd.cell (p := ⟨pb, po + k, none⟩) pl).trans (HPD.out k h1.1)
      have z2 := (hbd.cell (p := ⟨qb, qo + k, none⟩) ql).trans (HQD.out k h1.2.1)
      rw [← h1.2.2, ← hx] at z2
      rw [← hx] at z1
      have g1 : (k : Int) < (lp : Int) := by omega
      have g2 : (k : Int) < (lq : Int) := by omega
      have HE2 : Hid (∀ t, t < k + 1 → P.getD t 0 = Q.getD t 0) := fun t ht => by
        rcases Nat.lt_or_ge t k with e | e
        · exact HE.out t e
        · obtain rfl : t = k := by omega
          exact h1.2.2
      have hb1 : k + 1 ≤ lp ∧ k + 1 ≤ lq := ⟨by omega, by omega⟩
      clear hx h1 hbd
      go_wp2_with fail
      go_quiet (fail)
      go_wp2
      go_roundw
      case rel => exact ⟨k + 1, by go_num, hb1.1, hb1.2, HWQ.out _, HE2⟩
      case measure => simp [intOf]; omega
    have HK : Hid (IsK (pathB ms a) (pathB ms b) k) := by
      rw [← HPB.out, ← HQB.out]
      exact ⟨by rw [HPP.out.2.2]; exact hkp, by rw [HQQ.out.2.2]; exact hkq, HE.out, by rw [HPP.out.2.2, HQQ.out.2.2]; exact h1⟩
    have HW : Hid (fv = if 0 < k then P.getD (k - 1) 0 else 0) := by
      show _ = _
      rw [HFV.out, HPB.out]
      exact fork_part HZ.out.1 HZ.out.2.2 a (.inr HZ.out.2.1) k HK.out
    have cA : ∀ V t, Below U3.heap.size U3 V → t < lp → Calls Try.prog 12 #[.slice (some ⟨g, 0, none⟩) n c, .int .i64 (P.getD t 0), .int .i64 a] V fun e w' => e = .returned (.bool true) ∧ Below V.heap.size V w' := fun V t hV ht => by
      have hwf : (Lit.int .i64 (P.getD t 0)).wf = true := fineP HZ.out.1 HPB.out HZ.out.2.1 t
      have := iIsAbove_any n c (some ⟨g, 0, none⟩) ms (P.getD t 0) a V (HBX.out.tree.2.2.below hV (Nat.le_refl _)) H2.out.1.1 hwf H2.out.2.1 (Nat.le_trans H1.out.2.1 H1.out.2.2.1)
      have e : isAboveR ms (P.getD t 0) a = true := by
        unfold isAboveR
        rw [if_pos HZ.out.1]
        refine (above_mem HZ.out.1 _ a (.inr HZ.out.2.1)).2 ?_
        rw [← HPB.out]
        exact mem_getD (by rw [HPP.out.2.2]; exact ht)
      rw [e] at this
      exact this
    have cB : ∀ V t, Below U3.heap.size U3 V → t < lp → Calls Try.prog 12 #[.slice (some ⟨g, 0, none⟩) n c, .int .i64 (P.getD t 0), .int .i64 b] V fun e w' => e = .returned (.bool (decide (t < k))) ∧ Below V.heap.size V w' := fun V t hV ht => by
      have hwf : (Lit.int .i64 (P.getD t 0)).wf = true := fineP HZ.out.1 HPB.out HZ.out.2.1 t
      have := iIsAbove_any n c (some ⟨g, 0, none⟩) ms (P.getD t 0) b V (HBX.out.tree.2.2.below hV (Nat.le_refl _)) H2.out.1.1 hwf H2.out.2.2 (Nat.le_trans H1.out.2.1 H1.out.2.2.1)
      have e : isAboveR ms (P.getD t 0) b = decide (t < k) := by
        unfold isAboveR
        rw [if_pos HZ.out.1, HPB.out, part_iff HZ.out.1 HZ.out.2.1 HZ.out.2.2 HK.out (by rw [← HPB.out, HPP.out.2.2]; exact ht)]
      rw [e] at this
      exact this
    have HRL : Hid (relatedR ms a b = (decide (k = lp) || decide (k = lq))) := by
      show _ = _
      unfold relatedR
      rw [if_pos HZ.out.1, rel_part HZ.out.1 HZ.out.2.1 HZ.out.2.2 HK.out, ← HPB.out, ← HQB.out, HPP.out.2.2, HQQ.out.2.2]
    have cR : ∀ V (rl : Bool), relatedR ms a b = rl → Below U3.heap.size U3 V → ∀ dd os, Calls Try.prog 13 #[.slice (some ⟨g, 0, none⟩) n c, .int .i64 a, .int .i64 b] (grow (redrawn V dd) os) fun e w'' => e = .returned (.bool rl) ∧ ∃ p : Regrown, w'' = grow (redrawn V p.d) p.os := fun V rl hrl hV dd os => Calls.regrown_of (by
      rw [← hrl]
      exact iRelated_any n c (some ⟨g, 0, none⟩) ms a b (grow (redrawn V dd) os) ((HBX.out.tree.2.2.below hV (Nat.le_refl _)).below (below_regrown V dd os) (Nat.le_refl _)) H2.out.1.1 H2.out.2.1 H2.out.2.2 (Nat.le_trans H1.out.2.1 H1.out.2.2.1))
    have HLA : Hid (P.getD (lp - 1) 0 = a) := by
      show _ = _
      rw [← HPP.out.2.2, HPB.out]
      exact (path_last HZ.out.1 HZ.out.2.1).2
    by_cases g1 : k < lp
    rotate_left
    · obtain rfl : k = lp := by omega
      have HRX : Hid (relatedR ms a b = true) := by show _ = _; rw [HRL.out]; simp
      have gI : ¬ (k : Int) < (k : Int) := by omega
      clear h1 hbd HE g1
      go_wp2_with fail
      go_quiet (fail)
      obtain ⟨wt, hwt⟩ : ∃ W, W = wr.drewN nq := ⟨_, rfl⟩
      rw [← hwt]
      have HBT : Hid (Below U3.heap.size U3 wt) := by rw [hwt]; exact HBD.out.trans (Joins.below_draws _ _ _)
      have HBQ : Hid (Bx3 w wt g c n ms wa1.heap.size wa2.heap.size wa3.heap.size 0 fv pc qc P Q k lq (some ⟨pb, po, none⟩) (some ⟨qb, qo, none⟩) vc vd) := HBX.out.step HBT.out
      clear y0 y1 y2 y3 y4 y5 hwt
      obtain ⟨y0, y1⟩ := cells2 HBQ.out.b1
      obtain ⟨y2, y3⟩ := cells2 HBQ.out.b2
      obtain ⟨y4, y5⟩ := cells2 HBQ.out.b3
      have hk0 : 0 < k := by omega
      obtain ⟨k', hk'⟩ : ∃ k', k' = k - 1 := ⟨_, rfl⟩
      have hfk : P.getD k' 0 = fv := by rw [HW.out, if_pos hk0, hk']
      have s0 := (HBT.out.cell (p := ⟨pb, po + k', none⟩) pl).trans (HPD.out k' (by omega))
      rw [hfk] at s0
      have g0 : (k' : Int) < (k : Int) := by omega
      have g5 : (0 : Int) < (k : Int) := by omega
      have g6 : (k : Int) - 1 = (k' : Int) := by omega
      clear hfk hk'
      go_wp2_with fail
      clear g6
      go_loopw [11] (fun i V => ∃ t : Nat, i = .int .i64 t ∧ t ≤ k ∧ Hid (Below wt.heap.size wt V)) (fun i _ => k - (intOf i).toNat)
      case atStart => exact ⟨0, rfl, Nat.zero_le _, Below.refl _ _⟩
      case round =>
        obtain ⟨t, rfl, htl, HBV⟩ := hrel
        have HBU : Hid (Below U3.heap.size U3 wr) := HBT.out.trans (HBV.out.mono HBT.out.size)
        have HBW : Hid (Bx3 w wr g c n ms wa1.heap.size wa2.heap.size wa3.heap.size 0 fv pc qc P Q k lq (some ⟨pb, po, none⟩) (some ⟨qb, qo, none⟩) vc vd) := HBX.out.step HBU.out
        obtain ⟨r0, r1⟩ := cells2 HBW.out.b1
        obtain ⟨r2, r3⟩ := cells2 HBW.out.b2
        obtain ⟨r4, r5⟩ := cells2 HBW.out.b3
        by_cases htp : t < k
        · have d1 := cA wr t HBU.out htp
          have d2 : ∀ V, Below U3.heap.size U3 V → _ := fun V hV => cB V t hV htp
          obtain ⟨x, hx⟩ : ∃ x, x = P.getD t 0 := ⟨_, rfl⟩
          have s1 := (HBU.out.cell (p := ⟨pb, po + t, none⟩) pl).trans (HPD.out t htp)
          rw [← hx] at s1 d1 d2
          have g1 : (t : Int) < (k : Int) := by omega
          have hbt : decide (t < k) = true := decide_eq_true htp
          rw [hbt] at d2
          have HX : Hid (P.getD t 0 = x) := hx.symm
          clear hx hbt
          go_wp2_with (first
            | (go_at_call 12; have hq := d1; clear d1; (with_reducible refine hq.mono ?_); clear hq; rintro e V2 ⟨rfl, hb2⟩; have HB2 : Hid (Below U3.heap.size U3 V2) := HBU.out.trans (hb2.mono HBU.out.size); have d3 := d2 V2 HB2.out; clear d2 r0 r1 r2 r3 r4 r5 s1; obtain ⟨r2, r3⟩ := cells2 (keepb HBW.out.b2 hb2).out; have s1 := (hb2.cell (p := ⟨pb, po + t, none⟩) (Nat.lt_of_lt_of_le pl HBU.out.size)).trans ((HBU.out.cell (p := ⟨pb, po + t, none⟩) pl).trans (HPD.out t htp)); rw [HX.out] at s1; have HBV2 : Hid (Below wt.heap.size wt V2) := HBV.out.trans (hb2.mono HBV.out.size); clear hb2)
            | (go_at_call 12; have hq := d3; clear d3; (with_reducible refine hq.mono ?_); clear hq; rintro e V3 ⟨rfl, hb3⟩; have HBV3 : Hid (Below wt.heap.size wt V3) := HBV2.out.trans (hb3.mono HBV2.out.size); clear hb3))
          go_roundw
          case rel => exact ⟨t + 1, by go_num, by omega, HBV3.out⟩
          case measure => simp [intOf]; omega
        · have g2 : ¬ (t : Int) < (k : Int) := by omega
          obtain ⟨m, hm⟩ : ∃ m, m = k - 1 := ⟨_, rfl⟩
          have s9 := (HBU.out.cell (p := ⟨pb, po + m, none⟩) pl).trans (HPD.out m (by omega))
          rw [hm, HLA.out, ← hm] at s9
          have hmI : (k : Int) - 1 = (m : Int) := by omega
          have hml : (m : Int) < (k : Int) := by omega
          have hl0 : (0 : Int) < (k : Int) := by omega
          have v0 := cell_regrown r0
          have v1 := cell_regrown r1
          have v2 := cell_regrown r2
          have v3 := cell_regrown r3
          have v4 := cell_regrown r4
          have v5 := cell_regrown r5
          have v9 := cell_regrown s9
          have cQ := cR wr true HRX.out HBU.out
          clear hm s9
          go_wp2_with fail
          refine wp_region_quiet_below hmix (by kernel_rfl) ?_
          repeat (go_big_quiet_step (first | exact cQ _ _))
          refine wpQuiet_nil ?_
          intro _ hw'
          obtain ⟨⟨dq, osq⟩, hw''⟩ := hw'
          subst hw''
          go_wp2_with fail
          go_ret
          exact ⟨rfl, HBW.out.bel.trans ((below_regrown wr dq osq).mono HBW.out.bel.size)⟩
    by_cases g2 : k < lq
    rotate_left
    · obtain rfl : k = lq := by omega
      have HRX : Hid (relatedR ms a b = true) := by show _ = _; rw [HRL.out]; simp
      have gI : (k : Int) < (lp : Int) := by omega
      have gJ : ¬ (k : Int) < (k : Int) := by omega
      have gE : ((k : Int) == (lp : Int)) = false := by simp; omega
      have gF : (k == lp) = false := by simp; omega
      clear h1 hbd HE g2
      go_wp2_with fail
      go_quiet (fail)
      obtain ⟨wt, hwt⟩ : ∃ W, W = wr.drewN nq := ⟨_, rfl⟩
      rw [← hwt]
      have HBT : Hid (Below U3.heap.size U3 wt) := by rw [hwt]; exact HBD.out.trans (Joins.below_draws _ _ _)
      have HBQ : Hid (Bx3 w wt g c n ms wa1.heap.size wa2.heap.size wa3.heap.size 0 fv pc qc P Q lp k (some ⟨pb, po, none⟩) (some ⟨qb, qo, none⟩) vc vd) := HBX.out.step HBT.out
      clear y0 y1 y2 y3 y4 y5 hwt
      obtain ⟨y0, y1⟩ := cells2 HBQ.out.b1
      obtain ⟨y2, y3⟩ := cells2 HBQ.out.b2
      obtain ⟨y4, y5⟩ := cells2 HBQ.out.b3
      have hk0 : 0 < k := by omega
      obtain ⟨k', hk'⟩ : ∃ k', k' = k - 1 := ⟨_, rfl⟩
      have hfk : P.getD k' 0 = fv := by rw [HW.out, if_pos hk0, hk']
      have s0 := (HBT.out.cell (p := ⟨pb, po + k', none⟩) pl).trans (HPD.out k' (by omega))
      rw [hfk] at s0
      have g0 : (k' : Int) < (lp : Int) := by omega
      have g5 : (0 : Int) < (k : Int) := by omega
      have g6 : (k : Int) - 1 = (k' : Int) := by omega
      clear hfk hk'
      go_wp2_with fail
      clear g6
      go_loopw [11] (fun i V => ∃ t : Nat, i = .int .i64 t ∧ t ≤ lp ∧ Hid (Below wt.heap.size wt V)) (fun i _ => lp - (intOf i).toNat)
      case atStart => exact ⟨0, rfl, Nat.zero_le _, Below.refl _ _⟩
      case round =>
        obtain ⟨t, rfl, htl, HBV⟩ := hrel
        have HBU : Hid (Below U3.heap.size U3 wr) := HBT.out.trans (HBV.out.mono HBT.out.size)
        have HBW : Hid (Bx3 w wr g c n ms wa1.heap.size wa2.heap.size wa3.heap.size 0 fv pc qc P Q lp k (some ⟨pb, po, none⟩) (some ⟨qb, qo, none⟩) vc vd) := HBX.out.step HBU.out
        obtain ⟨r0, r1⟩ := cells2 HBW.out.b1
        obtain ⟨r2, r3⟩ := cells2 HBW.out.b2
        obtain ⟨r4, r5⟩ := cells2 HBW.out.b3
        by_cases htp : t < lp
        · have d1 := cA wr t HBU.out htp
          have d2 : ∀ V, Below U3.heap.size U3 V → _ := fun V hV => cB V t hV htp
          obtain ⟨x, hx⟩ : ∃ x, x = P.getD t 0 := ⟨_, rfl⟩
          have s1 := (HBU.out.cell (p := ⟨pb, po + t, none⟩) pl).trans (HPD.out t htp)
          rw [← hx] at s1 d1 d2
          have g1 : (t : Int) < (lp : Int) := by omega
          obtain ⟨bt, hbt⟩ : ∃ z, z = decide (t < k) := ⟨_, rfl⟩
          rw [← hbt] at d2
          have hbt2 := hbt.symm
          have HX : Hid (P.getD t 0 = x) := hx.symm
          clear hx hbt
          go_wp2_with (first
            | (go_at_call 12; have hq := d1; clear d1; (with_reducible refine hq.mono ?_); clear hq; rintro e V2 ⟨rfl, hb2⟩; have HB2 : Hid (Below U3.heap.size U3 V2) := HBU.out.trans (hb2.mono HBU.out.size); have d3 := d2 V2 HB2.out; clear d2 r0 r1 r2 r3 r4 r5 s1; obtain ⟨r2, r3⟩ := cells2 (keepb HBW.out.b2 hb2).out; have s1 := (hb2.cell (p := ⟨pb, po + t, none⟩) (Nat.lt_of_lt_of_le pl HBU.out.size)).trans ((HBU.out.cell (p := ⟨pb, po + t, none⟩) pl).trans (HPD.out t htp)); rw [HX.out] at s1; have HBV2 : Hid (Below wt.heap.size wt V2) := HBV.out.trans (hb2.mono HBV.out.size); clear hb2)
            | (go_at_call 12; have hq := d3; clear d3; (with_reducible refine hq.mono ?_); clear hq; rintro e V3 ⟨rfl, hb3⟩; have HBV3 : Hid (Below wt.heap.size wt V3) := HBV2.out.trans (hb3.mono HBV2.out.size); clear hb3))
          go_roundw
          case rel => exact ⟨t + 1, by go_num, by omega, HBV3.out⟩
          case measure => simp [intOf]; omega
        · have g2 : ¬ (t : Int) < (lp : Int) := by omega
          obtain ⟨m, hm⟩ : ∃ m, m = lp - 1 := ⟨_, rfl⟩
          have s9 := (HBU.out.cell (p := ⟨pb, po + m, none⟩) pl).trans (HPD.out m (by omega))
          rw [hm, HLA.out, ← hm] at s9
          have hmI : (lp : Int) - 1 = (m : Int) := by omega
          have hml : (m : Int) < (lp : Int) := by omega
          have hl0 : (0 : Int) < (lp : Int) := by omega
          have v0 := cell_regrown r0
          have v1 := cell_regrown r1
          have v2 := cell_regrown r2
          have v3 := cell_regrown r3
          have v4 := cell_regrown r4
          have v5 := cell_regrown r5
          have v9 := cell_regrown s9
          have cQ := cR wr true HRX.out HBU.out
          clear hm s9
          go_wp2_with fail
          refine wp_region_quiet_below hmix (by kernel_rfl) ?_
          repeat (go_big_quiet_step (first | exact cQ _ _))
          refine wpQuiet_nil ?_
          intro _ hw'
          obtain ⟨⟨dq, osq⟩, hw''⟩ := hw'
          subst hw''
          go_wp2_with fail
          go_ret
          exact ⟨rfl, HBW.out.bel.trans ((below_regrown wr dq osq).mono HBW.out.bel.size)⟩
    have HRX : Hid (relatedR ms a b = false) := by show _ = _; rw [HRL.out, decide_eq_false (by omega), decide_eq_false (by omega)]; rfl
    obtain ⟨xp, hxp⟩ : ∃ x, x = P.getD k 0 := ⟨_, rfl⟩
    obtain ⟨xq, hxq⟩ : ∃ x, x = Q.getD k 0 := ⟨_, rfl⟩
    have z1 := (hbd.cell (p := ⟨pb, po + k, none⟩) pl).trans (HPD.out k g1)
    have z2 := (hbd.cell (p := ⟨qb, qo + k, none⟩) ql).trans (HQD.out k g2)
    rw [← hxp] at z1
    rw [← hxq] at z2
    have hne : (xp == xq) = false := by
      rw [hxp, hxq]
      simpa using fun e => h1 ⟨g1, g2, by simpa using e⟩
    have gI : (k : Int) < (lp : Int) := by omega
    have gJ : (k : Int) < (lq : Int) := by omega
    have gE : ((k : Int) == (lp : Int)) = false := by simp; omega
    have gF : (k == lp) = false := by simp; omega
    have gG : ((k : Int) == (lq : Int)) = false := by simp; omega
    have gH : (k == lq) = false := by simp; omega
    clear h1 hbd HE hxp hxq
    go_wp2_with fail
    go_quiet (fail)
    clear z1 z2
    obtain ⟨wt, hwt⟩ : ∃ W, W = wr.drewN nq := ⟨_, rfl⟩
    rw [← hwt]
    have HBT : Hid (Below U3.heap.size U3 wt) := by rw [hwt]; exact HBD.out.trans (Joins.below_draws _ _ _)
    have HBQ : Hid (Bx3 w wt g c n ms wa1.heap.size wa2.heap.size wa3.heap.size 0 fv pc qc P Q lp lq (some ⟨pb, po, none⟩) (some ⟨qb, qo, none⟩) vc vd) := HBX.out.step HBT.out
    clear y0 y1 y2 y3 y4 y5 hwt
    obtain ⟨y0, y1⟩ := cells2 HBQ.out.b1
    obtain ⟨y2, y3⟩ := cells2 HBQ.out.b2
    obtain ⟨y4, y5⟩ := cells2 HBQ.out.b3
    by_cases hk0 : 0 < k
    · obtain ⟨k', hk'⟩ : ∃ k', k' = k - 1 := ⟨_, rfl⟩
      have hfk : P.getD k' 0 = fv := by rw [HW.out, if_pos hk0, hk']
      have s0 := (HBT.out.cell (p := ⟨pb, po + k', none⟩) pl).trans (HPD.out k' (by omega))
      rw [hfk] at s0
      have g0 : (k' : Int) < (lp : Int) := by omega
      have g5 : (0 : Int) < (k : Int) := by omega
      have g6 : (k : Int) - 1 = (k' : Int) := by omega
      clear hfk hk'
      go_wp2_with fail
      clear g6
      go_loopw [11] (fun i V => ∃ t : Nat, i = .int .i64 t ∧ t ≤ lp ∧ Hid (Below wt.heap.size wt V)) (fun i _ => lp - (intOf i).toNat)
      case atStart => exact ⟨0, rfl, Nat.zero_le _, Below.refl _ _⟩
      case round =>
        obtain ⟨t, rfl, htl, HBV⟩ := hrel
        have HBU : Hid (Below U3.heap.size U3 wr) := HBT.out.trans (HBV.out.mono HBT.out.size)
        have HBW : Hid (Bx3 w wr g c n ms wa1.heap.size wa2.heap.size wa3.heap.size 0 fv pc qc P Q lp lq (some ⟨pb, po, none⟩) (some ⟨qb, qo, none⟩) vc vd) := HBX.out.step HBU.out
        obtain ⟨r0, r1⟩ := cells2 HBW.out.b1
        obtain ⟨r2, r3⟩ := cells2 HBW.out.b2
        obtain ⟨r4, r5⟩ := cells2 HBW.out.b3
        by_cases htp : t < lp
        · have d1 := cA wr t HBU.out htp
          have d2 : ∀ V, Below U3.heap.size U3 V → _ := fun V hV => cB V t hV htp
          obtain ⟨x, hx⟩ : ∃ x, x = P.getD t 0 := ⟨_, rfl⟩
          have s1 := (HBU.out.cell (p := ⟨pb, po + t, none⟩) pl).trans (HPD.out t htp)
          rw [← hx] at s1 d1 d2
          have g1 : (t : Int) < (lp : Int) := by omega
          obtain ⟨bt, hbt⟩ : ∃ z, z = decide (t < k) := ⟨_, rfl⟩
          rw [← hbt] at d2
          have hbt2 := hbt.symm
          have HX : Hid (P.getD t 0 = x) := hx.symm
          clear hx hbt
          go_wp2_with (first
            | (go_at_call 12; have hq := d1; clear d1; (with_reducible refine hq.mono ?_); clear hq; rintro e V2 ⟨rfl, hb2⟩; have HB2 : Hid (Below U3.heap.size U3 V2) := HBU.out.trans (hb2.mono HBU.out.size); have d3 := d2 V2 HB2.out; clear d2 r0 r1 r2 r3 r4 r5 s1; obtain ⟨r2, r3⟩ := cells2 (keepb HBW.out.b2 hb2).out; have s1 := (hb2.cell (p := ⟨pb, po + t, none⟩) (Nat.lt_of_lt_of_le pl HBU.out.size)).trans ((HBU.out.cell (p := ⟨pb, po + t, none⟩) pl).trans (HPD.out t htp)); rw [HX.out] at s1; have HBV2 : Hid (Below wt.heap.size wt V2) := HBV.out.trans (hb2.mono HBV.out.size); clear hb2)
            | (go_at_call 12; have hq := d3; clear d3; (with_reducible refine hq.mono ?_); clear hq; rintro e V3 ⟨rfl, hb3⟩; have HBV3 : Hid (Below wt.heap.size wt V3) := HBV2.out.trans (hb3.mono HBV2.out.size); clear hb3))
          go_roundw
          case rel => exact ⟨t + 1, by go_num, by omega, HBV3.out⟩
          case measure => simp [intOf]; omega
        · have g2 : ¬ (t : Int) < (lp : Int) := by omega
          obtain ⟨m, hm⟩ : ∃ m, m = lp - 1 := ⟨_, rfl⟩
          have s9 := (HBU.out.cell (p := ⟨pb, po + m, none⟩) pl).trans (HPD.out m (by omega))
          rw [hm, HLA.out, ← hm] at s9
          have hmI : (lp : Int) - 1 = (m : Int) := by omega
          have hml : (m : Int) < (lp : Int) := by omega
          have hl0 : (0 : Int) < (lp : Int) := by omega
          have v0 := cell_regrown r0
          have v1 := cell_regrown r1
          have v2 := cell_regrown r2
          have v3 := cell_regrown r3
          have v4 := cell_regrown r4
          have v5 := cell_regrown r5
          have v9 := cell_regrown s9
          have cQ := cR wr false HRX.out HBU.out
          clear hm s9
          go_wp2_with fail
          refine wp_region_quiet_below hmix (by kernel_rfl) ?_
          repeat (go_big_quiet_step (first | exact cQ _ _))
          refine wpQuiet_nil ?_
          intro _ hw'
          obtain ⟨⟨dq, osq⟩, hw''⟩ := hw'
          subst hw''
          go_wp2_with fail
          go_ret
          exact ⟨rfl, HBW.out.bel.trans ((below_regrown wr dq osq).mono HBW.out.bel.size)⟩
    · have g5 : ¬ (0 : Int) < (k : Int) := by omega
      obtain rfl : fv = 0 := by rw [HW.out, if_neg (by omega)]
      go_wp2_with fail
      go_loopw [11] (fun i V => ∃ t : Nat, i = .int .i64 t ∧ t ≤ lp ∧ Hid (Below wt.heap.size wt V)) (fun i _ => lp - (intOf i).toNat)
      case atStart => exact ⟨0, rfl, Nat.zero_le _, Below.refl _ _⟩
      case round =>
        obtain ⟨t, rfl, htl, HBV⟩ := hrel
        have HBU : Hid (Below U3.heap.size U3 wr) := HBT.out.trans (HBV.out.mono HBT.out.size)
        have HBW : Hid (Bx3 w wr g c n ms wa1.heap.size wa2.heap.size wa3.heap.size 0 0 pc qc P Q lp lq (some ⟨pb, po, none⟩) (some ⟨qb, qo, none⟩) vc vd) := HBX.out.step HBU.out
        obtain ⟨r0, r1⟩ := cells2 HBW.out.b1
        obtain ⟨r2, r3⟩ := cells2 HBW.out.b2
        obtain ⟨r4, r5⟩ := cells2 HBW.out.b3
        by_cases htp : t < lp
        · have d1 := cA wr t HBU.out htp
          have d2 : ∀ V, Below U3.heap.size U3 V → _ := fun V hV => cB V t hV htp
          obtain ⟨x, hx⟩ : ∃ x, x = P.getD t 0 := ⟨_, rfl⟩
          have s1 := (HBU.out.cell (p := ⟨pb, po + t, none⟩) pl).trans (HPD.out t htp)
          rw [← hx] at s1 d1 d2
          have g1 : (t : Int) < (lp : Int) := by omega
          obtain ⟨bt, hbt⟩ : ∃ z, z = decide (t < k) := ⟨_, rfl⟩
          rw [← hbt] at d2
          have hbt2 := hbt.symm
          have HX : Hid (P.getD t 0 = x) := hx.symm
          clear hx hbt
          go_wp2_with (first
            | (go_at_call 12; have hq := d1; clear d1; (with_reducible refine hq.mono ?_); clear hq; rintro e V2 ⟨rfl, hb2⟩; have HB2 : Hid (Below U3.heap.size U3 V2) := HBU.out.trans (hb2.mono HBU.out.size); have d3 := d2 V2 HB2.out; clear d2 r0 r1 r2 r3 r4 r5 s1; obtain ⟨r2, r3⟩ := cells2 (keepb HBW.out.b2 hb2).out; have s1 := (hb2.cell (p := ⟨pb, po + t, none⟩) (Nat.lt_of_lt_of_le pl HBU.out.size)).trans ((HBU.out.cell (p := ⟨pb, po + t, none⟩) pl).trans (HPD.out t htp)); rw [HX.out] at s1; have HBV2 : Hid (Below wt.heap.size wt V2) := HBV.out.trans (hb2.mono HBV.out.size); clear hb2)
            | (go_at_call 12; have hq := d3; clear d3; (with_reducible refine hq.mono ?_); clear hq; rintro e V3 ⟨rfl, hb3⟩; have HBV3 : Hid (Below wt.heap.size wt V3) := HBV2.out.trans (hb3.mono HBV2.out.size); clear hb3))
          go_roundw
          case rel => exact ⟨t + 1, by go_num, by omega, HBV3.out⟩
          case measure => simp [intOf]; omega
        · have g2 : ¬ (t : Int) < (lp : Int) := by omega
          obtain ⟨m, hm⟩ : ∃ m, m = lp - 1 := ⟨_, rfl⟩
          have s9 := (HBU.out.cell (p := ⟨pb, po + m, none⟩) pl).trans (HPD.out m (by omega))
          rw [hm, HLA.out, ← hm] at s9
          have hmI : (lp : Int) - 1 = (m : Int) := by omega
          have hml : (m : Int) < (lp : Int) := by omega
          have hl0 : (0 : Int) < (lp : Int) := by omega
          have v0 := cell_regrown r0
          have v1 := cell_regrown r1
          have v2 := cell_regrown r2
          have v3 := cell_regrown r3
          have v4 := cell_regrown r4
          have v5 := cell_regrown r5
          have v9 := cell_regrown s9
          have cQ := cR wr false HRX.out HBU.out
          clear hm s9
          go_wp2_with fail
          refine wp_region_quiet_below hmix (by kernel_rfl) ?_
          repeat (go_big_quiet_step (first | exact cQ _ _))
          refine wpQuiet_nil ?_
          intro _ hw'
          obtain ⟨⟨dq, osq⟩, hw''⟩ := hw'
          subst hw''
          go_wp2_with fail
          go_ret
          exact ⟨rfl, HBW.out.bel.trans ((below_regrown wr dq osq).mono HBW.out.bel.size)⟩

end Go.Proofs.Ytinlhghlmfcbfaa
