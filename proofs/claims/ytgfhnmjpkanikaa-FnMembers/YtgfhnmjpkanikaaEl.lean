/- The specification's TakeMembers keeps its contract. -/
import Derived.Test.YtgfhnmjpkanikaaEk
import Derived.Test.YtgfhnmjpkanikaaJn1
namespace Go.Proofs.Ytgfhnmjpkanikaa
open Go.RowKit Go.Maps Go.WideMaps

/-- What TakeMembers comes to. -/
def tmR (ms : List Mb) (kd f : Int) (rs : List (Int × Int)) (os : List Ou) (id : Int) : Int × List Mb :=
  if memsR ms ≠ 0 then (memsR ms, []) else if txR kd f rs os ≠ 0 then (txR kd f rs os, []) else if inB id 1 60 = false then (3, []) else takeMR ms kd f rs id
theorem joinMR_code {ms : List Mb} {x : Mb} (h : (joinMR ms x).1 ≠ 0) : (joinMR ms x).2 = [] := by
  unfold joinMR at h ⊢
  by_cases h1 : (ms.any fun m => decide (m.1 = x.1)) = true ∨ (ms.any fun m => decide (m.2 = x.2)) = true
  · rw [if_pos h1]
  · rw [if_neg h1] at h ⊢
    by_cases h2 : 8 ≤ ms.length
    · rw [if_pos h2]
    · rw [if_neg h2] at h; exact absurd rfl h
theorem takeMR_code {ms : List Mb} {kd f id : Int} {rs : List (Int × Int)} (h : (takeMR ms kd f rs id).1 ≠ 0) : (takeMR ms kd f rs id).2 = [] := by
  unfold takeMR at h ⊢
  by_cases h1 : kd = 2 ∧ (ms.any fun m => decide (m.1 = f)) = false
  · rw [if_pos h1]
  · rw [if_neg h1] at h ⊢
    by_cases h2 : kd = 1
    · rw [if_pos h2] at h ⊢; exact joinMR_code h
    · rw [if_neg h2] at h; exact absurd rfl h

set_option maxRecDepth 20000 in
set_option maxHeartbeats 4000000 in
theorem sTakeMembers_any (n c n2 ic m2 oc : Nat) (a ia oa : Option Addr) (ms : List Mb) (kd f id : Int) (rs : List (Int × Int)) (os : List Ou) (w : World) (hn : n ≤ 1048576) (hn2 : n2 ≤ 1048576) (hm2 : m2 ≤ 1048576) (hc1 : n2 ≤ ic) (hc2 : ic ≤ maxLen) (hk : ∀ j, j < m2 → (os.getD j O0).l.length ≤ 1048576) (hC : MAt w a n ms) (hT : TxAt w ia n2 oa m2 rs os) :
    Calls Try.prog 7 #[.slice a n c, .agg #[.int .i64 kd, .int .i64 f, .slice ia n2 ic, .slice oa m2 oc], .int .i64 id] w fun e w' => OutMs w w' e (tmR ms kd f rs os id).1 (tmR ms kd f rs os id).2 := by
  have hbx : Below w.heap.size w ((w.alloc (.cells #[.int .i64 kd, .int .i64 f, .slice ia n2 ic, .slice oa m2 oc] 28)).alloc (.cells #[.int .i64 0, .slice none 0 0] 32)) := below_box2 _ _
  have hF := l6Fault_any n c a ms ((w.alloc (.cells #[.int .i64 kd, .int .i64 f, .slice ia n2 ic, .slice oa m2 oc] 28)).alloc (.cells #[.int .i64 0, .slice none 0 0] 32)) hn (hC.below hbx (Nat.le_refl _))
  have HB1 : Hid (Below w.heap.size w ((w.alloc (.cells #[.int .i64 kd, .int .i64 f, .slice ia n2 ic, .slice oa m2 oc] 28)).alloc (.cells #[.int .i64 0, .slice none 0 0] 32))) := hbx
  have HP1 : Hid (((w.alloc (.cells #[.int .i64 kd, .int .i64 f, .slice ia n2 ic, .slice oa m2 oc] 28)).alloc (.cells #[.int .i64 0, .slice none 0 0] 32)).heap[w.heap.size]? = some (.cells #[.int .i64 kd, .int .i64 f, .slice ia n2 ic, .slice oa m2 oc] 28 (0, 0))) := block_at2
  have HR1 : Hid (((w.alloc (.cells #[.int .i64 kd, .int .i64 f, .slice ia n2 ic, .slice oa m2 oc] 28)).alloc (.cells #[.int .i64 0, .slice none 0 0] 32)).heap[w.heap.size + 1]? = some (.cells #[.int .i64 0, .slice none 0 0] 32 (0, 0))) := heap_alloc_at _ _ _ (by simp)
  have HC : Hid (MAt w a n ms) := hC
  have HT : Hid (TxAt w ia n2 oa m2 rs os) := hT
  have HN : Hid (ms.length = n) := hC.1
  obtain ⟨cd, hcd⟩ : ∃ r, r = memsR ms := ⟨_, rfl⟩
  obtain ⟨ct, hct⟩ : ∃ r, r = txR kd f rs os := ⟨_, rfl⟩
  obtain ⟨ki, hki⟩ : ∃ r, r = inB id 1 60 := ⟨_, rfl⟩
  have hin : ∀ u, Calls Try.prog 26 #[.int .i64 id, .int .i64 1, .int .i64 60] u fun e w' => e = .returned (.bool ki) ∧ w' = u := fun u => by rw [hki]; exact l1In_any _ _ _ u
  have HL : Hid (∀ W, Below w.heap.size w W → W.heap[w.heap.size]? = some (.cells #[.int .i64 kd, .int .i64 f, .slice ia n2 ic, .slice oa m2 oc] 28 (0, 0)) → Calls Try.prog 25 #[.pointer (some ⟨w.heap.size, 0, none⟩)] W fun e w' => e = .returned (.int .i64 ct) ∧ Below W.heap.size W w') := fun W hW hP => by
    rw [hct]; exact l3Fault_any w.heap.size n2 ic m2 oc ia oa kd f rs os W hn2 hm2 hc1 hc2 hk (HT.out.below hW (Nat.le_refl _)) hP
  rw [← hcd] at hF
  by_cases h0 : cd = 0
  · subst h0
    by_cases h1 : ct = 0
    · subst h1
      cases ki
      · have hr : tmR ms kd f rs os id = (3, []) := by unfold tmR; rw [if_neg (by simp [← hcd]), if_neg (by simp [← hct]), if_pos hki.symm]
        rw [hr]
        clear hr hcd hct hki hC hT hbx
        go_enter Try.func7, Try.ntmps7
        go_wp2_with (first | (go_at_call 24; (with_reducible refine hF.mono ?_); clear hF; rintro e w2 ⟨rfl, hb2⟩; have HP2 := keepb HP1.out hb2; have HR2 := keepb HR1.out hb2; have HB2 : Hid (Below w.heap.size w w2) := HB1.out.trans (hb2.mono HB1.out.size); have hL := HL.out w2 HB2.out HP2.out; clear hb2) | (go_at_call 25; (with_reducible refine hL.mono ?_); clear hL; rintro e w3 ⟨rfl, hb3⟩; have HP3 := keepb HP2.out hb3; have HR3 := keepb HR2.out hb3; have HB3 : Hid (Below w.heap.size w w3) := HB2.out.trans (hb3.mono HB2.out.size); clear hb3; obtain ⟨y0, y1⟩ := cells2 HR3.out; have f0 := Joins.unfrozen_of_block HR3.out 0; have f1 := Joins.unfrozen_of_block HR3.out 1) | (go_at_call 26; (with_reducible refine (hin _).mono ?_); rintro e w' ⟨rfl, hw⟩; have hw2 := hw.symm; subst hw2; clear hw))
        obtain ⟨_, j1⟩ := two_set HR3.out (.int .i64 3) (.slice none 0 0)
        exact bodyPost_ret (v := .agg #[.int .i64 3, .slice none 0 0]) (by simp [results, Try.results7, go_sem, j1]) rfl (outm_code (by omega) HB3.out)
      · have hr : tmR ms kd f rs os id = takeMR ms kd f rs id := by unfold tmR; rw [if_neg (by simp [← hcd]), if_neg (by simp [← hct]), if_neg (by rw [← hki]; simp)]
        rw [hr]
        obtain ⟨rc, hrc⟩ : ∃ x, x = (takeMR ms kd f rs id).1 := ⟨_, rfl⟩
        obtain ⟨rr, hrr⟩ : ∃ x, x = (takeMR ms kd f rs id).2 := ⟨_, rfl⟩
        rw [← hrc, ← hrr]
        have hn8 := mems_few hC.1 hcd.symm
        have HZ : Hid (rc ≠ 0 → rr = []) := by rw [hrc, hrr]; exact takeMR_code
        have HTK : Hid (∀ W, Below w.heap.size w W → W.heap[w.heap.size]? = some (.cells #[.int .i64 kd, .int .i64 f, .slice ia n2 ic, .slice oa m2 oc] 28 (0, 0)) → Calls Try.prog 27 #[.slice a n c, .pointer (some ⟨w.heap.size, 0, none⟩), .int .i64 id] W fun e w' => JoinO W w' e rc rr) := fun W hW hP => by
          obtain ⟨q0, q1, q2, q3, _⟩ := cells4 hP
          rw [hrc, hrr]
          exact l6Take_any n c n2 ic w.heap.size a ia ms rs kd f id W hn8 hn2 (HC.out.below hW (Nat.le_refl _)) (HT.out.r.below hW (Nat.le_refl _)) (mems_rise hcd.symm) (lt_of_block hP) q0 q1 q2
        clear hr hcd hct hki hC hT hbx hrc hrr
        by_cases hz : rc = 0
        · subst hz
          go_enter Try.func7, Try.ntmps7
          go_wp2_with (first | (go_at_call 24; (with_reducible refine hF.mono ?_); clear hF; rintro e w2 ⟨rfl, hb2⟩; have HP2 := keepb HP1.out hb2; have HR2 := keepb HR1.out hb2; have HB2 : Hid (Below w.heap.size w w2) := HB1.out.trans (hb2.mono HB1.out.size); have hL := HL.out w2 HB2.out HP2.out; clear hb2) | (go_at_call 25; (with_reducible refine hL.mono ?_); clear hL; rintro e w3 ⟨rfl, hb3⟩; have HP3 := keepb HP2.out hb3; have HR3 := keepb HR2.out hb3; have HB3 : Hid (Below w.heap.size w w3) := HB2.out.trans (hb3.mono HB2.out.size); clear hb3) | (go_at_call 26; (with_reducible refine (hin _).mono ?_); rintro e w' ⟨rfl, hw⟩; have hw2 := hw.symm; subst hw2; clear hw) | (go_at_call 27; refine (HTK.out w3 HB3.out HP3.out).mono ?_; rintro e w4 ⟨va, vc, rfl, hO4, hb4⟩; have HO4 : Hid (w4.ownsRow w3.heap.size 38 3 (.slice va rr.length vc) rr.length (mcells rr)) := hO4; have HR4 := keepb HR3.out hb4; have HB4 : Hid (Below w.heap.size w w4) := HB3.out.trans (hb4.mono HB3.out.size); obtain ⟨y0, y1⟩ := cells2 HR4.out; have f0 := Joins.unfrozen_of_block HR4.out 0; have f1 := Joins.unfrozen_of_block HR4.out 1; clear hb4 hO4))
          obtain ⟨_, j1⟩ := two_set HR4.out (.int .i64 0) (.slice va rr.length vc)
          exact bodyPost_ret (v := .agg #[.int .i64 0, .slice va rr.length vc]) (by simp [results, Try.results7, go_sem, j1]) rfl (outm_mems rfl (by omega) (lt_of_block HR3.out) HB4.out HO4.out)
        · obtain rfl : rr = [] := HZ.out hz
          go_enter Try.func7, Try.ntmps7
          go_wp2_with (first | (go_at_call 24; (with_reducible refine hF.mono ?_); clear hF; rintro e w2 ⟨rfl, hb2⟩; have HP2 := keepb HP1.out hb2; have HR2 := keepb HR1.out hb2; have HB2 : Hid (Below w.heap.size w w2) := HB1.out.trans (hb2.mono HB1.out.size); have hL := HL.out w2 HB2.out HP2.out; clear hb2) | (go_at_call 25; (with_reducible refine hL.mono ?_); clear hL; rintro e w3 ⟨rfl, hb3⟩; have HP3 := keepb HP2.out hb3; have HR3 := keepb HR2.out hb3; have HB3 : Hid (Below w.heap.size w w3) := HB2.out.trans (hb3.mono HB2.out.size); clear hb3) | (go_at_call 26; (with_reducible refine (hin _).mono ?_); rintro e w' ⟨rfl, hw⟩; have hw2 := hw.symm; subst hw2; clear hw) | (go_at_call 27; refine (HTK.out w3 HB3.out HP3.out).mono ?_; rintro e w4 ⟨va, vc, rfl, _, hb4⟩; have HR4 := keepb HR3.out hb4; have HB4 : Hid (Below w.heap.size w w4) := HB3.out.trans (hb4.mono HB3.out.size); obtain ⟨y0, y1⟩ := cells2 HR4.out; have f0 := Joins.unfrozen_of_block HR4.out 0; have f1 := Joins.unfrozen_of_block HR4.out 1; clear hb4))
          obtain ⟨_, j1⟩ := two_set HR4.out (.int .i64 rc) (.slice none 0 0)
          exact bodyPost_ret (v := .agg #[.int .i64 rc, .slice none 0 0]) (by simp [results, Try.results7, go_sem, j1]) rfl (outm_code (by omega) HB4.out)
    · have hr : tmR ms kd f rs os id = (ct, []) := by unfold tmR; rw [if_neg (by simp [← hcd]), ← hct, if_pos h1]
      rw [hr]
      clear hr hcd hct hki hC hT hbx
      go_enter Try.func7, Try.ntmps7
      go_wp2_with (first | (go_at_call 24; (with_reducible refine hF.mono ?_); clear hF; rintro e w2 ⟨rfl, hb2⟩; have HP2 := keepb HP1.out hb2; have HR2 := keepb HR1.out hb2; have HB2 : Hid (Below w.heap.size w w2) := HB1.out.trans (hb2.mono HB1.out.size); have hL := HL.out w2 HB2.out HP2.out; clear hb2) | (go_at_call 25; (with_reducible refine hL.mono ?_); clear hL; rintro e w3 ⟨rfl, hb3⟩; have HP3 := keepb HP2.out hb3; have HR3 := keepb HR2.out hb3; have HB3 : Hid (Below w.heap.size w w3) := HB2.out.trans (hb3.mono HB2.out.size); clear hb3; obtain ⟨y0, y1⟩ := cells2 HR3.out; have f0 := Joins.unfrozen_of_block HR3.out 0; have f1 := Joins.unfrozen_of_block HR3.out 1))
      obtain ⟨_, j1⟩ := two_set HR3.out (.int .i64 ct) (.slice none 0 0)
      exact bodyPost_ret (v := .agg #[.int .i64 ct, .slice none 0 0]) (by simp [results, Try.results7, go_sem, j1]) rfl (outm_code (by omega) HB3.out)
  · have hr : tmR ms kd f rs os id = (cd, []) := by unfold tmR; rw [← hcd, if_pos h0]
    rw [hr]
    clear hr hcd hct hki hC hT hbx
    go_enter Try.func7, Try.ntmps7
    go_wp2_with (first | (go_at_call 24; (with_reducible refine hF.mono ?_); clear hF; rintro e w2 ⟨rfl, hb2⟩; have HP2 := keepb HP1.out hb2; have HR2 := keepb HR1.out hb2; have HB2 : Hid (Below w.heap.size w w2) := HB1.out.trans (hb2.mono HB1.out.size); have hL := HL.out w2 HB2.out HP2.out; clear hb2; obtain ⟨y0, y1⟩ := cells2 HR2.out; have f0 := Joins.unfrozen_of_block HR2.out 0; have f1 := Joins.unfrozen_of_block HR2.out 1))
    obtain ⟨_, j1⟩ := two_set HR2.out (.int .i64 cd) (.slice none 0 0)
    exact bodyPost_ret (v := .agg #[.int .i64 cd, .slice none 0 0]) (by simp [results, Try.results7, go_sem, j1]) rfl (outm_code (by omega) HB2.out)

end Go.Proofs.Ytgfhnmjpkanikaa
