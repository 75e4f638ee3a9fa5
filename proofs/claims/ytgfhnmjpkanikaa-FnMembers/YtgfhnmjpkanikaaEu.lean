/- The program's TakeMembers keeps its contract. -/
import Derived.Test.YtgfhnmjpkanikaaEt
namespace Go.Proofs.Ytgfhnmjpkanikaa
open Go.RowKit Go.Maps Go.WideMaps

theorem joinMR_few {ms : List Mb} {x : Mb} (h : ms.length ≤ 8) : (joinMR ms x).2.length ≤ 1000 := by
  unfold joinMR
  by_cases h1 : (ms.any fun m => decide (m.1 = x.1)) = true ∨ (ms.any fun m => decide (m.2 = x.2)) = true
  · rw [if_pos h1]; simp
  · rw [if_neg h1]
    by_cases h2 : 8 ≤ ms.length
    · rw [if_pos h2]; simp
    · rw [if_neg h2]; show (insM ms x).length ≤ 1000; rw [insM_len]; omega
theorem takeMR_few {ms : List Mb} {kd f id : Int} {rs : List (Int × Int)} (h : ms.length ≤ 8) : (takeMR ms kd f rs id).2.length ≤ 1000 := by
  have hf : (ms.filter (keepM kd f rs)).length ≤ 8 := Nat.le_trans (List.length_filter_le _ _) h
  unfold takeMR
  by_cases h1 : kd = 2 ∧ (ms.any fun m => decide (m.1 = f)) = false
  · rw [if_pos h1]; simp
  · rw [if_neg h1]
    by_cases h2 : kd = 1
    · rw [if_pos h2]; exact joinMR_few hf
    · rw [if_neg h2]; show (ms.filter (keepM kd f rs)).length ≤ 1000; omega

set_option maxRecDepth 20000 in
set_option maxHeartbeats 4000000 in
theorem iTakeMembers_any (n c n2 ic m2 oc : Nat) (a ia oa : Option Addr) (ms : List Mb) (kd f id : Int) (rs : List (Int × Int)) (os : List Ou) (w : World) (hn : n ≤ 1048576) (hn2 : n2 ≤ 1048576) (hm2 : m2 ≤ 1048576) (hc1 : n2 ≤ ic) (hc2 : ic ≤ maxLen) (hk : ∀ j, j < m2 → (os.getD j O0).l.length ≤ 1048576) (hC : MAt w a n ms) (hT : TxAt w ia n2 oa m2 rs os) (hib : ∀ b o, ia = some ⟨b, o, none⟩ → b < w.heap.size) :
    Calls Try.prog 6 #[.slice a n c, .agg #[.int .i64 kd, .int .i64 f, .slice ia n2 ic, .slice oa m2 oc], .int .i64 id] w fun e w' => OutMs w w' e (tmR ms kd f rs os id).1 (tmR ms kd f rs os id).2 := by
  have hbx : Below w.heap.size w ((w.alloc (.cells #[.int .i64 kd, .int .i64 f, .slice ia n2 ic, .slice oa m2 oc] 28)).alloc (.cells #[.int .i64 0, .slice none 0 0] 32)) := below_box2 _ _
  have hC1 := hC.below hbx (Nat.le_refl _)
  have HB1 : Hid (Below w.heap.size w ((w.alloc (.cells #[.int .i64 kd, .int .i64 f, .slice ia n2 ic, .slice oa m2 oc] 28)).alloc (.cells #[.int .i64 0, .slice none 0 0] 32))) := hbx
  have HP1 : Hid (((w.alloc (.cells #[.int .i64 kd, .int .i64 f, .slice ia n2 ic, .slice oa m2 oc] 28)).alloc (.cells #[.int .i64 0, .slice none 0 0] 32)).heap[w.heap.size]? = some (.cells #[.int .i64 kd, .int .i64 f, .slice ia n2 ic, .slice oa m2 oc] 28 (0, 0))) := block_at2
  have HR1 : Hid (((w.alloc (.cells #[.int .i64 kd, .int .i64 f, .slice ia n2 ic, .slice oa m2 oc] 28)).alloc (.cells #[.int .i64 0, .slice none 0 0] 32)).heap[w.heap.size + 1]? = some (.cells #[.int .i64 0, .slice none 0 0] 32 (0, 0))) := heap_alloc_at _ _ _ (by simp)
  have HT : Hid (TxAt w ia n2 oa m2 rs os) := hT
  have HIB : Hid (∀ b o, ia = some ⟨b, o, none⟩ → b < w.heap.size) := hib
  obtain ⟨cd, hcd⟩ : ∃ r, r = memsR ms := ⟨_, rfl⟩
  obtain ⟨ct, hct⟩ : ∃ r, r = txR kd f rs os := ⟨_, rfl⟩
  obtain ⟨ki, hki⟩ : ∃ r, r = inB id 1 60 := ⟨_, rfl⟩
  have hin : ∀ u, Calls Try.prog 21 #[.int .i64 id] u fun e w' => e = .returned (.bool ki) ∧ w' = u := fun u => by rw [hki]; exact isTxId_any id u
  have HTF : Hid (∀ W, Below w.heap.size w W → Calls Try.prog 20 #[.agg #[.int .i64 kd, .int .i64 f, .slice ia n2 ic, .slice oa m2 oc]] W fun e w' => e = .returned (.int .i64 ct) ∧ Below W.heap.size W w') := fun W hW => by
    rw [hct]; exact iTxFault_any n2 ic m2 oc ia oa kd f rs os W hn2 hm2 hc1 hc2 hk (HT.out.below hW (Nat.le_refl _))
  by_cases h0 : cd = 0
  · subst h0
    have hF := fillBench_ok n c a ms ((w.alloc (.cells #[.int .i64 kd, .int .i64 f, .slice ia n2 ic, .slice oa m2 oc] 28)).alloc (.cells #[.int .i64 0, .slice none 0 0] 32)) hn hC1 hcd.symm
    have hn8 := mems_few hC.1 hcd.symm
    have HRI : Hid (Rises ms) := mems_rise hcd.symm
    by_cases h1 : ct = 0
    · subst h1
      cases ki
      · have hr : tmR ms kd f rs os id = (3, []) := by unfold tmR; rw [if_neg (by simp [← hcd]), if_neg (by simp [← hct]), if_pos hki.symm]
        rw [hr]
        clear hr hcd hct hki hC hT hbx hC1 hib
        go_enter Try.func6, Try.ntmps6
        go_wp2_with (first | (go_at_call 19; (with_reducible refine hF.mono ?_); clear hF; rintro e w2 ⟨va, vc, rfl, hO2, hb2⟩; have HP2 := keepb HP1.out hb2; have HR2 := keepb HR1.out hb2; have HB2 : Hid (Below w.heap.size w w2) := HB1.out.trans (hb2.mono HB1.out.size); have HO2 : Hid (w2.ownsRow (w.heap.size + 2) 68 3 (.slice va n vc) n (mcells ms)) := (by have e : ((w.alloc (.cells #[.int .i64 kd, .int .i64 f, .slice ia n2 ic, .slice oa m2 oc] 28)).alloc (.cells #[.int .i64 0, .slice none 0 0] 32)).heap.size = w.heap.size + 2 := (by simp); rw [e] at hO2; exact hO2); obtain ⟨p0, p1, p2, p3, _⟩ := cells4 HP2.out; have hT := HTF.out w2 HB2.out; clear hb2 hO2) | (go_at_call 20; (with_reducible refine hT.mono ?_); clear hT; rintro e w3 ⟨rfl, hb3⟩; have HP3 := keepb HP2.out hb3; have HR3 := keepb HR2.out hb3; have HB3 : Hid (Below w.heap.size w w3) := HB2.out.trans (hb3.mono HB2.out.size); have HO3 : Hid (w3.ownsRow (w.heap.size + 2) 68 3 (.slice va n vc) n (mcells ms)) := HO2.out.kept (grown_of_below hb3) (by cases Value.ownBlock (.slice va n vc) <;> simp); clear p0 p1 p2 p3; obtain ⟨p0, p1, p2, p3, _⟩ := cells4 HP3.out; obtain ⟨y0, y1⟩ := cells2 HR3.out; have f0 := Joins.unfrozen_of_block HR3.out 0; have f1 := Joins.unfrozen_of_block HR3.out 1; clear hb3) | (go_at_call 21; (with_reducible refine (hin _).mono ?_); rintro e w' ⟨rfl, hw⟩; have hw2 := hw.symm; subst hw2; clear hw))
        obtain ⟨_, j1⟩ := two_set HR3.out (.int .i64 3) (.slice none 0 0)
        exact bodyPost_ret (v := .agg #[.int .i64 3, .slice none 0 0]) (by simp [results, Try.results6, go_sem, j1]) rfl (outm_code (by omega) HB3.out)
      · have hr : tmR ms kd f rs os id = takeMR ms kd f rs id := by unfold tmR; rw [if_neg (by simp [← hcd]), if_neg (by simp [← hct]), if_neg (by rw [← hki]; simp)]
        rw [hr]
        obtain ⟨rc, hrc⟩ : ∃ x, x = (takeMR ms kd f rs id).1 := ⟨_, rfl⟩
        obtain ⟨rr, hrr⟩ : ∃ x, x = (takeMR ms kd f rs id).2 := ⟨_, rfl⟩
        rw [← hrc, ← hrr]
        have hrl : rr.length ≤ 1000 := by rw [hrr]; exact takeMR_few (by rw [hC.1]; omega)
        have HTK : Hid (∀ va vc W, Below w.heap.size w W → w.heap.size + 2 ≤ W.heap.size → W.ownsRow (w.heap.size + 2) 68 3 (.slice va n vc) n (mcells ms) → Calls Try.prog 22 #[.slice va n vc, .agg #[.int .i64 kd, .int .i64 f, .slice ia n2 ic, .slice oa m2 oc], .int .i64 id] W fun e w' => TkO W w' e (w.heap.size + 2) rc rr) := fun va vc W hW hs hO => by
          rw [hrc, hrr]
          exact takeB_any n vc (w.heap.size + 2) n2 ic m2 oc va ia oa ms rs kd f id W hn8 hn2 hs hO (HT.out.r.below hW (Nat.le_refl _)) (fun b o e => by have := HIB.out b o e; omega) HRI.out
        clear hr hcd hct hki hC hT hbx hC1 hib hrc hrr
        go_enter Try.func6, Try.ntmps6
        go_wp2_with (first | (go_at_call 19; (with_reducible refine hF.mono ?_); clear hF; rintro e w2 ⟨va, vc, rfl, hO2, hb2⟩; have HP2 := keepb HP1.out hb2; have HR2 := keepb HR1.out hb2; have HB2 : Hid (Below w.heap.size w w2) := HB1.out.trans (hb2.mono HB1.out.size); have HO2 : Hid (w2.ownsRow (w.heap.size + 2) 68 3 (.slice va n vc) n (mcells ms)) := (by have e : ((w.alloc (.cells #[.int .i64 kd, .int .i64 f, .slice ia n2 ic, .slice oa m2 oc] 28)).alloc (.cells #[.int .i64 0, .slice none 0 0] 32)).heap.size = w.heap.size + 2 := (by simp); rw [e] at hO2; exact hO2); obtain ⟨p0, p1, p2, p3, _⟩ := cells4 HP2.out; have hT := HTF.out w2 HB2.out; clear hb2 hO2) | (go_at_call 20; (with_reducible refine hT.mono ?_); clear hT; rintro e w3 ⟨rfl, hb3⟩; have HP3 := keepb HP2.out hb3; have HR3 := keepb HR2.out hb3; have HB3 : Hid (Below w.heap.size w w3) := HB2.out.trans (hb3.mono HB2.out.size); have HO3 : Hid (w3.ownsRow (w.heap.size + 2) 68 3 (.slice va n vc) n (mcells ms)) := HO2.out.kept (grown_of_below hb3) (by cases Value.ownBlock (.slice va n vc) <;> simp); clear p0 p1 p2 p3; obtain ⟨p0, p1, p2, p3, _⟩ := cells4 HP3.out; obtain ⟨y0, y1⟩ := cells2 HR3.out; have f0 := Joins.unfrozen_of_block HR3.out 0; have f1 := Joins.unfrozen_of_block HR3.out 1; have hs3 : w.heap.size + 2 ≤ w3.heap.size := (by have := lt_of_block HR3.out; omega); have hTK := HTK.out va vc w3 HB3.out hs3 HO3.out; clear hb3) | (go_at_call 21; (with_reducible refine (hin _).mono ?_); rintro e w' ⟨rfl, hw⟩; have hw2 := hw.symm; subst hw2; clear hw) | (go_at_call 22; (with_reducible refine hTK.mono ?_); clear hTK; rintro e w4 ⟨ua, uc, rfl, hO4, hb4⟩; have HR4 : Hid (w4.heap[w.heap.size + 1]? = some (.cells #[.int .i64 0, .slice none 0 0] 32 (0, 0))) := (hb4.block (w.heap.size + 1) (by omega)).trans HR3.out; have HB4 : Hid (Below w.heap.size w w4) := HB3.out.trans (hb4.mono (by omega)); have hM := members_any rr.length uc ua rr w4 hrl (mat_row hO4 rfl); have hs4 : w.heap.size + 2 ≤ w4.heap.size := Nat.le_trans hs3 hb4.size; clear y0 y1 f0 f1 hO4 hb4) | (go_at_call 23; (with_reducible refine hM.mono ?_); clear hM; rintro e w5 ⟨xa, xc, rfl, hO5, hb5⟩; have HO5 : Hid (w5.ownsRow w4.heap.size 38 3 (.slice xa rr.length xc) rr.length (mcells rr)) := hO5; have HR5 := keepb HR4.out hb5; have HB5 : Hid (Below w.heap.size w w5) := HB4.out.trans (hb5.mono HB4.out.size); obtain ⟨y0, y1⟩ := cells2 HR5.out; have f0 := Joins.unfrozen_of_block HR5.out 0; have f1 := Joins.unfrozen_of_block HR5.out 1; clear hO5 hb5))
        obtain ⟨_, j1⟩ := two_set HR5.out (.int .i64 rc) (.slice xa rr.length xc)
        exact bodyPost_ret (v := .agg #[.int .i64 rc, .slice xa rr.length xc]) (by simp [results, Try.results6, go_sem, j1]) rfl (outm_mems rfl (by omega) (by omega) HB5.out HO5.out)
    · have hr : tmR ms kd f rs os id = (ct, []) := by unfold tmR; rw [if_neg (by simp [← hcd]), ← hct, if_pos h1]
      rw [hr]
      clear hr hcd hct hki hC hT hbx hC1 hib
      go_enter Try.func6, Try.ntmps6
      go_wp2_with (first | (go_at_call 19; (with_reducible refine hF.mono ?_); clear hF; rintro e w2 ⟨va, vc, rfl, hO2, hb2⟩; have HP2 := keepb HP1.out hb2; have HR2 := keepb HR1.out hb2; have HB2 : Hid (Below w.heap.size w w2) := HB1.out.trans (hb2.mono HB1.out.size); have HO2 : Hid (w2.ownsRow (w.heap.size + 2) 68 3 (.slice va n vc) n (mcells ms)) := (by have e : ((w.alloc (.cells #[.int .i64 kd, .int .i64 f, .slice ia n2 ic, .slice oa m2 oc] 28)).alloc (.cells #[.int .i64 0, .slice none 0 0] 32)).heap.size = w.heap.size + 2 := (by simp); rw [e] at hO2; exact hO2); obtain ⟨p0, p1, p2, p3, _⟩ := cells4 HP2.out; have hT := HTF.out w2 HB2.out; clear hb2 hO2) | (go_at_call 20; (with_reducible refine hT.mono ?_); clear hT; rintro e w3 ⟨rfl, hb3⟩; have HP3 := keepb HP2.out hb3; have HR3 := keepb HR2.out hb3; have HB3 : Hid (Below w.heap.size w w3) := HB2.out.trans (hb3.mono HB2.out.size); have HO3 : Hid (w3.ownsRow (w.heap.size + 2) 68 3 (.slice va n vc) n (mcells ms)) := HO2.out.kept (grown_of_below hb3) (by cases Value.ownBlock (.slice va n vc) <;> simp); clear p0 p1 p2 p3; obtain ⟨p0, p1, p2, p3, _⟩ := cells4 HP3.out; obtain ⟨y0, y1⟩ := cells2 HR3.out; have f0 := Joins.unfrozen_of_block HR3.out 0; have f1 := Joins.unfrozen_of_block HR3.out 1; clear hb3))
      obtain ⟨_, j1⟩ := two_set HR3.out (.int .i64 ct) (.slice none 0 0)
      exact bodyPost_ret (v := .agg #[.int .i64 ct, .slice none 0 0]) (by simp [results, Try.results6, go_sem, j1]) rfl (outm_code (by omega) HB3.out)
  · have hr : tmR ms kd f rs os id = (cd, []) := by unfold tmR; rw [← hcd, if_pos h0]
    rw [hr]
    have hF := fillBench_bad n c a ms cd ((w.alloc (.cells #[.int .i64 kd, .int .i64 f, .slice ia n2 ic, .slice oa m2 oc] 28)).alloc (.cells #[.int .i64 0, .slice none 0 0] 32)) hn hC1 hcd.symm h0
    clear hr hcd hct hki hC hT hbx hC1 hib
    go_enter Try.func6, Try.ntmps6
    go_wp2_with (first | (go_at_call 19; (with_reducible refine hF.mono ?_); clear hF; rintro e w2 ⟨rfl, hb2⟩; have HP2 := keepb HP1.out hb2; have HR2 := keepb HR1.out hb2; have HB2 : Hid (Below w.heap.size w w2) := HB1.out.trans (hb2.mono HB1.out.size); obtain ⟨y0, y1⟩ := cells2 HR2.out; have f0 := Joins.unfrozen_of_block HR2.out 0; have f1 := Joins.unfrozen_of_block HR2.out 1; clear hb2))
    obtain ⟨_, j1⟩ := two_set HR2.out (.int .i64 cd) (.slice none 0 0)
    exact bodyPost_ret (v := .agg #[.int .i64 cd, .slice none 0 0]) (by simp [results, Try.results6, go_sem, j1]) rfl (outm_code (by omega) HB2.out)

end Go.Proofs.Ytgfhnmjpkanikaa
