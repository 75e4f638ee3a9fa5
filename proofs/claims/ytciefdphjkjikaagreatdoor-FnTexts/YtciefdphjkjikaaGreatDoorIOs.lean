/- The program's OutSum and ClashTx keep their contracts. -/
import Derived.Test.YtciefdphjkjikaaGreatDoorJn3
import Derived.Test.YtciefdphjkjikaaGreatDoorJn4
import Derived.Test.YtciefdphjkjikaaGreatDoorLClashTx
namespace Go.Proofs.YtciefdphjkjikaaGreatDoor
open Go.RowKit Go.Maps Go.WideMaps

set_option maxRecDepth 20000 in
set_option maxHeartbeats 2000000 in
theorem iOutSum_any (n c m d : Nat) (ia oa : Option Addr) (k f : Int) (rs : List (Int × Int)) (os : List Ou) (w : World) (hn : n ≤ 1048576) (hm : m ≤ 1048576) (hc1 : n ≤ c) (hc2 : c ≤ maxLen) (hk : ∀ j, j < m → (os.getD j O0).l.length ≤ 1048576) (h : TxAt w ia n oa m rs os) :
    Calls Tryz.prog 13 #[.agg #[.int .i64 k, .int .i64 f, .slice ia n c, .slice oa m d]] w fun e w' => e = .returned (.agg #[.int .i64 (sumR k f rs os).1, .int .i64 (sumR k f rs os).2]) ∧ Below w.heap.size w w' := by
  have hbx : Below w.heap.size w ((w.alloc (.cells #[.int .i64 k, .int .i64 f, .slice ia n c, .slice oa m d] 28)).alloc (.cells #[.int .i64 0, .int .i64 0] 38)) := below_box2 _ _
  have T0 := show Hid (((w.alloc (.cells #[.int .i64 k, .int .i64 f, .slice ia n c, .slice oa m d] 28)).alloc (.cells #[.int .i64 0, .int .i64 0] 38)).heap[w.heap.size]? = some (.cells #[.int .i64 k, .int .i64 f, .slice ia n c, .slice oa m d] 28 (0, 0))) from block_at2
  have T1 := show Hid (((w.alloc (.cells #[.int .i64 k, .int .i64 f, .slice ia n c, .slice oa m d] 28)).alloc (.cells #[.int .i64 0, .int .i64 0] 38)).heap[w.heap.size + 1]? = some (.cells #[.int .i64 0, .int .i64 0] 38 (0, 0))) from heap_alloc_at _ _ _ (by simp)
  have hS := iTxFault_any n c m d ia oa k f rs os ((w.alloc (.cells #[.int .i64 k, .int .i64 f, .slice ia n c, .slice oa m d] 28)).alloc (.cells #[.int .i64 0, .int .i64 0] 38)) hn hm hc1 hc2 hk (h.below hbx (Nat.le_refl _))
  have HBX : Hid (Below w.heap.size w ((w.alloc (.cells #[.int .i64 k, .int .i64 f, .slice ia n c, .slice oa m d] 28)).alloc (.cells #[.int .i64 0, .int .i64 0] 38))) := hbx
  have HO : Hid (OAt w oa m os) := h.o
  have HM : Hid (os.length = m) := h.o.1
  clear hbx h hk
  obtain ⟨cd, hcd⟩ : ∃ c, c = txR k f rs os := ⟨_, rfl⟩
  rw [← hcd] at hS
  by_cases hz : cd = 0
  · subst hz
    have hr : sumR k f rs os = (0, (os.map Ou.v).sum) := by unfold sumR; rw [← hcd, if_neg (by simp)]
    rw [hr]
    obtain ⟨hm4, hvv⟩ := txR_zero HM.out hcd
    have HV : Hid (∀ j, j < m → 1 ≤ (os.getD j O0).v ∧ (os.getD j O0).v ≤ 1000000) := hvv
    obtain ⟨s, hs⟩ : ∃ s, s = (os.map Ou.v).sum := ⟨_, rfl⟩
    have HS : Hid (s = (os.map Ou.v).sum) := hs
    simp only
    rw [← hs]
    clear hr hcd hvv hs
    go_enter Tryz.func13, Tryz.ntmps13
    go_wp2_with (first
      | (go_at_call 11; refine hS.mono ?_; clear hS; rintro e w2 ⟨rfl, hb2⟩; have HT1 := keepb T1.out hb2; obtain ⟨⟨p0, p1, p2, p3, _⟩, _⟩ := res4 T0.out hb2 (by simp; omega); have HBW : Hid (Below w.heap.size w w2) := HBX.out.trans (hb2.mono (by simp; omega)); clear hb2))
    have HO2 : Hid (OAt w2 oa m os) := HO.out.below HBW.out (Nat.le_refl _)
    clear p0 p1 p2 p3 T0 T1 HBX HO
    go_loopw [4, 16] (fun v i wr => ∃ j : Nat, j ≤ m ∧ i = .int .i64 j ∧ ∃ q : Int, v = .int .i64 q ∧ 0 ≤ q ∧ q ≤ 1000000 * j ∧ Hid (q = ((os.take j).map Ou.v).sum) ∧ Below w2.heap.size w2 wr) (fun _ i _ => m - (intOf i).toNat)
    case atStart => exact ⟨0, Nat.zero_le _, rfl, 0, rfl, by omega, by omega, by show _ = _; simp, Below.refl _ _⟩
    case round =>
      obtain ⟨j, hj, rfl, q, rfl, hq0, hq1, HQ, hbel⟩ := hrel
      by_cases hlt : j < m
      · rcases HO2.out.2 with h0 | ⟨b, off, e0, l0, d0⟩
        · omega
        subst e0
        obtain ⟨ka, kn, kc, p0, p1, p2, p3, _⟩ := d0 j hlt
        have hvj := HV.out j hlt
        obtain ⟨ov, hov⟩ : ∃ v, v = (os.getD j O0).v := ⟨_, rfl⟩
        obtain ⟨ox, hox⟩ : ∃ v, v = (os.getD j O0).x := ⟨_, rfl⟩
        obtain ⟨oy, hoy⟩ : ∃ v, v = (os.getD j O0).y := ⟨_, rfl⟩
        rw [← hov] at p0 hvj
        rw [← hox] at p2
        rw [← hoy] at p3
        have x0 := (hbel.cell (p := ⟨b, off + j * 4, none⟩) l0).trans p0
        have x1 := (hbel.cell (p := ⟨b, off + j * 4 + 1, none⟩) l0).trans p1
        have x2 := (hbel.cell (p := ⟨b, off + j * 4 + 2, none⟩) l0).trans p2
        have x3 := (hbel.cell (p := ⟨b, off + j * 4 + 3, none⟩) l0).trans p3
        have HOV : Hid (ov = (os.getD j O0).v) := hov
        clear d0 hov hox hoy p0 p1 p2 p3
        have hki : (j : Int) < (m : Int) := by omega
        go_wp2
        go_roundw
        case rel =>
          refine ⟨j + 1, by omega, by go_num, _, rfl, by omega, by omega, ?_, hbel.trans ((below_box _).mono hbel.size)⟩
          show _ = _
          have e1 : os[j]? = some (os.getD j O0) := by rw [List.getD, List.getElem?_eq_getElem (by rw [HM.out]; exact hlt)]; rfl
          rw [take_more e1, List.map_append, List.sum_append, ← HQ.out, HOV.out]
          simp
        case measure => simp [intOf]; omega
      · have e1 : os.take j = os := List.take_of_length_le (by rw [HM.out]; omega)
        obtain rfl : s = q := by rw [HS.out, HQ.out, e1]
        clear e1
        obtain ⟨q0, q1, q2, q3, HR⟩ := res_cells HT1.out hbel (lt_of_block HT1.out)
        go_wp2
        obtain ⟨s0, s1, s2⟩ := two_set HR.out (.int .i64 0) (.int .i64 s)
        exact bodyPost_ret (v := .agg #[.int .i64 0, .int .i64 s]) (by simp [results, Tryz.results13, go_sem, s0, s1]) rfl ⟨rfl, below_res (HBW.out.trans (hbel.mono HBW.out.size)) _ _⟩
  · have hr : sumR k f rs os = (cd, 0) := by unfold sumR; rw [← hcd, if_pos hz]
    rw [hr]
    clear hr hcd
    go_enter Tryz.func13, Tryz.ntmps13
    go_wp2_with (first
      | (go_at_call 11; refine hS.mono ?_; rintro e w2 ⟨rfl, hb2⟩; obtain ⟨q0, q1, q2, q3, HR⟩ := res_cells T1.out hb2 (by simp); have HBW : Hid (Below w.heap.size w w2) := HBX.out.trans (hb2.mono (by simp; omega)); clear hb2))
    obtain ⟨s0, s1, s2⟩ := two_set HR.out (.int .i64 cd) (.int .i64 0)
    exact bodyPost_ret (v := .agg #[.int .i64 cd, .int .i64 0]) (by simp [results, Tryz.results13, go_sem, s0, s1]) rfl ⟨rfl, below_res HBW.out _ _⟩
set_option maxRecDepth 20000 in
set_option maxHeartbeats 2000000 in
theorem iClashTx : IClashTx := by
  intro n c m d n' c' m' d' ia oa ib ob k f k' f' rs rs' os os' w hn hm hc1 hc2 hk h hn' hm' hc1' hc2' hk' h' _ _
  have hbx : Below w.heap.size w ((w.alloc (.cells #[.int .i64 k, .int .i64 f, .slice ia n c, .slice oa m d] 28)).alloc (.cells #[.int .i64 k', .int .i64 f', .slice ib n' c', .slice ob m' d'] 28)) := below_box2 _ _
  have T0 := show Hid (((w.alloc (.cells #[.int .i64 k, .int .i64 f, .slice ia n c, .slice oa m d] 28)).alloc (.cells #[.int .i64 k', .int .i64 f', .slice ib n' c', .slice ob m' d'] 28)).heap[w.heap.size]? = some (.cells #[.int .i64 k, .int .i64 f, .slice ia n c, .slice oa m d] 28 (0, 0))) from block_at2
  have T1 := show Hid (((w.alloc (.cells #[.int .i64 k, .int .i64 f, .slice ia n c, .slice oa m d] 28)).alloc (.cells #[.int .i64 k', .int .i64 f', .slice ib n' c', .slice ob m' d'] 28)).heap[w.heap.size + 1]? = some (.cells #[.int .i64 k', .int .i64 f', .slice ib n' c', .slice ob m' d'] 28 (0, 0))) from heap_alloc_at _ _ _ (by simp)
  have hA := iTxFault_any n c m d ia oa k f rs os ((w.alloc (.cells #[.int .i64 k, .int .i64 f, .slice ia n c, .slice oa m d] 28)).alloc (.cells #[.int .i64 k', .int .i64 f', .slice ib n' c', .slice ob m' d'] 28)) hn hm hc1 hc2 hk (h.below hbx (Nat.le_refl _))
  have hB : ∀ v, Below w.heap.size w v → Calls Tryz.prog 11 #[.agg #[.int .i64 k', .int .i64 f', .slice ib n' c', .slice ob m' d']] v fun e w' => e = .returned (.int .i64 (txR k' f' rs' os')) ∧ Below v.heap.size v w' := fun v hv =>
    iTxFault_any n' c' m' d' ib ob k' f' rs' os' v hn' hm' hc1' hc2' hk' (h'.below hv (Nat.le_refl _))
  have HA : Hid (GAt w ia n rs) := h.r
  have HN : Hid (rs.length = n) := h.r.1
  have HB : Hid (GAt w ib n' rs') := h'.r
  have HBX : Hid (Below w.heap.size w ((w.alloc (.cells #[.int .i64 k, .int .i64 f, .slice ia n c, .slice oa m d] 28)).alloc (.cells #[.int .i64 k', .int .i64 f', .slice ib n' c', .slice ob m' d'] 28))) := hbx
  obtain ⟨ca, hca⟩ : ∃ x, x = txR k f rs os := ⟨_, rfl⟩
  obtain ⟨cb, hcb⟩ : ∃ x, x = txR k' f' rs' os' := ⟨_, rfl⟩
  obtain ⟨cl, hcl⟩ : ∃ x, x = clashB rs rs' := ⟨_, rfl⟩
  have hr : clashR k f rs os k' f' rs' os' = (decide (ca = 0) && (decide (cb = 0) && cl)) := by rw [hca, hcb, hcl]; rfl
  rw [← hca] at hA
  rw [← hcb] at hB
  have HCL : Hid (cl = clashB rs rs') := hcl
  rw [hr]
  have HBB : Hid (∀ v, Below w.heap.size w v → Calls Tryz.prog 11 #[.agg #[.int .i64 k', .int .i64 f', .slice ib n' c', .slice ob m' d']] v fun e w' => e = .returned (.int .i64 cb) ∧ Below v.heap.size v w') := hB
  clear hr hca hcb hcl hbx h h' hk hk' hB
  by_cases ha0 : ca = 0
  · subst ha0
    by_cases hb0 : cb = 0
    · subst hb0
      have e0 : (decide ((0 : Int) = 0) && (decide ((0 : Int) = 0) && cl)) = cl := by simp
      rw [e0]
      clear e0
      go_enter Tryz.func15, Tryz.ntmps15
      go_wp2_with (first
        | (go_at_call 11; (first
            | (refine hA.mono ?_; clear hA; rintro e w2 ⟨rfl, hb2⟩; have HB2 : Hid (Below w.heap.size w w2) := HBX.out.trans (hb2.mono (by simp; omega)); have HP2 := keepb T0.out hb2; have HQ2 := keepb T1.out hb2; obtain ⟨z0, z1, z2, z3, _⟩ := cells4 HQ2.out; have hB2 := HBB.out w2 HB2.out; clear hb2)
            | (refine hB2.mono ?_; clear hB2; rintro e w3 ⟨rfl, hb3⟩; have HB3 : Hid (Below w.heap.size w w3) := HB2.out.trans (hb3.mono HB2.out.size); have HP3 := keepb HP2.out hb3; have HQ3 := keepb HQ2.out hb3; clear z0 z1 z2 z3; obtain ⟨p0, p1, p2, p3, _⟩ := cells4 HP3.out; clear hb3))))
      have HA3 : Hid (GAt w3 ia n rs) := HA.out.below HB3.out (Nat.le_refl _)
      have HBB3 : Hid (GAt w3 ib n' rs') := HB.out.below HB3.out (Nat.le_refl _)
      have hQl := lt_of_block HQ3.out
      clear p0 p1 p2 p3 HA HB T0 T1 HBX HBB HP2 HQ2 HB2
      go_loopw [18] (fun i wr => ∃ j : Nat, j ≤ n ∧ i = .int .i64 j ∧ Below w3.heap.size w3 wr ∧ Hid (clashB (rs.take j) rs' = false)) (fun i _ => n - (intOf i).toNat)
      case atStart => exact ⟨0, Nat.zero_le _, rfl, Below.refl _ _, by show _ = _; simp [clashB]⟩
      case round =>
        obtain ⟨j, hj, rfl, hbel, HT⟩ := hrel
        by_cases hlt : j < n
        · rcases HA3.out.2 with h0 | ⟨b, off, e0, hbl, hc⟩
          · omega
          subst e0
          obtain ⟨g, hg⟩ : ∃ g, g = rs.getD j G0 := ⟨_, rfl⟩
          have hcx := hc j hlt
          rw [← hg] at hcx
          obtain ⟨g1, g2⟩ := g
          have c0 := (hbel.cell (p := ⟨b, off + j * 2, none⟩) hbl).trans hcx.1
          have c1 := (hbel.cell (p := ⟨b, off + j * 2 + 1, none⟩) hbl).trans hcx.2
          have q2 := (hbel.cell (p := ⟨w.heap.size + 1, 2, none⟩) hQl).trans (cells4 HQ3.out).2.2.1
          have HG : Hid ((g1, g2) = rs.getD j G0) := hg
          have hki : (j : Int) < (n : Int) := by omega
          have HBY : Hid (Below wr.heap.size wr (wr.alloc (.cells #[.int .i64 g1, .int .i64 g2] 65))) := below_box _
          have q2' := (HBY.out.cell (p := ⟨w.heap.size + 1, 2, none⟩) (Nat.lt_of_lt_of_le hQl hbel.size)).trans q2
          obtain ⟨mb, hmb⟩ : ∃ b, b = memB rs' (g1, g2) := ⟨_, rfl⟩
          have HMB : Hid (memB rs' (g1, g2) = mb) := hmb.symm
          have ham := rContains_any ib n' c' rs' g1 g2 (wr.alloc (.cells #[.int .i64 g1, .int .i64 g2] 65)) (by unfold maxLen; omega) ((HBB3.out.below hbel (Nat.le_refl _)).below HBY.out (Nat.le_refl _))
          rw [← hmb] at ham
          clear hg hc hcx hmb
          cases mb
          · go_wp2_with (go_at_call 35; refine ham.mono ?_; rintro e w4 ⟨rfl, hb4⟩)
            go_roundw
            case rel => exact ⟨j + 1, by omega, by go_num, (hbel.trans (HBY.out.mono hbel.size)).trans (hb4.mono (by have := hbel.size; simp; omega)), clashB_next HN.out hlt HG.out HT.out HMB.out⟩
            case measure => simp [intOf]; omega
          · obtain rfl : cl = true := by rw [HCL.out]; exact clashB_hit HN.out hlt HG.out HMB.out
            go_wp2_with (go_at_call 35; refine ham.mono ?_; rintro e w4 ⟨rfl, hb4⟩)
            go_ret
            have hbw := (hbel.trans (HBY.out.mono hbel.size)).trans (hb4.mono (by have := hbel.size; simp; omega))
            exact ⟨rfl, HB3.out.trans (hbw.mono HB3.out.size)⟩
        · obtain rfl : cl = false := by rw [HCL.out]; exact clashB_none HN.out hlt HT.out
          go_wp2
          go_ret
          exact ⟨rfl, HB3.out.trans (hbel.mono HB3.out.size)⟩
    · have e0 : (decide ((0 : Int) = 0) && (decide (cb = 0) && cl)) = false := by simp [hb0]
      have hbb : (cb == 0) = false := by simpa using hb0
      rw [e0]
      clear e0
      go_enter Tryz.func15, Tryz.ntmps15
      go_wp2_with (first
        | (go_at_call 11; (first
            | (refine hA.mono ?_; clear hA; rintro e w2 ⟨rfl, hb2⟩; have HB2 : Hid (Below w.heap.size w w2) := HBX.out.trans (hb2.mono (by simp; omega)); have HQ2 := keepb T1.out hb2; obtain ⟨z0, z1, z2, z3, _⟩ := cells4 HQ2.out; have hB2 := HBB.out w2 HB2.out; clear hb2)
            | (refine hB2.mono ?_; clear hB2; rintro e w3 ⟨rfl, hb3⟩; have HB3 : Hid (Below w.heap.size w w3) := HB2.out.trans (hb3.mono HB2.out.size); clear hb3))))
      go_ret
      exact ⟨rfl, HB3.out⟩
  · have e0 : (decide (ca = 0) && (decide (cb = 0) && cl)) = false := by simp [ha0]
    have hab : (ca == 0) = false := by simpa using ha0
    rw [e0]
    clear e0
    go_enter Tryz.func15, Tryz.ntmps15
    go_wp2_with (first
      | (go_at_call 11; refine hA.mono ?_; clear hA; rintro e w2 ⟨rfl, hb2⟩; have HB2 : Hid (Below w.heap.size w w2) := HBX.out.trans (hb2.mono (by simp; omega)); clear hb2))
    go_ret
    exact ⟨rfl, HB2.out⟩

end Go.Proofs.YtciefdphjkjikaaGreatDoor
