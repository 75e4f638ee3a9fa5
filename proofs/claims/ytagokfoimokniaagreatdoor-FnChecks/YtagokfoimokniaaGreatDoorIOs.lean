/- The program's OutSum and ClashTx keep their contracts. -/
import Derived.Test.YtagokfoimokniaaGreatDoorJn3
import Derived.Test.YtagokfoimokniaaGreatDoorJn4
namespace Go.Proofs.YtagokfoimokniaaGreatDoor
open Go.RowKit Go.Maps Go.WideMaps

set_option maxRecDepth 20000 in
set_option maxHeartbeats 2000000 in
theorem iOutSum_any (n c m d : Nat) (ia oa : Option Addr) (k f : Int) (rs : List (Int × Int)) (os : List Ou) (w : World) (hn : n ≤ 1048576) (hm : m ≤ 1048576) (hc1 : n ≤ c) (hc2 : c ≤ maxLen) (hk : ∀ j, j < m → (os.getD j O0).l.length ≤ 1048576) (h : TxAt w ia n oa m rs os) :
    Calls Tryz.prog 15 #[.agg #[.int .i64 k, .int .i64 f, .slice ia n c, .slice oa m d]] w fun e w' => e = .returned (.agg #[.int .i64 (sumR k f rs os).1, .int .i64 (sumR k f rs os).2]) ∧ Below w.heap.size w w' := by
  have hbx : Below w.heap.size w ((w.alloc (.cells #[.int .i64 k, .int .i64 f, .slice ia n c, .slice oa m d] 32)).alloc (.cells #[.int .i64 0, .int .i64 0] 36)) := below_box2 _ _
  have T0 := show Hid (((w.alloc (.cells #[.int .i64 k, .int .i64 f, .slice ia n c, .slice oa m d] 32)).alloc (.cells #[.int .i64 0, .int .i64 0] 36)).heap[w.heap.size]? = some (.cells #[.int .i64 k, .int .i64 f, .slice ia n c, .slice oa m d] 32 (0, 0))) from block_at2
  have T1 := show Hid (((w.alloc (.cells #[.int .i64 k, .int .i64 f, .slice ia n c, .slice oa m d] 32)).alloc (.cells #[.int .i64 0, .int .i64 0] 36)).heap[w.heap.size + 1]? = some (.cells #[.int .i64 0, .int .i64 0] 36 (0, 0))) from heap_alloc_at _ _ _ (by simp)
  have hS := iTxFault_any n c m d ia oa k f rs os ((w.alloc (.cells #[.int .i64 k, .int .i64 f, .slice ia n c, .slice oa m d] 32)).alloc (.cells #[.int .i64 0, .int .i64 0] 36)) hn hm hc1 hc2 hk (h.below hbx (Nat.le_refl _))
  have HBX : Hid (Below w.heap.size w ((w.alloc (.cells #[.int .i64 k, .int .i64 f, .slice ia n c, .slice oa m d] 32)).alloc (.cells #[.int .i64 0, .int .i64 0] 36))) := hbx
  have HO : Hid (OAt w oa m os) := h.o
  have HM : Hid (os.length = m) := h.o.1
  clear hbx h hk
  obtain ⟨cd, hcd⟩ : ∃ c, c = txR k f rs os := ⟨_, rfl⟩
  rw [← hcd] at hS
  by_cases hz : cd = 0
  · subst hz
    have hr : sumR k f rs os = (0, (os.map Ou.v).sum) := by unfold sumR; rw [← hcd, if_neg (by simp)]
    rw [hr]
    obtain ⟨hm4, hvv⟩ := txR_zero HM.out hcd
    have HV : Hid (∀ j, j < m → 1 ≤ (os.getD j O0).v ∧ (os.getD j O0).v ≤ 1000000) := hvv
    obtain ⟨s, hs⟩ : ∃ s, s = (os.map Ou.v).sum := ⟨_, rfl⟩
    have HS : Hid (s = (os.map Ou.v).sum) := hs
    simp only
    rw [← hs]
    clear hr hcd hvv hs
    go_enter Tryz.func15, Tryz.ntmps15
    go_wp2_with (first
      | (go_at_call 33; refine hS.mono ?_; clear hS; rintro e w2 ⟨rfl, hb2⟩; have HT1 := keepb T1.out hb2; obtain ⟨⟨p0, p1, p2, p3, _⟩, _⟩ := res4 T0.out hb2 (by simp; omega); have HBW : Hid (Below w.heap.size w w2) := HBX.out.trans (hb2.mono (by simp; omega)); clear hb2))
    have HO2 : Hid (OAt w2 oa m os) := HO.out.below HBW.out (Nat.le_refl _)
    clear p0 p1 p2 p3 T0 T1 HBX HO
    go_loopw [4, 16] (fun v i wr => ∃ j : Nat, j ≤ m ∧ i = .int .i64 j ∧ ∃ q : Int, v = .int .i64 q ∧ 0 ≤ q ∧ q ≤ 1000000 * j ∧ Hid (q = ((os.take j).map Ou.v).sum) ∧ Below w2.heap.size w2 wr) (fun _ i _ => m - (intOf i).toNat)
    case atStart => exact ⟨0, Nat.zero_le _, rfl, 0, rfl, by omega, by omega, by show _ = _; simp, Below.refl _ _⟩
    case round =>
      obtain ⟨j, hj, rfl, q, rfl, hq0, hq1, HQ, hbel⟩ := hrel
      by_cases hlt : j < m
      · rcases HO2.out.2 with h0 | ⟨b, off, e0, l0, d0⟩
        · omega
        subst e0
        obtain ⟨ka, kn, kc, p0, p1, p2, p3, _⟩ := d0 j hlt
        have hvj := HV.out j hlt
        obtain ⟨ov, hov⟩ : ∃ v, v = (os.getD j O0).v := ⟨_, rfl⟩
        obtain ⟨ox, hox⟩ : ∃ v, v = (os.getD j O0).x := ⟨_, rfl⟩
        obtain ⟨oy, hoy⟩ : ∃ v, v = (os.getD j O0).y := ⟨_, rfl⟩
        rw [← hov] at p0 hvj
        rw [← hox] at p2
        rw [← hoy] at p3
        have x0 := (hbel.cell (p := ⟨b, off + j * 4, none⟩) l0).trans p0
        have x1 := (hbel.cell (p := ⟨b, off + j * 4 + 1, none⟩) l0).trans p1
        have x2 := (hbel.cell (p := ⟨b, off + j * 4 + 2, none⟩) l0).trans p2
        have x3 := (hbel.cell (p := ⟨b, off + j * 4 + 3, none⟩) l0).trans p3
        have HOV : Hid (ov = (os.getD j O0).v) := hov
        clear d0 hov hox hoy p0 p1 p2 p3
        have hki : (j : Int) < (m : Int) := by omega
        go_wp2
        go_roundw
        case rel =>
          refine ⟨j + 1, by omega, by go_num, _, rfl, by omega, by omega, ?_, hbel.trans ((below_box _).mono hbel.size)⟩
          show _ = _
          have e1 : os[j]? = some (os.getD j O0) := by rw [List.getD, List.getElem?_eq_getElem (by rw [HM.out]; exact hlt)]; rfl
          rw [take_more e1, List.map_append, List.sum_append, ← HQ.out, HOV.out]
          simp
        case measure => simp [intOf]; omega
      · have e1 : os.take j = os := List.take_of_length_le (by rw [HM.out]; omega)
        obtain rfl : s = q := by rw [HS.out, HQ.out, e1]
        clear e1
        obtain ⟨q0, q1, q2, q3, HR⟩ := res_cells HT1.out hbel (lt_of_block HT1.out)
        go_wp2
        obtain ⟨s0, s1, s2⟩ := two_set HR.out (.int .i64 0) (.int .i64 s)
        exact bodyPost_ret (v := .agg #[.int .i64 0, .int .i64 s]) (by simp [results, Tryz.results15, go_sem, s0, s1]) rfl ⟨rfl, below_res (HBW.out.trans (hbel.mono HBW.out.size)) _ _⟩
  · have hr : sumR k f rs os = (cd, 0) := by unfold sumR; rw [← hcd, if_pos hz]
    rw [hr]
    clear hr hcd
    go_enter Tryz.func15, Tryz.ntmps15
    go_wp2_with (first
      | (go_at_call 33; refine hS.mono ?_; rintro e w2 ⟨rfl, hb2⟩; obtain ⟨q0, q1, q2, q3, HR⟩ := res_cells T1.out hb2 (by simp); have HBW : Hid (Below w.heap.size w w2) := HBX.out.trans (hb2.mono (by simp; omega)); clear hb2))
    obtain ⟨s0, s1, s2⟩ := two_set HR.out (.int .i64 cd) (.int .i64 0)
    exact bodyPost_ret (v := .agg #[.int .i64 cd, .int .i64 0]) (by simp [results, Tryz.results15, go_sem, s0, s1]) rfl ⟨rfl, below_res HBW.out _ _⟩
end Go.Proofs.YtagokfoimokniaaGreatDoor
