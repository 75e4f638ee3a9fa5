/- Are coins just those that outs make? -/
import Derived.Test.YthjolannlefbcaaGreatDoorQc
import Derived.Test.YthjolannlefbcaaGreatDoorISm
import Derived.Lib.QuietBelow
namespace Go.Proofs.YthjolannlefbcaaGreatDoor
open Go.RowKit Go.Maps Go.WideMaps Go.Sort

theorem madeB_len {ms : List Co} {os : List Ou} (h : ¬ ms.length = os.length) : madeB ms os = false := by unfold madeB; rw [decide_eq_false h]; rfl
theorem madeB_yes {ms : List Co} {os : List Ou} {n : Nat} (hn : ms.length = n) (hm : os.length = n) (h : ∀ t, t < n → placeB (ms.getD t C0) (os.getD t O0) t = true) : madeB ms os = true := by
  unfold madeB
  rw [decide_eq_true (by omega), Bool.true_and, List.all_eq_true]
  exact fun t ht => h t (by have := List.mem_range.1 ht; omega)
theorem madeB_no {ms : List Co} {os : List Ou} {n t : Nat} (hn : ms.length = n) (ht : t < n) (h : placeB (ms.getD t C0) (os.getD t O0) t = false) : madeB ms os = false := by
  unfold madeB
  rw [Bool.and_eq_false_iff]
  right
  rw [List.all_eq_false]
  exact ⟨t, List.mem_range.2 (by omega), by rw [h]; exact Bool.false_ne_true⟩

set_option maxRecDepth 20000 in
set_option maxHeartbeats 4000000 in
theorem areMadeOf_any (n c m d : Nat) (a oa : Option Addr) (ms : List Co) (os : List Ou) (w : World) (hn : n ≤ 1048576) (hm : m ≤ 1048576) (hk : ∀ j, j < n → (ms.getD j C0).l.length ≤ 1048576) (hk2 : ∀ j, j < m → (os.getD j O0).l.length ≤ 1048576) (hC : CAt w a n ms) (hO : OAt w oa m os) :
    Calls Tryz.prog 91 #[.slice a n c, .slice oa m d] w fun e w' => e = .returned (.bool (madeB ms os)) ∧ Below w.heap.size w w' := by
  have hmix : Tryz.prog.follows .mixedOrders = true := by kernel_rfl
  have HC : Hid (CAt w a n ms) := hC
  have HN : Hid (ms.length = n) := hC.1
  have HO : Hid (OAt w oa m os) := hO
  have HM : Hid (os.length = m) := hO.1
  have HK : Hid (∀ j, j < n → (ms.getD j C0).l.length ≤ 1048576) := hk
  have HK2 : Hid (∀ j, j < m → (os.getD j O0).l.length ≤ 1048576) := hk2
  clear hC hO hk hk2
  by_cases hnm : n = m
  · subst hnm
    go_enter Tryz.func91, Tryz.ntmps91
    go_wp2
    go_loopw [14] (fun i wr => ∃ j : Nat, j ≤ n ∧ i = .int .i64 j ∧ Below w.heap.size w wr ∧ Hid (∀ t, t < j → placeB (ms.getD t C0) (os.getD t O0) t = true)) (fun i _ => n - (intOf i).toNat)
    case atStart => exact ⟨0, Nat.zero_le _, rfl, Below.refl _ _, fun t ht => by omega⟩
    case round =>
      obtain ⟨j, hj, rfl, hbel, HI⟩ := hrel
      by_cases hlt : j < n
      · rcases HC.out.2 with h0 | ⟨b, off, e0, l0, d0⟩
        · omega
        subst e0
        rcases HO.out.2 with h0 | ⟨b2, off2, e0, l2, d2⟩
        · omega
        subst e0
        obtain ⟨o, ho⟩ : ∃ o, o = ms.getD j C0 := ⟨_, rfl⟩
        obtain ⟨u, hu⟩ : ∃ u, u = os.getD j O0 := ⟨_, rfl⟩
        obtain ⟨ka, kc, p0, p4, p5⟩ := d0 j hlt
        rw [← ho] at p0 p4 p5
        obtain ⟨va, vn, vc, r0, r1, r2, r3, r4, r5⟩ := d2 j hlt
        rw [← hu] at r0 r2 r3 r5
        have hl1 := HK.out j hlt
        have hl2 := HK2.out j hlt
        rw [← ho] at hl1
        rw [← hu, r5.1] at hl2
        have HPL : Hid (∀ t, t < j + 1 → t ≠ j → placeB (ms.getD t C0) (os.getD t O0) t = true) := fun t ht hne => HI.out t (by omega)
        obtain ⟨op, oq, ov, ol, ox, oy, oh, om⟩ := o
        obtain ⟨uv, ul, ux, uy⟩ := u
        have HPB : Hid (placeB (ms.getD j C0) (os.getD j O0) j = (decide (oq = (j : Int)) && sameO ⟨ov, ol, ox, oy⟩ ⟨uv, ul, ux, uy⟩)) := by show _ = _; rw [← ho, ← hu]; rfl
        simp only at p0 p4 p5 r0 r2 r3 r5 hl1 hl2
        obtain ⟨x0, x1, x2, x3, x4, x5, x6, x7⟩ := p0.below hbel l0
        simp only at x0 x1 x2 x3 x4 x5 x6 x7
        have hbx : Below wr.heap.size wr (wr.alloc (.cells #[.int .i64 op, .int .i64 oq, .int .i64 ov, .slice ka ol.length kc, .int .i64 ox, .int .i64 oy, .int .i64 oh, .bool om] 75)) := below_box _
        have HBX : Hid (Below w.heap.size w (wr.alloc (.cells #[.int .i64 op, .int .i64 oq, .int .i64 ov, .slice ka ol.length kc, .int .i64 ox, .int .i64 oy, .int .i64 oh, .bool om] 75))) := hbel.trans (hbx.mono hbel.size)
        have hX := heap_alloc_new wr (.cells #[.int .i64 op, .int .i64 oq, .int .i64 ov, .slice ka ol.length kc, .int .i64 ox, .int .i64 oy, .int .i64 oh, .bool om] 75)
        obtain ⟨⟨t0, t1, t2, t3, t4, t5, t6, t7⟩, _⟩ := cells8 hX
        have z0 := cell_regrown ((HBX.out.cell (p := ⟨b2, off2 + j * 4, none⟩) l2).trans r0)
        have z1 := cell_regrown ((HBX.out.cell (p := ⟨b2, off2 + j * 4 + 1, none⟩) l2).trans r1)
        have z2 := cell_regrown ((HBX.out.cell (p := ⟨b2, off2 + j * 4 + 2, none⟩) l2).trans r2)
        have z3 := cell_regrown ((HBX.out.cell (p := ⟨b2, off2 + j * 4 + 3, none⟩) l2).trans r3)
        have s1 := cell_regrown t1
        have s2 := cell_regrown t2
        have s3 := cell_regrown t3
        have s4 := cell_regrown t4
        have s5 := cell_regrown t5
        obtain ⟨sb, hsb⟩ : ∃ s, s = sameO ⟨ov, ol, ox, oy⟩ ⟨uv, ul, ux, uy⟩ := ⟨_, rfl⟩
        have HSB : Hid (sb = sameO ⟨ov, ol, ox, oy⟩ ⟨uv, ul, ux, uy⟩) := hsb
        have cS : ∀ dd os, Calls Tryz.prog 60 #[.agg #[.int .i64 ov, .slice ka ol.length kc, .int .i64 ox, .int .i64 oy], .agg #[.int .i64 uv, .slice va vn vc, .int .i64 ux, .int .i64 uy]] (grow (redrawn (wr.alloc (.cells #[.int .i64 op, .int .i64 oq, .int .i64 ov, .slice ka ol.length kc, .int .i64 ox, .int .i64 oy, .int .i64 oh, .bool om] 75)) dd) os) fun e w'' => e = .returned (.bool sb) ∧ ∃ p : Regrown, w'' = grow (redrawn (wr.alloc (.cells #[.int .i64 op, .int .i64 oq, .int .i64 ov, .slice ka ol.length kc, .int .i64 ox, .int .i64 oy, .int .i64 oh, .bool om] 75)) p.d) p.os := fun dd os => Calls.regrown_of (by
          have hb := below_regrown (wr.alloc (.cells #[.int .i64 op, .int .i64 oq, .int .i64 ov, .slice ka ol.length kc, .int .i64 ox, .int .i64 oy, .int .i64 oh, .bool om] 75)) dd os
          have := sameOuts_any ov uv ka va ol.length vn kc vc ol ul ox ux oy uy (grow (redrawn (wr.alloc (.cells #[.int .i64 op, .int .i64 oq, .int .i64 ov, .slice ka ol.length kc, .int .i64 ox, .int .i64 oy, .int .i64 oh, .bool om] 75)) dd) os) hl1 hl2 ((p5.below HBX.out (Nat.le_refl _)).below hb (Nat.le_refl _)) ((r5.below HBX.out (Nat.le_refl _)).below hb (Nat.le_refl _))
          rw [← hsb] at this
          exact this)
        have hki : (j : Int) < (n : Int) := by omega
        have hkz : ¬ (j : Int) < 0 := by omega
        clear ho hu d0 d2 p0 p4 p5 r0 r1 r2 r3 r4 r5 hsb hbx hX t0 t1 t2 t3 t4 t5 t6 t7
        by_cases hq : oq = (j : Int)
        · have hqb : (oq != (j : Int)) = false := by simp [hq]
          cases sb
          · have HFI : Hid (madeB ms os = false) := madeB_no HN.out hlt (by rw [HPB.out, ← HSB.out]; simp)
            clear hq
            go_wp2_with fail
            refine wp_region_quiet_below hmix (by kernel_rfl) ?_
            repeat (go_big_quiet_step (first | exact cS _ _))
            refine wpQuiet_nil ?_
            intro _ hw'
            obtain ⟨⟨dq, osq⟩, hw''⟩ := hw'
            subst hw''
            go_wp2
            go_ret
            exact ⟨by rw [HFI.out]; rfl, HBX.out.trans ((below_regrown (wr.alloc (.cells #[.int .i64 op, .int .i64 oq, .int .i64 ov, .slice ka ol.length kc, .int .i64 ox, .int .i64 oy, .int .i64 oh, .bool om] 75)) dq osq).mono HBX.out.size)⟩
          · have HIN : Hid (∀ t, t < j + 1 → placeB (ms.getD t C0) (os.getD t O0) t = true) := fun t ht => by
              by_cases e : t = j
              · subst e; rw [HPB.out, ← HSB.out, decide_eq_true hq]; rfl
              · exact HPL.out t ht e
            clear hq
            go_wp2_with fail
            refine wp_region_quiet_below hmix (by kernel_rfl) ?_
            repeat (go_big_quiet_step (first | exact cS _ _))
            refine wpQuiet_nil ?_
            intro _ hw'
            obtain ⟨⟨dq, osq⟩, hw''⟩ := hw'
            subst hw''
            go_wp2
            go_roundw
            case rel => exact ⟨j + 1, by omega, by go_num, HBX.out.trans ((below_regrown (wr.alloc (.cells #[.int .i64 op, .int .i64 oq, .int .i64 ov, .slice ka ol.length kc, .int .i64 ox, .int .i64 oy, .int .i64 oh, .bool om] 75)) dq osq).mono HBX.out.size), HIN⟩
            case measure => simp [intOf]; omega
        · have hqb : (oq != (j : Int)) = true := by simpa using hq
          have HFI : Hid (madeB ms os = false) := madeB_no HN.out hlt (by rw [HPB.out, decide_eq_false hq]; rfl)
          clear hq
          go_wp2_with fail
          refine wp_region_quiet_below hmix (by kernel_rfl) ?_
          repeat (go_big_quiet_step (first | exact cS _ _))
          refine wpQuiet_nil ?_
          intro _ hw'
          obtain ⟨⟨dq, osq⟩, hw''⟩ := hw'
          subst hw''
          go_wp2
          go_ret
          exact ⟨by rw [HFI.out]; rfl, HBX.out.trans ((below_regrown (wr.alloc (.cells #[.int .i64 op, .int .i64 oq, .int .i64 ov, .slice ka ol.length kc, .int .i64 ox, .int .i64 oy, .int .i64 oh, .bool om] 75)) dq osq).mono HBX.out.size)⟩
      · have HFI : Hid (madeB ms os = true) := madeB_yes HN.out HM.out fun t ht => HI.out t (by omega)
        have hki : ¬ (j : Int) < (n : Int) := by omega
        go_wp2
        go_ret
        exact ⟨by rw [HFI.out]; rfl, hbel⟩
  · have HFI : Hid (madeB ms os = false) := madeB_len (by rw [HN.out, HM.out]; exact hnm)
    have hni : ((n : Int) != (m : Int)) = true := by simp; omega
    go_enter Tryz.func91, Tryz.ntmps91
    go_wp2
    go_ret
    exact ⟨by rw [HFI.out]; rfl, Below.refl _ _⟩

end Go.Proofs.YthjolannlefbcaaGreatDoor
