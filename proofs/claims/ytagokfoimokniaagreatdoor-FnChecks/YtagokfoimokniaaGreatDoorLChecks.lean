/- The walk of the law FnChecks. -/
import Derived.Test.YtagokfoimokniaaGreatDoorIm
import Derived.Test.YtagokfoimokniaaGreatDoorQq
import Derived.Test.YtagokfoimokniaaGreatDoorQt
import Derived.Test.YtagokfoimokniaaGreatDoorJn6
import Derived.Test.YtagokfoimokniaaGreatDoorIMet
import Derived.Test.YtagokfoimokniaaGreatDoorIOs
import Derived.Test.YtagokfoimokniaaGreatDoorJn5
import Derived.Test.YtagokfoimokniaaGreatDoorLSpendTx
import Derived.Test.YtagokfoimokniaaGreatDoorLSpentBy
import Derived.Lib.QuietBelow
namespace Go.Proofs.YtagokfoimokniaaGreatDoor
open Go.RowKit Go.Shelf Go.Maps Go.WideMaps Go.Sort

theorem lwBigK_any (cn cc : Nat) (ca : Option Addr) (w : World) : Calls Tryz.prog 4 #[.slice ca cn cc] w fun e w' => e = .returned (.bool (decide ((1048576 : Int) < (cn : Int)))) ∧ w' = w := by
  go_enter Tryz.func4, Tryz.ntmps4
  go_wp2
  go_ret
  exact ⟨rfl, rfl⟩
theorem fieldK0 (c d : Int) (W : World) : (Instr.field 36 (.agg #[.int .i64 c, .int .i64 d]) 0).run Tryz.prog W = .ok (.int .i64 c) W := by kernel_rfl
theorem fieldK1 (c d : Int) (W : World) : (Instr.field 36 (.agg #[.int .i64 c, .int .i64 d]) 1).run Tryz.prog W = .ok (.int .i64 d) W := by kernel_rfl
theorem fieldK2 (c : Int) (x : ByteArray) (W : World) : (Instr.field 43 (.agg #[.int .i64 c, .string x]) 1).run Tryz.prog W = .ok (.string x) W := by kernel_rfl
theorem few_rightK {cs : List Co} (h : coinsR cs = 0) : cs.length ≤ 40 ∧ ∀ j, j < cs.length → (cs.getD j C0).l.length ≤ 1048576 := by
  obtain ⟨a, b, _⟩ := coins_rise h
  exact ⟨a, fun j hj => by have := (coin_more (b _ (getC_mem hj))).2.2.2; omega⟩

set_option maxRecDepth 20000 in
set_option maxHeartbeats 8000000 in
theorem lawChecks (cn cc : Nat) (ca : Option Addr) (l : List Int) (w : World) (hg : w.cell? ⟨1, 0, none⟩ = some (.iface 224 (.agg #[.pointer (some ⟨8, 90, none⟩)]))) (hE : Ev w) (hB : BAt w ca cn l) :
    Calls Tryz.prog 3 #[.slice ca cn cc] w fun e w' => e = .returned (.bool true) ∧ Below w.heap.size w w' := by
  have hmix : Tryz.prog.follows .mixedOrders = true := by kernel_rfl
  have hbig := lwBigK_any cn cc ca w
  by_cases hb : 1048576 < cn
  · have hd : decide ((1048576 : Int) < (cn : Int)) = true := decide_eq_true (by omega)
    rw [hd] at hbig
    go_enter Tryz.func3, Tryz.ntmps3
    go_wp2_with (go_at_call 4; (with_reducible refine hbig.mono ?_); clear hbig; rintro e w1 ⟨rfl, hw⟩; have hw2 := hw.symm; subst hw2)
    go_ret
    exact ⟨rfl, Below.refl _ _⟩
  have hd : decide ((1048576 : Int) < (cn : Int)) = false := decide_eq_false (by omega)
  rw [hd] at hbig
  have hdr := drawCheckTx_any ca cn cc l w (by omega) hB
  have HGE : Hid (∀ W, Below w.heap.size w W → W.cell? ⟨1, 0, none⟩ = some (.iface 224 (.agg #[.pointer (some ⟨8, 90, none⟩)]))) := fun W hW => keptG hg hW
  have HEV : Hid (∀ W, Below w.heap.size w W → Ev W) := fun W hW => hE.below hW (Nat.le_refl _)
  clear hB hd hg hE
  go_enter Tryz.func3, Tryz.ntmps3
  go_wp2_with (first
    | (go_at_call 4; (with_reducible refine hbig.mono ?_); clear hbig; rintro e w1 ⟨rfl, hw⟩; have hw2 := hw.symm; subst hw2))
  refine hdr.mono ?_
  rintro e v ⟨t, LB, ta, n, tc, ga, m, gc, ss, gs, z, hh, rfl, ht, hK⟩
  obtain ⟨SB, hSB⟩ : ∃ x, x = w.heap.size + 2 := ⟨_, rfl⟩
  rw [← hSB] at hK
  have HK : Hid (CkF w v SB ca cn cc t LB ta n tc ga m gc ss gs z #[.slice ta n tc, .slice ga m gc] #[.int .i64 z.k, .int .i64 z.f, .slice z.ia z.rs.length z.ic, .slice z.oa z.os.length z.oc]) := hK
  have hr3 : z.rs.length ≤ 3 := hK.zk.1
  have ho5 : z.os.length ≤ 5 := hK.zk.2.1
  have hc43 : z.cs.length ≤ 43 := hK.zc.1
  have hn61 : n ≤ 61 := hK.nm.1
  have HCAP : Hid (z.rs.length ≤ z.ic ∧ z.ic ≤ maxLen) := own_capsM hK.ref
  clear hK hdr hSB ht
  obtain ⟨cd, hcd⟩ : ∃ q, q = (checkR ss gs z.cs z.k z.f z.rs z.os hh).1 := ⟨_, rfl⟩
  obtain ⟨fee, hfee⟩ : ∃ q, q = (checkR ss gs z.cs z.k z.f z.rs z.os hh).2 := ⟨_, rfl⟩
  have HCR : Hid ((checkR ss gs z.cs z.k z.f z.rs z.os hh).1 = cd ∧ (checkR ss gs z.cs z.k z.f z.rs z.os hh).2 = fee) := ⟨hcd.symm, hfee.symm⟩
  have HIC : Hid (∀ W, CkF w W SB ca cn cc t LB ta n tc ga m gc ss gs z #[.slice ta n tc, .slice ga m gc] #[.int .i64 z.k, .int .i64 z.f, .slice z.ia z.rs.length z.ic, .slice z.oa z.os.length z.oc] → Calls Tryz.prog 6 #[.agg #[.slice ta n tc, .slice ga m gc], .slice z.va z.cs.length z.vc, .agg #[.int .i64 z.k, .int .i64 z.f, .slice z.ia z.rs.length z.ic, .slice z.oa z.os.length z.oc], .int .i64 hh] W fun e w' => e = .returned (.agg #[.int .i64 cd, .int .i64 fee]) ∧ Below W.heap.size W w') := fun W hW => by
    have := iCheckTx_ck hW (HGE.out W hW.src.bel) (HEV.out W hW.src.bel) hh
    rw [HCR.out.1, HCR.out.2] at this
    exact this
  have HSC : Hid (∀ W, CkF w W SB ca cn cc t LB ta n tc ga m gc ss gs z #[.slice ta n tc, .slice ga m gc] #[.int .i64 z.k, .int .i64 z.f, .slice z.ia z.rs.length z.ic, .slice z.oa z.os.length z.oc] → Calls Tryz.prog 7 #[.agg #[.slice ta n tc, .slice ga m gc], .slice z.va z.cs.length z.vc, .agg #[.int .i64 z.k, .int .i64 z.f, .slice z.ia z.rs.length z.ic, .slice z.oa z.os.length z.oc], .int .i64 hh] W fun e w' => e = .returned (.agg #[.int .i64 cd, .int .i64 fee]) ∧ Below W.heap.size W w') := fun W hW => by
    have := sCheckTx_ck hW hh
    rw [HCR.out.1, HCR.out.2] at this
    exact this
  have HV1 : Hid (CkF w ((v.alloc (.cells #[.slice ta n tc, .slice ga m gc] 27)).alloc (.cells #[.int .i64 z.k, .int .i64 z.f, .slice z.ia z.rs.length z.ic, .slice z.oa z.os.length z.oc] 32)) SB ca cn cc t LB ta n tc ga m gc ss gs z #[.slice ta n tc, .slice ga m gc] #[.int .i64 z.k, .int .i64 z.f, .slice z.ia z.rs.length z.ic, .slice z.oa z.os.length z.oc] ∧ ((v.alloc (.cells #[.slice ta n tc, .slice ga m gc] 27)).alloc (.cells #[.int .i64 z.k, .int .i64 z.f, .slice z.ia z.rs.length z.ic, .slice z.oa z.os.length z.oc] 32)).heap[v.heap.size]? = some (.cells #[.slice ta n tc, .slice ga m gc] 27 (0, 0)) ∧ ((v.alloc (.cells #[.slice ta n tc, .slice ga m gc] 27)).alloc (.cells #[.int .i64 z.k, .int .i64 z.f, .slice z.ia z.rs.length z.ic, .slice z.oa z.os.length z.oc] 32)).heap[v.heap.size + 1]? = some (.cells #[.int .i64 z.k, .int .i64 z.f, .slice z.ia z.rs.length z.ic, .slice z.oa z.os.length z.oc] 32 (0, 0))) := ⟨HK.out.step (below_box2 _ _), block_at2, heap_at _ _ _ (by simp)⟩
  have hi := HIC.out _ HV1.out.1
  obtain ⟨l0, l1⟩ := cells2 HV1.out.2.1
  obtain ⟨t0, t1, t2, t3, _⟩ := cells4 HV1.out.2.2
  clear hcd hfee
  by_cases h0 : cd = 0
  rotate_left
  · have hcb : (cd != 0) = true := by simpa using h0
    have hf0 := fieldK0 cd
    go_wp2_with (first
      | (go_at_call 6; (with_reducible refine hi.mono ?_); clear hi; rintro e v3 ⟨rfl, hb3⟩; have HV2 : Hid (CkF w (v3.alloc (.cells #[.int .i64 cd, .int .i64 fee] 36)) SB ca cn cc t LB ta n tc ga m gc ss gs z #[.slice ta n tc, .slice ga m gc] #[.int .i64 z.k, .int .i64 z.f, .slice z.ia z.rs.length z.ic, .slice z.oa z.os.length z.oc] ∧ (v3.alloc (.cells #[.int .i64 cd, .int .i64 fee] 36)).heap[v.heap.size]? = some (.cells #[.slice ta n tc, .slice ga m gc] 27 (0, 0)) ∧ (v3.alloc (.cells #[.int .i64 cd, .int .i64 fee] 36)).heap[v.heap.size + 1]? = some (.cells #[.int .i64 z.k, .int .i64 z.f, .slice z.ia z.rs.length z.ic, .slice z.oa z.os.length z.oc] 32 (0, 0)) ∧ (v3.alloc (.cells #[.int .i64 cd, .int .i64 fee] 36)).heap[v3.heap.size]? = some (.cells #[.int .i64 cd, .int .i64 fee] 36 (0, 0))) := (by have hb := hb3.trans ((below_box (.cells #[.int .i64 cd, .int .i64 fee] 36)).mono hb3.size); exact ⟨HV1.out.1.step hb, (keepb HV1.out.2.1 hb).out, (keepb HV1.out.2.2 hb).out, heap_alloc_new _ _⟩); clear hb3))
    obtain ⟨V, hV⟩ : ∃ V, V = v3.alloc (.cells #[.int .i64 cd, .int .i64 fee] 36) := ⟨_, rfl⟩
    obtain ⟨X, hX⟩ : ∃ X, X = v3.heap.size := ⟨_, rfl⟩
    obtain ⟨T, hT⟩ : ∃ X, X = v.heap.size + 1 := ⟨_, rfl⟩
    obtain ⟨L, hL⟩ : ∃ X, X = v.heap.size := ⟨_, rfl⟩
    rw [← hV, ← hX, ← hT, ← hL] at HV2
    rw [← hV, ← hX, ← hT, ← hL]
    clear l0 l1 t0 t1 t2 t3 hV hX hT hL HV1
    obtain ⟨x0, x1⟩ := cells2 HV2.out.2.2.2
    obtain ⟨l0, l1⟩ := cells2 HV2.out.2.1
    obtain ⟨t0, t1, t2, t3, _⟩ := cells4 HV2.out.2.2.1
    have HQ : Hid (∀ W, Below V.heap.size V W → Calls Tryz.prog 7 #[.agg #[.slice ta n tc, .slice ga m gc], .slice z.va z.cs.length z.vc, .agg #[.int .i64 z.k, .int .i64 z.f, .slice z.ia z.rs.length z.ic, .slice z.oa z.os.length z.oc], .int .i64 hh] W fun e w' => e = .returned (.agg #[.int .i64 cd, .int .i64 fee]) ∧ Below W.heap.size W w') := fun W hW => HSC.out W (HV2.out.1.step hW)
    have HE : Hid (∀ W, Below V.heap.size V W → Below w.heap.size w W) := fun W hW => (HV2.out.1.step hW).src.bel
    have HKP : Hid (∀ W, Below V.heap.size V W → (W.cell? ⟨L, 0, none⟩ = some (.slice ta n tc) ∧ W.cell? ⟨L, 1, none⟩ = some (.slice ga m gc)) ∧ W.cell? ⟨T, 0, none⟩ = some (.int .i64 z.k) ∧ W.cell? ⟨T, 1, none⟩ = some (.int .i64 z.f) ∧ W.cell? ⟨T, 2, none⟩ = some (.slice z.ia z.rs.length z.ic) ∧ W.cell? ⟨T, 3, none⟩ = some (.slice z.oa z.os.length z.oc) ∧ W.cell? ⟨X, 0, none⟩ = some (.int .i64 cd)) := fun W hW => by
      obtain ⟨a0, a1⟩ := cells2 (keepb HV2.out.2.1 hW).out
      obtain ⟨b0, b1, b2, b3, _⟩ := cells4 (keepb HV2.out.2.2.1 hW).out
      exact ⟨⟨a0, a1⟩, b0, b1, b2, b3, (cells2 (keepb HV2.out.2.2.2 hW).out).1⟩
    clear HV2
    go_wp2
    go_region_held3 (fun w' => (w'.cell? ⟨L, 0, none⟩ = some (.slice ta n tc) ∧ w'.cell? ⟨L, 1, none⟩ = some (.slice ga m gc)) ∧ w'.cell? ⟨T, 0, none⟩ = some (.int .i64 z.k) ∧ w'.cell? ⟨T, 1, none⟩ = some (.int .i64 z.f) ∧ w'.cell? ⟨T, 2, none⟩ = some (.slice z.ia z.rs.length z.ic) ∧ w'.cell? ⟨T, 3, none⟩ = some (.slice z.oa z.os.length z.oc) ∧ w'.cell? ⟨X, 0, none⟩ = some (.int .i64 cd)) (first | (with_reducible exact ⟨⟨l0, l1⟩, t0, t1, t2, t3, x0⟩) | (with_reducible exact HS5.out) | go_keep)
      (first
        | (go_at_call 7; (with_reducible refine (HQ.out _ (Below.refl _ _).drew).mono ?_); clear HQ; rintro e v5 ⟨rfl, hb5⟩; have HB5 : Hid (Below V.heap.size V v5) := (Below.refl _ _).drew.trans hb5; have HS5 := (show Hid _ from HKP.out v5 HB5.out)))
    all_goals (try go_wp2)
    all_goals go_ret
    all_goals exact ⟨by simp, HE.out _ HB5.out⟩
  subst h0
  have HOK : Hid (CkOk ss gs z.cs z.k z.f z.rs z.os hh fee) := by
    have := ckOk HCR.out.1
    rw [HCR.out.2] at this
    exact this
  have HIN : Hid (∀ j, j < z.rs.length → ((inC z.cs z.rs).getD j C0).l.length ≤ 1048576) := fun j hj => (few_rightK HOK.out.right).2 j (by rw [HOK.out.len]; exact hj)
  have HSB : Hid (∀ W, CkF w W SB ca cn cc t LB ta n tc ga m gc ss gs z #[.slice ta n tc, .slice ga m gc] #[.int .i64 z.k, .int .i64 z.f, .slice z.ia z.rs.length z.ic, .slice z.oa z.os.length z.oc] → Calls Tryz.prog 8 #[.slice z.va z.cs.length z.vc, .agg #[.int .i64 z.k, .int .i64 z.f, .slice z.ia z.rs.length z.ic, .slice z.oa z.os.length z.oc]] W fun e w' => ∃ sa sc, e = .returned (.agg #[.int .i64 0, .slice sa z.rs.length sc]) ∧ CAt w' sa z.rs.length (inC z.cs z.rs) ∧ Below W.heap.size W w') := fun W hW => by
    have := iSpentBy_any z.cs.length z.vc z.va z.cs z.rs.length z.ic z.os.length z.oc z.ia z.oa z.k z.f z.rs z.os W (HGE.out W hW.src.bel) (by omega) hW.keys (by omega) (by omega) HCAP.out.1 HCAP.out.2 hW.outk hW.cat hW.tx
    rw [HOK.out.spent] at this
    refine this.mono fun e w' ⟨x, kv, e1, hO, e3⟩ => ?_
    obtain ⟨va, vc, rfl⟩ := own_slice hO
    rw [HOK.out.len] at e1
    have h2 := own_at2 hO rfl (few_rightK HOK.out.right).2
    rw [HOK.out.len] at h2
    exact ⟨va, vc, e1, h2, e3⟩
  obtain ⟨tt, htt⟩ : ∃ q, q = (ttR z.k z.f z.rs z.os).2 := ⟨_, rfl⟩
  obtain ⟨id, hid⟩ : ∃ q, q = ((num ss (str tt) : Nat) : Int) := ⟨_, rfl⟩
  have HTT : Hid ((ttR z.k z.f z.rs z.os).1 = 0 ∧ (ttR z.k z.f z.rs z.os).2 = tt) := ⟨HOK.out.tx, htt.symm⟩
  have HTL : Hid (txR z.k z.f z.rs z.os = 0 → (txT z.k z.f z.rs z.os).length ≤ 100000) := fun h1 => by
    have h2 := HOK.out.tx
    unfold ttR at h2
    rw [if_neg (by simp [h1])] at h2
    by_cases h3 : 300 < (txT z.k z.f z.rs z.os).length
    · rw [if_pos h3] at h2; cases h2
    · omega
  have HSZ : Hid ((str tt).size ≤ maxLen) := by
    have h2 := HOK.out.tx
    rw [htt]
    unfold ttR at h2 ⊢
    rw [if_neg (by simp [HOK.out.t])] at h2 ⊢
    by_cases h3 : 300 < (txT z.k z.f z.rs z.os).length
    · rw [if_pos h3] at h2; cases h2
    · rw [if_neg h3]
      show (str (txT z.k z.f z.rs z.os)).size ≤ maxLen
      have : (str (txT z.k z.f z.rs z.os)).size = (txT z.k z.f z.rs z.os).length := by simp [str, ByteArray.size]
      unfold maxLen
      omega
  have HID : Hid (idR ss gs (str tt) = (0, id)) := by
    show _ = _
    rw [hid, htt]
    exact HOK.out.id
  have HEA : Hid (∀ c ∈ inC z.cs z.rs, (ripeB c.h c.m hh = true ∧ metR ss gs c.l c.x c.y id hh = 0) ∧ coinR c = 0) := fun c hc => by
    rw [hid, htt]
    exact ⟨HOK.out.each hc, (coins_rise HOK.out.right).2.1 c hc⟩
  have hid0 : 0 ≤ id ∧ id ≤ 10000 := by
    have h1 := num_le ss (str tt)
    have h2 := HK.out.led.s.1
    omega
  clear htt hid
  go_wp2_with (first
    | (go_at_call 6; (with_reducible refine hi.mono ?_); clear hi; rintro e v3 ⟨rfl, hb3⟩; have HV2 : Hid (CkF w (v3.alloc (.cells #[.int .i64 0, .int .i64 fee] 36)) SB ca cn cc t LB ta n tc ga m gc ss gs z #[.slice ta n tc, .slice ga m gc] #[.int .i64 z.k, .int .i64 z.f, .slice z.ia z.rs.length z.ic, .slice z.oa z.os.length z.oc] ∧ (v3.alloc (.cells #[.int .i64 0, .int .i64 fee] 36)).heap[v.heap.size]? = some (.cells #[.slice ta n tc, .slice ga m gc] 27 (0, 0)) ∧ (v3.alloc (.cells #[.int .i64 0, .int .i64 fee] 36)).heap[v.heap.size + 1]? = some (.cells #[.int .i64 z.k, .int .i64 z.f, .slice z.ia z.rs.length z.ic, .slice z.oa z.os.length z.oc] 32 (0, 0)) ∧ (v3.alloc (.cells #[.int .i64 0, .int .i64 fee] 36)).heap[v3.heap.size]? = some (.cells #[.int .i64 0, .int .i64 fee] 36 (0, 0))) := (by have hb := hb3.trans ((below_box (.cells #[.int .i64 0, .int .i64 fee] 36)).mono hb3.size); exact ⟨HV1.out.1.step hb, (keepb HV1.out.2.1 hb).out, (keepb HV1.out.2.2 hb).out, heap_alloc_new _ _⟩); clear hb3; clear t0 t1 t2 t3; obtain ⟨t0, t1, t2, t3, _⟩ := cells4 HV2.out.2.2.1; obtain ⟨x0, x1⟩ := cells2 HV2.out.2.2.2; have hs := HSB.out _ HV2.out.1)
    | (go_at_call 8; (with_reducible refine hs.mono ?_); clear hs; rintro e v4 ⟨sa, sc, rfl, hsp, hb4⟩; have HV3 : Hid (CkS w (v4.alloc (.cells #[.int .i64 0, .slice sa z.rs.length sc] 39)) SB ca cn cc t LB ta n tc ga m gc ss gs z #[.slice ta n tc, .slice ga m gc] #[.int .i64 z.k, .int .i64 z.f, .slice z.ia z.rs.length z.ic, .slice z.oa z.os.length z.oc] v.heap.size (v.heap.size + 1) v3.heap.size v4.heap.size fee sa sc) := (by have hb := hb4.trans ((below_box (.cells #[.int .i64 0, .slice sa z.rs.length sc] 39)).mono hb4.size); exact ⟨HV2.out.1.step hb, (keepb HV2.out.2.1 hb).out, (keepb HV2.out.2.2.1 hb).out, (keepb HV2.out.2.2.2 hb).out, heap_alloc_new _ _, hsp.below (below_box _) (Nat.le_refl _)⟩); clear hb4 hsp))
  obtain ⟨U, hU⟩ : ∃ V, V = v4.alloc (.cells #[.int .i64 0, .slice sa z.rs.length sc] 39) := ⟨_, rfl⟩
  obtain ⟨S, hS⟩ : ∃ X, X = v4.heap.size := ⟨_, rfl⟩
  obtain ⟨X, hX⟩ : ∃ X, X = v3.heap.size := ⟨_, rfl⟩
  obtain ⟨T, hT⟩ : ∃ X, X = v.heap.size + 1 := ⟨_, rfl⟩
  obtain ⟨L, hL⟩ : ∃ X, X = v.heap.size := ⟨_, rfl⟩
  have HU : Hid (CkS w U SB ca cn cc t LB ta n tc ga m gc ss gs z #[.slice ta n tc, .slice ga m gc] #[.int .i64 z.k, .int .i64 z.f, .slice z.ia z.rs.length z.ic, .slice z.oa z.os.length z.oc] L T X S fee sa sc) := by
    rw [hU, hS, hX, hT, hL]
    exact HV3.out
  rw [← hU, ← hS, ← hX, ← hT, ← hL]
  clear l0 l1 t0 t1 t2 t3 x0 x1 hU hS hX hT hL HV1 HV2 HV3 HSB HIC HSC HK
  have hf1 := fieldK1
  have hf2 := fieldK2
  have HST : Hid (∀ W, CkS w W SB ca cn cc t LB ta n tc ga m gc ss gs z #[.slice ta n tc, .slice ga m gc] #[.int .i64 z.k, .int .i64 z.f, .slice z.ia z.rs.length z.ic, .slice z.oa z.os.length z.oc] L T X S fee sa sc → ∀ W2, Below W.heap.size W W2 → CkS w W2 SB ca cn cc t LB ta n tc ga m gc ss gs z #[.slice ta n tc, .slice ga m gc] #[.int .i64 z.k, .int .i64 z.f, .slice z.ia z.rs.length z.ic, .slice z.oa z.os.length z.oc] L T X S fee sa sc) := fun W h W2 h2 => h.step h2
  have cT : ∀ dd oss, Calls Tryz.prog 10 #[.agg #[.int .i64 z.k, .int .i64 z.f, .slice z.ia z.rs.length z.ic, .slice z.oa z.os.length z.oc]] (grow (redrawn U dd) oss) fun e w'' => e = .returned (.agg #[.int .i64 0, .string (str tt)]) ∧ ∃ p : Regrown, w'' = grow (redrawn U p.d) p.os := fun dd oss => Calls.regrown_of (by
    have hUW := HU.out.step (below_regrown U dd oss)
    have := iTxText_any z.rs.length z.ic z.os.length z.oc z.ia z.oa z.k z.f z.rs z.os (grow (redrawn U dd) oss) (by omega) (by omega) HCAP.out.1 HCAP.out.2 hUW.ck.outk hUW.ck.tx (HEV.out _ hUW.ck.src.bel) HTL.out
    rw [HTT.out.1, HTT.out.2] at this
    exact this)
  have cI : ∀ dd oss, Calls Tryz.prog 9 #[.agg #[.slice ta n tc, .slice ga m gc], .string (str tt)] (grow (redrawn U dd) oss) fun e w'' => e = .returned (.agg #[.int .i64 0, .int .i64 id]) ∧ ∃ p : Regrown, w'' = grow (redrawn U p.d) p.os := fun dd oss => Calls.regrown_of (by
    have hUW := HU.out.step (below_regrown U dd oss)
    have := iIdOf_any n m tc gc ta ga ss gs (str tt) (grow (redrawn U dd) oss) HSZ.out hUW.ck.fine hUW.ck.led
    rw [HID.out] at this
    exact this)
  obtain ⟨l0, l1⟩ := cells2 HU.out.bL
  obtain ⟨t0, t1, t2, t3, _⟩ := cells4 HU.out.bT
  have y0 := cell_regrown l0
  have y1 := cell_regrown l1
  have y2 := cell_regrown t0
  have y3 := cell_regrown t1
  have y4 := cell_regrown t2
  have y5 := cell_regrown t3
  clear l0 l1 t0 t1 t2 t3
  refine wp_region_quiet_below hmix (by kernel_rfl) ?_
  repeat (go_big_quiet_step (first | (with_reducible exact cT _ _) | (with_reducible exact cI _ _)))
  refine wpQuiet_nil ?_
  intro _ hw'
  obtain ⟨⟨dq, osq⟩, hw''⟩ := hw'
  subst hw''
  obtain ⟨U2, hU2⟩ : ∃ x, x = grow (redrawn U dq) osq := ⟨_, rfl⟩
  have HU2 : Hid (CkS w U2 SB ca cn cc t LB ta n tc ga m gc ss gs z #[.slice ta n tc, .slice ga m gc] #[.int .i64 z.k, .int .i64 z.f, .slice z.ia z.rs.length z.ic, .slice z.oa z.os.length z.oc] L T X S fee sa sc) := by
    rw [hU2]
    exact HU.out.step (below_regrown U dq osq)
  rw [← hU2]
  clear hU2 cT cI y0 y1 y2 y3 y4 y5 HU HTT HTL HSZ HID
  obtain ⟨s0, s1⟩ := cells2 HU2.out.bS
  obtain ⟨t0, t1, t2, t3, _⟩ := cells4 HU2.out.bT
  have hnn : ((z.rs.length : Int) != (z.rs.length : Int)) = false := by simp
  go_wp2
  go_loopw [10] (fun i wr => ∃ q : Nat, q ≤ z.rs.length ∧ i = .int .i64 q ∧ Hid (CkS w wr SB ca cn cc t LB ta n tc ga m gc ss gs z #[.slice ta n tc, .slice ga m gc] #[.int .i64 z.k, .int .i64 z.f, .slice z.ia z.rs.length z.ic, .slice z.oa z.os.length z.oc] L T X S fee sa sc)) (fun i _ => z.rs.length - (intOf i).toNat)
  case atStart => exact ⟨0, Nat.zero_le _, rfl, HU2.out⟩
  case round =>
    clear s0 s1 t0 t1 t2 t3 HU2
    obtain ⟨q, hq, rfl, HI⟩ := hrel
    obtain ⟨U, hU⟩ : ∃ x, x = wr := ⟨_, rfl⟩
    rw [← hU] at HI ⊢
    have HU := HI
    clear hU HI
    obtain ⟨s0, s1⟩ := cells2 HU.out.bS
    obtain ⟨l0, l1⟩ := cells2 HU.out.bL
    obtain ⟨t0, t1, t2, t3, _⟩ := cells4 HU.out.bT
    by_cases hlt : q < z.rs.length
    · have hqi : (q : Int) < (z.rs.length : Int) := by omega
      have hq0 : (0 : Int) ≤ (q : Int) := by omega
      obtain ⟨_, hz | ⟨b, off, hsa, hbl, hcc⟩⟩ := HU.out.sp
      · omega
      obtain ⟨ka, kc, ⟨u0, u1, u2, u3, u4, u5, u6, u7⟩, _, hIA⟩ := hcc q hlt
      have hmem := getC_mem (l := inC z.cs z.rs) (j := q) (by rw [HOK.out.len]; exact hlt)
      obtain ⟨hri, hcg⟩ := HEA.out _ hmem
      obtain ⟨o, ho⟩ : ∃ o, o = (inC z.cs z.rs).getD q C0 := ⟨_, rfl⟩
      rw [← ho] at u0 u1 u2 u3 u4 u5 u6 u7 hIA hri hcg
      have HRI : Hid (ripeB o.h o.m hh = true ∧ metR ss gs o.l o.x o.y id hh = 0) := hri
      have HKA : Hid (IAt U ka o.l.length o.l) := hIA
      have HKO : Hid (o.l.length ≤ 1048576 ∧ ∀ k ∈ o.l, (Lit.int .i64 k).wf = true) := by
        have h1 := (coin_rule hcg).1
        have h2 := ruleR_zero rfl h1
        exact ⟨by have := h2.1; omega, fun k hk => WalkArith.wf_i64 (by have := h2.2.2.2 k hk; omega)⟩
      rw [hsa] at s1
      have cR : ∀ dd oss, Calls Tryz.prog 11 #[.agg #[.int .i64 o.p, .int .i64 o.q, .int .i64 o.v, .slice ka o.l.length kc, .int .i64 o.x, .int .i64 o.y, .int .i64 o.h, .bool o.m], .int .i64 hh] (grow (redrawn U dd) oss) fun e w'' => e = .returned (.bool true) ∧ ∃ p : Regrown, w'' = grow (redrawn U p.d) p.os := fun dd oss => Calls.regrown_of (by
        have hUW := HU.out.step (below_regrown U dd oss)
        have := iIsRipe_any o.p o.q o.v ka o.l.length kc o.x o.y o.h hh o.m (grow (redrawn U dd) oss)
        rw [HRI.out.1] at this
        exact this)
      have cM : ∀ dd oss, Calls Tryz.prog 12 #[.agg #[.slice ta n tc, .slice ga m gc], .agg #[.slice ka o.l.length kc, .int .i64 o.x, .int .i64 o.y], .int .i64 id, .int .i64 hh] (grow (redrawn U dd) oss) fun e w'' => e = .returned (.int .i64 0) ∧ ∃ p : Regrown, w'' = grow (redrawn U p.d) p.os := fun dd oss => Calls.regrown_of (by
        have hUW := HU.out.step (below_regrown U dd oss)
        have := iRuleMet_any n m tc gc o.l.length kc ta ga ka ss gs o.l o.x o.y id hh (grow (redrawn U dd) oss) hUW.ck.fine hUW.ck.led HKO.out.1 (HKA.out.below (below_regrown U dd oss) (Nat.le_refl _)) HKO.out.2 (WalkArith.wf_i64 (by omega))
        rw [HRI.out.2] at this
        exact this)
      have z0 := cell_regrown s1
      have z1 := cell_regrown l0
      have z2 := cell_regrown l1
      have v0 := cell_regrown u0
      have v1 := cell_regrown u1
      have v2 := cell_regrown u2
      have v3 := cell_regrown u3
      have v4 := cell_regrown u4
      have v5 := cell_regrown u5
      have v6 := cell_regrown u6
      have v7 := cell_regrown u7
      go_wp2
      clear hcc hri hcg hIA hmem ho s0 l0 l1 t0 t1 t2 t3 u0 u1 u2 u3 u4 u5 u6 u7
      refine wp_region_quiet_below hmix (by kernel_rfl) ?_
      repeat (go_big_quiet_step (first | (with_reducible exact cR _ _) | (with_reducible exact cM _ _)))
      refine wpQuiet_nil ?_
      intro _ hw'
      obtain ⟨⟨dq, osq⟩, hw''⟩ := hw'
      subst hw''
      have HI9 : Hid (CkS w (grow (redrawn U dq) osq) SB ca cn cc t LB ta n tc ga m gc ss gs z #[.slice ta n tc, .slice ga m gc] #[.int .i64 z.k, .int .i64 z.f, .slice z.ia z.rs.length z.ic, .slice z.oa z.os.length z.oc] L T X S fee sa sc) := HU.out.step (below_regrown U dq osq)
      go_wp2
      go_roundw
      case rel => exact ⟨q + 1, by omega, by go_num, HI9.out⟩
      case measure => simp [intOf]; omega
    · obtain rfl : z.rs.length = q := by omega
      have hqi : ¬ (z.rs.length : Int) < (z.rs.length : Int) := by omega
      obtain ⟨cn2, hcn2⟩ : ∃ x, x = (spendR z.cs z.k z.f z.rs z.os id hh).1 := ⟨_, rfl⟩
      obtain ⟨out, hout⟩ : ∃ x, x = (spendR z.cs z.k z.f z.rs z.os id hh).2 := ⟨_, rfl⟩
      have hfew := spendR_few (cs := z.cs) (k := z.k) (f := z.f) (rs := z.rs) (os := z.os) (id := id) (h := hh)
      rw [← hout] at hfew
      have hol : out.length ≤ 1000 := hfew.1
      have HFW : Hid (∀ j, j < out.length → (out.getD j C0).l.length ≤ 1048576) := fun j hj => hfew.2 _ (getC_mem hj)
      have HSO : Hid (cn2 = 0 → SpOk z.cs z.k z.f z.rs z.os id hh out) := fun h => by
        have := spOk (cs := z.cs) (k := z.k) (f := z.f) (rs := z.rs) (os := z.os) (id := id) (h := hh) (by rw [← hcn2]; exact h)
        rw [← hout] at this
        exact this
      have hsd := iSpendTx_any z.cs.length z.vc z.va z.cs z.rs.length z.ic z.os.length z.oc z.ia z.oa z.k z.f z.rs z.os id hh U (HGE.out U HU.out.ck.src.bel) (by omega) HU.out.ck.keys (by omega) (by omega) HCAP.out.1 HCAP.out.2 HU.out.ck.outk HU.out.ck.cat HU.out.ck.tx
      rw [← hcn2, ← hout] at hsd
      clear hcn2 hout hfew
      go_wp2_with (first
        | (go_at_call 13; (with_reducible refine hsd.mono ?_); clear hsd; rintro e v7 ⟨pv, kv, rfl, hO7, hb7⟩; obtain ⟨na, nc, rfl⟩ := own_slice hO7; have HNA : Hid (CAt (v7.alloc (.cells #[.int .i64 cn2, .slice na out.length nc] 39)) na out.length out) := (own_at2 hO7 rfl HFW.out).below (below_box _) (Nat.le_refl _); have HU7 : Hid (CkS w (v7.alloc (.cells #[.int .i64 cn2, .slice na out.length nc] 39)) SB ca cn cc t LB ta n tc ga m gc ss gs z #[.slice ta n tc, .slice ga m gc] #[.int .i64 z.k, .int .i64 z.f, .slice z.ia z.rs.length z.ic, .slice z.oa z.os.length z.oc] L T X S fee sa sc) := HU.out.step (hb7.trans ((below_box _).mono hb7.size)); have HN7 : Hid ((v7.alloc (.cells #[.int .i64 cn2, .slice na out.length nc] 39)).heap[v7.heap.size]? = some (.cells #[.int .i64 cn2, .slice na out.length nc] 39 (0, 0))) := heap_alloc_new _ _; clear hO7 hb7))
      clear s0 s1 l0 l1 t0 t1 t2 t3 HU
      obtain ⟨U, hU⟩ : ∃ x, x = v7.alloc (.cells #[.int .i64 cn2, .slice na out.length nc] 39) := ⟨_, rfl⟩
      obtain ⟨N, hN⟩ : ∃ x, x = v7.heap.size := ⟨_, rfl⟩
      rw [← hU] at HNA HU7
      rw [← hU, ← hN] at HN7
      rw [← hU, ← hN]
      have HU := HU7
      clear HU7 hU hN
      obtain ⟨sv, hsv⟩ : ∃ x, x = valsR (inC z.cs z.rs) := ⟨_, rfl⟩
      obtain ⟨cv, hcv⟩ : ∃ x, x = valsR z.cs := ⟨_, rfl⟩
      obtain ⟨so, hso⟩ : ∃ x, x = (z.os.map Ou.v).sum := ⟨_, rfl⟩
      have hfe := HOK.out.val
      have hfp := HOK.out.pos
      have hv1 := vals_small HOK.out.right
      have hv2 := vals_small HOK.out.c
      rw [← hsv] at hfe hv1
      rw [← hso] at hfe
      rw [← hcv] at hv2
      have HSM : Hid (coinSumR (inC z.cs z.rs) = (0, sv) ∧ coinSumR z.cs = (0, cv) ∧ sumR z.k z.f z.rs z.os = (0, so)) := by
        rw [hsv, hcv, hso]
        exact ⟨sum_of HOK.out.right, sum_of HOK.out.c, HOK.out.outs⟩
      have hw1 : IntKind.i64.wrap (so + fee) = so + fee := IntWalk.i64_in _ (by omega)
      have hb1 : (sv == so + fee) = true := by
        have : sv = so + fee := by omega
        simp [this]
      have hpos : decide ((0 : Int) ≤ fee) = true := decide_eq_true hfp
      have cS1 : ∀ dd oss, Calls Tryz.prog 14 #[.slice sa z.rs.length sc] (grow (redrawn U dd) oss) fun e w'' => e = .returned (.agg #[.int .i64 0, .int .i64 sv]) ∧ ∃ p : Regrown, w'' = grow (redrawn U p.d) p.os := fun dd oss => Calls.regrown_of (by
        have hUW := HU.out.step (below_regrown U dd oss)
        have := iCoinSum_any z.rs.length sc sa (inC z.cs z.rs) (grow (redrawn U dd) oss) (by omega) HIN.out hUW.sp
        rw [HSM.out.1] at this
        exact this)
      have cS2 : ∀ dd oss, Calls Tryz.prog 14 #[.slice z.va z.cs.length z.vc] (grow (redrawn U dd) oss) fun e w'' => e = .returned (.agg #[.int .i64 0, .int .i64 cv]) ∧ ∃ p : Regrown, w'' = grow (redrawn U p.d) p.os := fun dd oss => Calls.regrown_of (by
        have hUW := HU.out.step (below_regrown U dd oss)
        have := iCoinSum_any z.cs.length z.vc z.va z.cs (grow (redrawn U dd) oss) (by omega) hUW.ck.keys hUW.ck.cat
        rw [HSM.out.2.1] at this
        exact this)
      have cO : ∀ dd oss, Calls Tryz.prog 15 #[.agg #[.int .i64 z.k, .int .i64 z.f, .slice z.ia z.rs.length z.ic, .slice z.oa z.os.length z.oc]] (grow (redrawn U dd) oss) fun e w'' => e = .returned (.agg #[.int .i64 0, .int .i64 so]) ∧ ∃ p : Regrown, w'' = grow (redrawn U p.d) p.os := fun dd oss => Calls.regrown_of (by
        have hUW := HU.out.step (below_regrown U dd oss)
        have := iOutSum_any z.rs.length z.ic z.os.length z.oc z.ia z.oa z.k z.f z.rs z.os (grow (redrawn U dd) oss) (by omega) (by omega) HCAP.out.1 HCAP.out.2 hUW.ck.outk hUW.ck.tx
        rw [HSM.out.2.2] at this
        exact this)
      have cC : ∀ dd oss, Calls Tryz.prog 7 #[.agg #[.slice ta n tc, .slice ga m gc], .slice z.va z.cs.length z.vc, .agg #[.int .i64 z.k, .int .i64 z.f, .slice z.ia z.rs.length z.ic, .slice z.oa z.os.length z.oc], .int .i64 hh] (grow (redrawn U dd) oss) fun e w'' => e = .returned (.agg #[.int .i64 0, .int .i64 fee]) ∧ ∃ p : Regrown, w'' = grow (redrawn U p.d) p.os := fun dd oss => Calls.regrown_of (by
        have hUW := HU.out.step (below_regrown U dd oss)
        have := sCheckTx_ck hUW.ck hh
        rw [HCR.out.1, HCR.out.2] at this
        exact this)
      obtain ⟨s0, s1⟩ := cells2 HU.out.bS
      obtain ⟨l0, l1⟩ := cells2 HU.out.bL
      obtain ⟨t0, t1, t2, t3, _⟩ := cells4 HU.out.bT
      obtain ⟨x0, x1⟩ := cells2 HU.out.bX
      obtain ⟨n0, n1⟩ := cells2 HN7.out
      have z0 := cell_regrown s1
      have z1 := cell_regrown l0
      have z2 := cell_regrown l1
      have v0 := cell_regrown t0
      have v1 := cell_regrown t1
      have v2 := cell_regrown t2
      have v3 := cell_regrown t3
      have v4 := cell_regrown x1
      have v5 := cell_regrown n0
      have v6 := cell_regrown n1
      by_cases hc0 : cn2 = 0
      · subst hc0
        have hkp := HOK.out.keep (HSO.out rfl)
        rw [← hcv] at hkp
        obtain ⟨ov, hov⟩ : ∃ x, x = valsR out := ⟨_, rfl⟩
        rw [← hov] at hkp
        have hv3 := vals_small (putOk_right (HSO.out rfl).put)
        rw [← hov] at hv3
        have hw2 : IntKind.i64.wrap (cv - fee) = cv - fee := IntWalk.i64_in _ (by omega)
        have hb2 : (ov == cv - fee) = true := by simp [hkp]
        have HS3 : Hid (coinSumR out = (0, ov)) := by
          rw [hov]
          exact sum_of (putOk_right (HSO.out rfl).put)
        have cS3 : ∀ dd oss, Calls Tryz.prog 14 #[.slice na out.length nc] (grow (redrawn U dd) oss) fun e w'' => e = .returned (.agg #[.int .i64 0, .int .i64 ov]) ∧ ∃ p : Regrown, w'' = grow (redrawn U p.d) p.os := fun dd oss => Calls.regrown_of (by
          have hUW := HU.out.step (below_regrown U dd oss)
          have := iCoinSum_any out.length nc na out (grow (redrawn U dd) oss) (by omega) HFW.out (HNA.out.below (below_regrown U dd oss) (Nat.le_refl _))
          rw [HS3.out] at this
          exact this)
        clear hsv hcv hso hfe hfp hv1 hv2 hv3 hkp hov s0 s1 l0 l1 t0 t1 t2 t3 x0 x1 n0 n1
        refine wp_region_quiet_below hmix (by kernel_rfl) ?_
        repeat (go_big_quiet_step (first | (with_reducible exact cS1 _ _) | (with_reducible exact cS3 _ _) | (with_reducible exact cS2 _ _) | (with_reducible exact cO _ _) | (with_reducible exact cC _ _)))
        refine wpQuiet_nil ?_
        intro _ hw'
        obtain ⟨⟨dq, osq⟩, hw''⟩ := hw'
        subst hw''
        have HE : Hid (Below w.heap.size w (grow (redrawn U dq) osq)) := (HU.out.step (below_regrown U dq osq)).ck.src.bel
        go_wp2
        go_ret
        exact ⟨by simp, HE.out⟩
      · have hcb : (cn2 != 0) = true := by simpa using hc0
        clear hsv hcv hso hfe hfp hv1 hv2 s0 s1 l0 l1 t0 t1 t2 t3 x0 x1 n0 n1
        refine wp_region_quiet_below hmix (by kernel_rfl) ?_
        repeat (go_big_quiet_step (first | (with_reducible exact cS1 _ _) | (with_reducible exact cS2 _ _) | (with_reducible exact cO _ _) | (with_reducible exact cC _ _)))
        refine wpQuiet_nil ?_
        intro _ hw'
        obtain ⟨⟨dq, osq⟩, hw''⟩ := hw'
        subst hw''
        have HE : Hid (Below w.heap.size w (grow (redrawn U dq) osq)) := (HU.out.step (below_regrown U dq osq)).ck.src.bel
        go_wp2
        go_ret
        exact ⟨by simp, HE.out⟩
end Go.Proofs.YtagokfoimokniaaGreatDoor
