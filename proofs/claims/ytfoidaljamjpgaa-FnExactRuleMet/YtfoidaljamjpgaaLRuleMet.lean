/- The law on RuleMet answers true, whatever ledger, rule and numbers come in, and writes nothing that was there. -/
import Derived.Test.YtfoidaljamjpgaaIMet
namespace Go.Proofs.Ytfoidaljamjpgaa
open Go.RowKit Go.Shelf Go.Maps Go.WideMaps

def SzL2 (n m : Nat) (ss : List ByteArray) (left r : Int) : Prop := r = -1 ∨ 0 ≤ r ∧ r ≤ left ∧ (n : Int) ≤ left ∧ (m : Int) ≤ left ∧ ∀ j, j < n → ((ss.getD j E0).size : Int) ≤ left

set_option maxHeartbeats 400000 in
theorem szL2_any (n m tc gc : Nat) (ta ga : Option Addr) (ss : List ByteArray) (gs : List (Int × Int)) (left : Int) (w : World) (h0 : 0 ≤ left) (h1 : left ≤ 1048576) (hn : n ≤ maxLen) (hm : m ≤ maxLen) (hf : Fine ss gs) (h : LedAt w ta n ga m ss gs) :
    Calls Try.prog 4 #[.agg #[.slice ta n tc, .slice ga m gc], .int .i64 left] w fun e w' => ∃ r, e = .returned (.int .i64 r) ∧ SzL2 n m ss left r ∧ Below w.heap.size w w' := by
  have hbx : Below w.heap.size w (w.alloc (.cells #[.slice ta n tc, .slice ga m gc] 25)) := below_box _
  have hS := szS_any ta n tc ss left _ h0 h1 hn hf.s (h.s.below hbx (Nat.le_refl _))
  have hb0 : w.heap.size < (w.alloc (.cells #[.slice ta n tc, .slice ga m gc] 25)).heap.size := by simp
  go_enter Try.func4, Try.ntmps4
  go_wp2_with (first
    | (go_at_call 12; refine hS.mono ?_; rintro e w2 ⟨r, rfl, hw, hr⟩; have hw2 := hw.symm; subst hw2)
    | (go_at_call 13; rcases hr with hr | hr; (omega); refine (szG_any ga m gc r _ hr.1 (by omega) hm).mono ?_; rintro e w2 ⟨r2, rfl, hw, hr2⟩; have hw2 := hw.symm; subst hw2))
  · go_ret
    exact ⟨_, rfl, Or.inl rfl, hbx⟩
  · go_ret
    exact ⟨_, rfl, Or.inl rfl, hbx⟩
  · have h2 : 0 ≤ r2 := by assumption
    go_ret
    refine ⟨_, rfl, Or.inr ⟨h2, ?_⟩, hbx⟩
    rcases hr2 with e | e
    · omega
    · exact ⟨by omega, by omega, by omega, hr.2.2.2⟩

set_option maxRecDepth 20000 in
set_option maxHeartbeats 4000000 in
theorem lawRuleMet (n m tc gc k cap : Nat) (ta ga a : Option Addr) (ss : List ByteArray) (gs : List (Int × Int)) (l : List Int) (x y id h : Int) (w : World) (hn : n ≤ maxLen) (hm : m ≤ maxLen) (hk : k ≤ maxLen) (hf : Fine ss gs) (hL : LedAt w ta n ga m ss gs) (hI : IAt w a k l) (hw : ∀ k ∈ l, (Lit.int .i64 k).wf = true) (hwi : (Lit.int .i64 id).wf = true) :
    Calls Try.prog 3 #[.agg #[.slice ta n tc, .slice ga m gc], .agg #[.slice a k cap, .int .i64 x, .int .i64 y], .int .i64 id, .int .i64 h] w fun e w' => e = .returned (.bool true) ∧ Below w.heap.size w w' := by
  have B0 := LR.start (w := w) (tl := 25) (tr := 28) (ta := ta) (n := n) (tc := tc) (ga := ga) (m := m) (gc := gc) (a := a) (k := k) (cap := cap) (x := x) (y := y)
  have hsz := szL2_any n m tc gc ta ga ss gs 1048576 _ (by omega) (by omega) hn hm hf (hL.below B0.bel (Nat.le_refl _))
  have HN : Hid (ss.length = n) := hL.s.1
  have HM : Hid (gs.length = m) := hL.g.1
  have HK : Hid (l.length = k) := hI.1
  have HF : Hid (Fine ss gs) := hf
  have HL : Hid (LedAt w ta n ga m ss gs) := hL
  have HI : Hid (IAt w a k l) := hI
  have HW : Hid ((∀ k ∈ l, (Lit.int .i64 k).wf = true) ∧ (Lit.int .i64 id).wf = true) := ⟨hw, hwi⟩
  have HB0 : Hid (LR w ((w.alloc (.cells #[.slice ta n tc, .slice ga m gc] 25)).alloc (.cells #[.slice a k cap, .int .i64 x, .int .i64 y] 28)) 25 28 ta n tc ga m gc a k cap x y) := B0
  obtain ⟨cd, hcd⟩ : ∃ c, c = metR ss gs l x y id h := ⟨_, rfl⟩
  have HCD : Hid (metR ss gs l x y id h = cd) := hcd.symm
  clear hcd hf hL hI hw hwi B0
  go_enter Try.func3, Try.ntmps3
  go_wp2_with (first
    | (go_at_call 4; refine hsz.mono ?_; clear hsz; rintro e w1 ⟨r, rfl, hr, hb1⟩; have HB1 : Hid (LR w w1 25 28 ta n tc ga m gc a k cap x y) := HB0.out.step hb1; obtain ⟨p0, p1, p2⟩ := cells3 HB1.out.rul; clear hb1)
    | (go_at_call 5; rcases hr with hr | hr; (omega); refine (szRu_any a k cap x y r w1 hr.1 hr.2.1 hk).mono ?_; rintro e w2 ⟨r2, rfl, hr2, hb2⟩; have HB2 : Hid (LR w w2 25 28 ta n tc ga m gc a k cap x y) := HB1.out.step hb2; clear hb2 p0 p1 p2; obtain ⟨p0, p1, p2⟩ := cells3 HB2.out.rul; obtain ⟨q0, q1⟩ := cells2 HB2.out.led))
  · go_ret
    exact ⟨rfl, HB1.out.bel⟩
  · go_ret
    exact ⟨rfl, HB2.out.bel⟩
  have hr20 : 0 ≤ r2 := by assumption
  have hn3 : n ≤ 1048576 := by omega
  have hm3 : m ≤ 1048576 := by omega
  have hk3 : k ≤ 1048576 := by rcases hr2 with e | e <;> omega
  clear hr hr2
  have hto2 : Calls Try.prog 7 #[.agg #[.slice ta n tc, .slice ga m gc]] w2.drew fun e w' => ∃ g0 k0 g1 k1, e = .returned (.agg #[.slice (some ⟨g0, 0, none⟩) n k0, .slice (some ⟨g1, 0, none⟩) m k1]) ∧ Hid (OwnL w' w2.heap.size n m ss gs g0 k0 g1 k1) ∧ Below w2.heap.size w2 w' :=
    (toL_any ta ga n m tc gc ss gs _ hn3 hm3 ((HL.out.below HB2.out.bel (Nat.le_refl _)).below (Below.refl _ _).drew (Nat.le_refl _))).mono fun e w' ⟨a, b, c, d, h1, h2, h3⟩ => ⟨a, b, c, d, h1, h2, (Below.refl _ _).drew.trans h3⟩
  go_region_held3 (fun w' => (w'.cell? ⟨w.heap.size, 0, none⟩ = some (.slice ta n tc) ∧ w'.cell? ⟨w.heap.size, 1, none⟩ = some (.slice ga m gc)) ∧ w'.cell? ⟨w.heap.size + 1, 0, none⟩ = some (.slice a k cap) ∧ w'.cell? ⟨w.heap.size + 1, 1, none⟩ = some (.int .i64 x) ∧ w'.cell? ⟨w.heap.size + 1, 2, none⟩ = some (.int .i64 y)) (go_keep)
    (first
      | (go_at_call 7; refine hto2.mono ?_; rintro e w3 ⟨g0, k0, g1, k1, rfl, HO3, hb3⟩; have HB3 : Hid (LR w w3 25 28 ta n tc ga m gc a k cap x y) := HB2.out.step hb3; obtain ⟨z0, z1, z2⟩ := cells3 HB3.out.rul; obtain ⟨z3, z4⟩ := cells2 HB3.out.led)
      | (go_at_call 8; refine (toRu_any a k cap l x y w3 hk3 (HI.out.below HB3.out.bel (Nat.le_refl _))).mono ?_; rintro e w4 ⟨g2, k2, rfl, ho4, hb4⟩; have HB4 : Hid (LR w w4 25 28 ta n tc ga m gc a k cap x y) := HB3.out.step hb4; have HI4 : Hid (IAt w4 (some ⟨g2, 0, none⟩) k l) := IAt.owned ho4 HK.out; have HL4 : Hid (LedAt w4 (some ⟨g0, 0, none⟩) n (some ⟨g1, 0, none⟩) m ss gs) := (HO3.out.led HN.out HM.out).below hb4 (Nat.le_refl _); obtain ⟨y0, y1, y2⟩ := cells3 HB4.out.rul; obtain ⟨y3, y4⟩ := cells2 HB4.out.led)
      | (go_at_call 6; have hsp := sRuleMet_any n m k0 k1 k k2 _ _ _ ss gs l x y id h w4 HO3.out.caps.1 HO3.out.caps.2.1 HO3.out.caps.2.2.1 HO3.out.caps.2.2.2 HF.out HL4.out hk3 HI4.out; rw [HCD.out] at hsp; refine hsp.mono ?_; clear hsp; rintro e w5 ⟨rfl, hb5⟩; have HB5 : Hid (LR w w5 25 28 ta n tc ga m gc a k cap x y) := HB4.out.step hb5; obtain ⟨u0, u1, u2⟩ := cells3 HB5.out.rul; obtain ⟨u3, u4⟩ := cells2 HB5.out.led))
  clear p0 p1 p2 q0 q1 z0 z1 z2 z3 z4 y0 y1 y2 y3 y4 hto2 HO3 hb3 ho4 hb4 hb5 HI4 HL4 HB4 HB3 HB2 HB1 HB0
  go_wp2_with (first
    | (go_at_call 7; refine (toL_any ta ga n m tc gc ss gs w5 hn3 hm3 (HL.out.below HB5.out.bel (Nat.le_refl _))).mono ?_; rintro e w6 ⟨g4, k4, g5, k5, rfl, ho6, hb6⟩; have hbx6 := below_box (w := w6) (.cells #[.slice (some ⟨g4, 0, none⟩) n k4, .slice (some ⟨g5, 0, none⟩) m k5] 34); have HB6 : Hid (LR w (w6.alloc (.cells #[.slice (some ⟨g4, 0, none⟩) n k4, .slice (some ⟨g5, 0, none⟩) m k5] 34)) 25 28 ta n tc ga m gc a k cap x y) := (HB5.out.step hb6).step hbx6; have HX6 := show Hid ((w6.alloc (.cells #[.slice (some ⟨g4, 0, none⟩) n k4, .slice (some ⟨g5, 0, none⟩) m k5] 34)).heap[w6.heap.size]? = some (.cells #[.slice (some ⟨g4, 0, none⟩) n k4, .slice (some ⟨g5, 0, none⟩) m k5] 34 (0, 0))) from heap_alloc_new _ _; have HL6 : Hid (LedAt (w6.alloc (.cells #[.slice (some ⟨g4, 0, none⟩) n k4, .slice (some ⟨g5, 0, none⟩) m k5] 34)) (some ⟨g4, 0, none⟩) n (some ⟨g5, 0, none⟩) m ss gs) := (ho6.led HN.out HM.out).below hbx6 (Nat.le_refl _); clear u0 u1 u2 u3 u4; obtain ⟨p0, p1, p2⟩ := cells3 HB6.out.rul; clear ho6 hb6 hbx6 HB5)
    | (go_at_call 8; refine (toRu_any a k cap l x y _ hk3 (HI.out.below HB6.out.bel (Nat.le_refl _))).mono ?_; rintro e w7 ⟨g6, k6, rfl, ho7, hb7⟩; have hbx7 := below_box (w := w7) (.cells #[.slice (some ⟨g6, 0, none⟩) k k6, .int .i64 x, .int .i64 y] 36); have HB7 : Hid (LR w (w7.alloc (.cells #[.slice (some ⟨g6, 0, none⟩) k k6, .int .i64 x, .int .i64 y] 36)) 25 28 ta n tc ga m gc a k cap x y) := (HB6.out.step hb7).step hbx7; have HX7 := keepb (keepb HX6.out hb7).out hbx7; have HY7 := show Hid ((w7.alloc (.cells #[.slice (some ⟨g6, 0, none⟩) k k6, .int .i64 x, .int .i64 y] 36)).heap[w7.heap.size]? = some (.cells #[.slice (some ⟨g6, 0, none⟩) k k6, .int .i64 x, .int .i64 y] 36 (0, 0))) from heap_alloc_new _ _; have HL7 : Hid (LedAt (w7.alloc (.cells #[.slice (some ⟨g6, 0, none⟩) k k6, .int .i64 x, .int .i64 y] 36)) (some ⟨g4, 0, none⟩) n (some ⟨g5, 0, none⟩) m ss gs) := (HL6.out.below hb7 (Nat.le_refl _)).below hbx7 (Nat.le_refl _); have HI7 : Hid (IAt (w7.alloc (.cells #[.slice (some ⟨g6, 0, none⟩) k k6, .int .i64 x, .int .i64 y] 36)) (some ⟨g6, 0, none⟩) k l) := (IAt.owned ho7 HK.out).below hbx7 (Nat.le_refl _); clear p0 p1 p2; obtain ⟨x0, x1⟩ := cells2 HX7.out; clear ho7 hb7 hbx7 HB6 HX6 HL6)
    | (go_at_call 9; have him := iRuleMet_any n m k4 k5 k k6 _ _ _ ss gs l x y id h _ HF.out HL7.out hk3 HI7.out HW.out.1 HW.out.2; rw [HCD.out] at him; refine him.mono ?_; clear him x0 x1; rintro e w8 ⟨rfl, hb8⟩; have HB8 : Hid (LR w w8 25 28 ta n tc ga m gc a k cap x y) := HB7.out.step hb8; have HX8 := keepb HX7.out hb8; have HY8 := keepb HY7.out hb8; have HL8 : Hid (LedAt w8 (some ⟨g4, 0, none⟩) n (some ⟨g5, 0, none⟩) m ss gs) := HL7.out.below hb8 (Nat.le_refl _); have HI8 : Hid (IAt w8 (some ⟨g6, 0, none⟩) k l) := HI7.out.below hb8 (Nat.le_refl _); obtain ⟨x0, x1⟩ := cells2 HX8.out; obtain ⟨q0, q1⟩ := cells2 HB8.out.led; clear hb8 HB7 HX7 HY7 HL7 HI7))
  have hl6 := lt_of_block HX8.out
  have hl0 := lt_of_block HB8.out.led
  have hto8 : Calls Try.prog 7 #[.agg #[.slice ta n tc, .slice ga m gc]] w8.drew fun e w' => ∃ g0 k0 g1 k1, e = .returned (.agg #[.slice (some ⟨g0, 0, none⟩) n k0, .slice (some ⟨g1, 0, none⟩) m k1]) ∧ Hid (LedAt w' (some ⟨g0, 0, none⟩) n (some ⟨g1, 0, none⟩) m ss gs) ∧ Below w8.heap.size w8 w' :=
    (toL_any ta ga n m tc gc ss gs _ hn3 hm3 ((HL.out.below HB8.out.bel (Nat.le_refl _)).below (Below.refl _ _).drew (Nat.le_refl _))).mono fun e w' ⟨a, b, c, d, h1, h2, h3⟩ => ⟨a, b, c, d, h1, h2.led HN.out HM.out, (Below.refl _ _).drew.trans h3⟩
  go_region_held3 (fun w' => (w'.cell? ⟨w6.heap.size, 0, none⟩ = some (.slice (some ⟨g4, 0, none⟩) n k4) ∧ w'.cell? ⟨w6.heap.size, 1, none⟩ = some (.slice (some ⟨g5, 0, none⟩) m k5)) ∧ w'.cell? ⟨w.heap.size, 0, none⟩ = some (.slice ta n tc) ∧ w'.cell? ⟨w.heap.size, 1, none⟩ = some (.slice ga m gc)) (go_keep)
    (first
      | (go_at_call 7; refine hto8.mono ?_; rintro e w9 ⟨g8, k8, g9, k9, rfl, HL9, hb9⟩; have z0 := (hb9.cell (p := ⟨w6.heap.size, 0, none⟩) hl6).trans x0; have z1 := (hb9.cell (p := ⟨w6.heap.size, 1, none⟩) hl6).trans x1; have z2 := (hb9.cell (p := ⟨w.heap.size, 0, none⟩) hl0).trans q0; have z3 := (hb9.cell (p := ⟨w.heap.size, 1, none⟩) hl0).trans q1)
      | (go_at_call 10; refine (eqL_any _ _ _ _ n m k4 k8 k5 k9 ss gs _ hn3 hm3 (HL8.out.below hb9 (Nat.le_refl _)) HL9.out).mono ?_; rintro e w10 ⟨rfl, hb10⟩; have hs9 := hb9.size; have y0 := (hb10.cell (p := ⟨w6.heap.size, 0, none⟩) (Nat.lt_of_lt_of_le hl6 hs9)).trans z0; have y1 := (hb10.cell (p := ⟨w6.heap.size, 1, none⟩) (Nat.lt_of_lt_of_le hl6 hs9)).trans z1; have y2 := (hb10.cell (p := ⟨w.heap.size, 0, none⟩) (Nat.lt_of_lt_of_le hl0 hs9)).trans z2; have y3 := (hb10.cell (p := ⟨w.heap.size, 1, none⟩) (Nat.lt_of_lt_of_le hl0 hs9)).trans z3))
  have HB10 : Hid (LR w w10 25 28 ta n tc ga m gc a k cap x y) := (HB8.out.step hb9).step hb10
  have HY10 := keepb (keepb HY8.out hb9).out hb10
  have HI10 : Hid (IAt w10 (some ⟨g6, 0, none⟩) k l) := (HI8.out.below hb9 (Nat.le_refl _)).below hb10 (Nat.le_refl _)
  clear x0 x1 q0 q1 z0 z1 z2 z3 y0 y1 y2 y3 hto8 hb9 hb10 HB8 HX8 HY8 HL8 HI8 HL9
  obtain ⟨x0, x1, x2⟩ := cells3 HY10.out
  obtain ⟨p0, p1, p2⟩ := cells3 HB10.out.rul
  have hl7 := lt_of_block HY10.out
  have hl1 := lt_of_block HB10.out.rul
  go_wp2
  have hto10 : Calls Try.prog 8 #[.agg #[.slice a k cap, .int .i64 x, .int .i64 y]] w10.drew fun e w' => ∃ g c, e = .returned (.agg #[.slice (some ⟨g, 0, none⟩) k c, .int .i64 x, .int .i64 y]) ∧ Hid (IAt w' (some ⟨g, 0, none⟩) k l) ∧ Below w10.heap.size w10 w' :=
    (toRu_any a k cap l x y _ hk3 ((HI.out.below HB10.out.bel (Nat.le_refl _)).below (Below.refl _ _).drew (Nat.le_refl _))).mono fun e w' ⟨g, c, h1, h2, h3⟩ => ⟨g, c, h1, IAt.owned h2 HK.out, (Below.refl _ _).drew.trans h3⟩
  go_region_held3 (fun w' => (w'.cell? ⟨w7.heap.size, 0, none⟩ = some (.slice (some ⟨g6, 0, none⟩) k k6) ∧ w'.cell? ⟨w7.heap.size, 1, none⟩ = some (.int .i64 x) ∧ w'.cell? ⟨w7.heap.size, 2, none⟩ = some (.int .i64 y)) ∧ w'.cell? ⟨w.heap.size + 1, 0, none⟩ = some (.slice a k cap) ∧ w'.cell? ⟨w.heap.size + 1, 1, none⟩ = some (.int .i64 x) ∧ w'.cell? ⟨w.heap.size + 1, 2, none⟩ = some (.int .i64 y)) (go_keep)
    (first
      | (go_at_call 8; refine hto10.mono ?_; rintro e w11 ⟨g11, k11, rfl, HI11, hb11⟩; obtain ⟨z0, z1, z2⟩ := keep3' hl7 hb11 ⟨x0, x1, x2⟩; obtain ⟨z3, z4, z5⟩ := keep3' hl1 hb11 ⟨p0, p1, p2⟩)
      | (go_at_call 11; refine (eqRu_any _ _ k k6 k11 l x y _ hk3 (HI10.out.below hb11 (Nat.le_refl _)) HI11.out).mono ?_; rintro e w12 ⟨rfl, hb12⟩; have hs11 := hb11.size; obtain ⟨y0, y1, y2⟩ := keep3' (Nat.lt_of_lt_of_le hl7 hs11) hb12 ⟨z0, z1, z2⟩; obtain ⟨y3, y4, y5⟩ := keep3' (Nat.lt_of_lt_of_le hl1 hs11) hb12 ⟨z3, z4, z5⟩))
  go_wp2
  go_ret
  exact ⟨rfl, ((HB10.out.step hb11).step hb12).bel⟩

end Go.Proofs.Ytfoidaljamjpgaa
