/- The law on CheckTx answers true, whatever comes in, and writes nothing that was there. -/
import Derived.Test.YtjgilpkkfpbefaaGreatDoorAd
import Derived.Test.YtjgilpkkfpbefaaGreatDoorLRuleMet
import Derived.Test.YtjgilpkkfpbefaaGreatDoorQu
import Derived.Test.YtjgilpkkfpbefaaGreatDoorLSpentBy
namespace Go.Proofs.YtjgilpkkfpbefaaGreatDoor
open Go.RowKit Go.Shelf Go.Maps Go.WideMaps

/-- The law's ledger and transaction in their boxes. -/
structure MBx (w v : World) (ta : Option Addr) (tn tc : Nat) (ga : Option Addr) (gn gc : Nat) (kd f : Int) (ia : Option Addr) (n2 ic : Nat) (oa : Option Addr) (m2 oc : Nat) : Prop where
  led : v.heap[w.heap.size]? = some (.cells #[.slice ta tn tc, .slice ga gn gc] 25 (0, 0))
  tx : v.heap[w.heap.size + 1]? = some (.cells #[.int .i64 kd, .int .i64 f, .slice ia n2 ic, .slice oa m2 oc] 30 (0, 0))
  bel : Below w.heap.size w v
section
variable {w v v' : World} {ta ga ia oa : Option Addr} {tn tc gn gc n2 ic m2 oc : Nat} {kd f : Int}
theorem MBx.start : MBx w ((w.alloc (.cells #[.slice ta tn tc, .slice ga gn gc] 25)).alloc (.cells #[.int .i64 kd, .int .i64 f, .slice ia n2 ic, .slice oa m2 oc] 30)) ta tn tc ga gn gc kd f ia n2 ic oa m2 oc := ⟨(blocks2 w _ _).1, (blocks2 w _ _).2.1, below_box2 _ _⟩
theorem MBx.step (h : MBx w v ta tn tc ga gn gc kd f ia n2 ic oa m2 oc) (hb : Below v.heap.size v v') : MBx w v' ta tn tc ga gn gc kd f ia n2 ic oa m2 oc := ⟨(keepb h.led hb).out, (keepb h.tx hb).out, h.bel.trans (hb.mono h.bel.size)⟩
end
/-- The result's block, still empty; and filled. -/
structure ZIt (W u : World) (R : Nat) : Prop where
  lo : W.heap.size ≤ R
  blk : u.heap[R]? = some (.cells #[.int .i64 0, .int .i64 0] 35 (0, 0))
theorem hidZI {W u u' : World} {R : Nat} (h : Hid (ZIt W u R)) (hb : Below u.heap.size u u') : Hid (ZIt W u' R) := ⟨h.out.lo, (keepb h.out.blk hb).out⟩
theorem zit_new {W u : World} (h : Hid (Below W.heap.size W u)) : Hid (ZIt W (u.alloc (.cells #[.int .i64 0, .int .i64 0] 35)) u.heap.size) := ⟨h.out.size, heap_alloc_new _ _⟩
def SRi (W wc : World) (R : Nat) (rc fe : Int) : Prop := W.heap.size ≤ R ∧ Below W.heap.size W wc ∧ wc.heap[R]? = some (.cells #[.int .i64 rc, .int .i64 fe] 35 (0, 0))
theorem sri_set {W u : World} {R : Nat} {rc fe : Int} (h : Hid (ZIt W u R)) (hb : Hid (Below W.heap.size W u)) : Hid (SRi W ((u.setCell ⟨R, 0, none⟩ (.int .i64 rc)).setCell ⟨R, 1, none⟩ (.int .i64 fe)) R rc fe) :=
  ⟨h.out.lo, (hb.out.setCell (p := ⟨R, 0, none⟩) h.out.lo _).setCell (p := ⟨R, 1, none⟩) h.out.lo _, Joins.block_setCell (i := 1) (Joins.block_setCell (i := 0) h.out.blk (.int .i64 rc)) (.int .i64 fe)⟩
theorem sri_new {W u : World} {rc fe : Int} (hb : Hid (Below W.heap.size W u)) : Hid (SRi W (u.alloc (.cells #[.int .i64 rc, .int .i64 fe] 35)) u.heap.size rc fe) :=
  ⟨hb.out.size, hb.out.trans ((below_box _).mono hb.out.size), heap_alloc_new _ _⟩
theorem zit_ne {W u : World} {R b : Nat} (hb : b < W.heap.size) (h : Hid (ZIt W u R)) : Hid (b ≠ R) := by have := h.out.lo; show b ≠ R; omega
/-- A copy of a ledger that can be read. -/
def LCU (W : World) (tn gn g2 k2 g3 k3 : Nat) (ss : List ByteArray) (gs : List (Int × Int)) : Prop := LedAt W (some ⟨g2, 0, none⟩) tn (some ⟨g3, 0, none⟩) gn ss gs ∧ tn ≤ k2 ∧ gn ≤ k3 ∧ k2 ≤ maxLen ∧ k3 ≤ maxLen
theorem hidLU {W W' : World} {tn gn g2 k2 g3 k3 : Nat} {ss : List ByteArray} {gs : List (Int × Int)} (h : Hid (LCU W tn gn g2 k2 g3 k3 ss gs)) (hb : Below W.heap.size W W') : Hid (LCU W' tn gn g2 k2 g3 k3 ss gs) := ⟨h.out.1.below hb (Nat.le_refl _), h.out.2⟩
/-- Six cells of two blocks. -/
def Six (W : World) (b b' : Nat) (v0 v1 u0 u1 u2 u3 : Value) : Prop := (W.cell? ⟨b, 0, none⟩ = some v0 ∧ W.cell? ⟨b, 1, none⟩ = some v1) ∧ W.cell? ⟨b', 0, none⟩ = some u0 ∧ W.cell? ⟨b', 1, none⟩ = some u1 ∧ W.cell? ⟨b', 2, none⟩ = some u2 ∧ W.cell? ⟨b', 3, none⟩ = some u3
theorem Six.go {B : Nat} {w w' : World} {b b' : Nat} {v0 v1 u0 u1 u2 u3 : Value} (hb : Below B w w') (hl : b < B) (hl' : b' < B) (h : Six w b b' v0 v1 u0 u1 u2 u3) : Six w' b b' v0 v1 u0 u1 u2 u3 :=
  ⟨⟨(hb.cell (p := ⟨b, 0, none⟩) hl).trans h.1.1, (hb.cell (p := ⟨b, 1, none⟩) hl).trans h.1.2⟩, cellsU hb hl' h.2⟩
theorem Six.set {W : World} {b b' R : Nat} {v0 v1 u0 u1 u2 u3 x x' : Value} (h : Six W b b' v0 v1 u0 u1 u2 u3) (h1 : b ≠ R) (h2 : b' ≠ R) : Six ((W.setCell ⟨R, 0, none⟩ x).setCell ⟨R, 1, none⟩ x') b b' v0 v1 u0 u1 u2 u3 :=
  ⟨⟨keepU h.1.1 h1, keepU h.1.2 h1⟩, keepU4 h.2 h2⟩
/-- The copies that the program is given, with their boxes. -/
structure XAt (W : World) (tn gn g2 k2 g3 k3 : Nat) (ss : List ByteArray) (gs : List (Int × Int)) (n gx : Nat) (cs : List Co) (kd f : Int) (n2 m2 g0 k0 g1 k1 : Nat) (rs : List (Int × Int)) (os : List Ou) (bl bt : Nat) : Prop where
  led : LedAt W (some ⟨g2, 0, none⟩) tn (some ⟨g3, 0, none⟩) gn ss gs
  co : CAt W (some ⟨gx, 0, none⟩) n cs
  tx : TxAt W (some ⟨g0, 0, none⟩) n2 (some ⟨g1, 0, none⟩) m2 rs os
  lb : W.heap[bl]? = some (.cells #[.slice (some ⟨g2, 0, none⟩) tn k2, .slice (some ⟨g3, 0, none⟩) gn k3] 39 (0, 0))
  tb : W.heap[bt]? = some (.cells #[.int .i64 kd, .int .i64 f, .slice (some ⟨g0, 0, none⟩) n2 k0, .slice (some ⟨g1, 0, none⟩) m2 k1] 46 (0, 0))
theorem XAt.below {W W' : World} {tn gn g2 k2 g3 k3 : Nat} {ss : List ByteArray} {gs : List (Int × Int)} {n gx : Nat} {cs : List Co} {kd f : Int} {n2 m2 g0 k0 g1 k1 : Nat} {rs : List (Int × Int)} {os : List Ou} {bl bt : Nat} (h : XAt W tn gn g2 k2 g3 k3 ss gs n gx cs kd f n2 m2 g0 k0 g1 k1 rs os bl bt) (hb : Below W.heap.size W W') : XAt W' tn gn g2 k2 g3 k3 ss gs n gx cs kd f n2 m2 g0 k0 g1 k1 rs os bl bt :=
  ⟨h.led.below hb (Nat.le_refl _), h.co.below hb (Nat.le_refl _), h.tx.below hb (Nat.le_refl _), (keepb h.lb hb).out, (keepb h.tb hb).out⟩

set_option maxRecDepth 20000 in
set_option maxHeartbeats 16000000 in
theorem lawCheckTx (tn tc gn gc n c n2 ic m2 oc : Nat) (ta ga a ia oa : Option Addr) (ss : List ByteArray) (gs : List (Int × Int)) (cs : List Co) (kd f : Int) (rs : List (Int × Int)) (os : List Ou) (hgt : Int) (w : World) (htn : tn ≤ maxLen) (hgn : gn ≤ maxLen) (hn : n ≤ maxLen) (hn2 : n2 ≤ maxLen) (hm2 : m2 ≤ maxLen) (hf : Fine ss gs) (hg : w.cell? ⟨0, 0, none⟩ = some (.iface 219 (.agg #[.pointer (some ⟨8, 136, none⟩)]))) (hE : Ev w) (hL : LedAt w ta tn ga gn ss gs) (hC : CAt w a n cs) (hT : TxAt w ia n2 oa m2 rs os) :
    Calls Tryz.prog 3 #[.agg #[.slice ta tn tc, .slice ga gn gc], .slice a n c, .agg #[.int .i64 kd, .int .i64 f, .slice ia n2 ic, .slice oa m2 oc], .int .i64 hgt] w fun e w' => e = .returned (.bool true) ∧ Below w.heap.size w w' := by
  have HL : Hid (LedAt w ta tn ga gn ss gs) := hL
  have HT : Hid (CAt w a n cs) := hC
  have HG : Hid (TxAt w ia n2 oa m2 rs os) := hT
  have HN : Hid (cs.length = n) := hC.1
  have HN2 : Hid (rs.length = n2) := hT.r.1
  have HM2 : Hid (os.length = m2) := hT.o.1
  have HTN : Hid (ss.length = tn) := hL.s.1
  have HGN : Hid (gs.length = gn) := hL.g.1
  have HF : Hid (Fine ss gs) := hf
  have HGE : Hid (w.cell? ⟨0, 0, none⟩ = some (.iface 219 (.agg #[.pointer (some ⟨8, 136, none⟩)]))) := hg
  have HEV : Hid (Ev w) := hE
  obtain ⟨rc, hrc⟩ : ∃ x, x = (checkR ss gs cs kd f rs os hgt).1 := ⟨_, rfl⟩
  obtain ⟨fe, hfe⟩ : ∃ x, x = (checkR ss gs cs kd f rs os hgt).2 := ⟨_, rfl⟩
  have HAT : Hid ((checkR ss gs cs kd f rs os hgt).1 = rc ∧ (checkR ss gs cs kd f rs os hgt).2 = fe) := ⟨hrc.symm, hfe.symm⟩
  have HB0 : Hid (MBx w ((w.alloc (.cells #[.slice ta tn tc, .slice ga gn gc] 25)).alloc (.cells #[.int .i64 kd, .int .i64 f, .slice ia n2 ic, .slice oa m2 oc] 30)) ta tn tc ga gn gc kd f ia n2 ic oa m2 oc) := MBx.start
  obtain ⟨l0, l1⟩ := cells2 HB0.out.led
  have hsz := szL2_any tn gn tc gc ta ga ss gs 1048576 ((w.alloc (.cells #[.slice ta tn tc, .slice ga gn gc] 25)).alloc (.cells #[.int .i64 kd, .int .i64 f, .slice ia n2 ic, .slice oa m2 oc] 30)) (by omega) (by omega) htn hgn hf (hL.below HB0.out.bel (Nat.le_refl _))
  clear hrc hfe hL hC hT hf hg hE
  go_enter Tryz.func3, Tryz.ntmps3
  go_wp2_with (go_at_call 4; (with_reducible refine hsz.mono ?_); clear hsz; rintro e w1 ⟨r, rfl, hr, hb1⟩; have HB1 : Hid (MBx w w1 ta tn tc ga gn gc kd f ia n2 ic oa m2 oc) := HB0.out.step hb1; clear hb1 l0 l1)
  · go_ret
    exact ⟨rfl, HB1.out.bel⟩
  have hr0 : 0 ≤ r := by assumption
  rcases hr with e | ⟨_, hr1, hq1, hq2, _⟩
  · omega
  have htn3 : tn ≤ 1048576 := by omega
  have hgn3 : gn ≤ 1048576 := by omega
  clear hq1 hq2
  have hsz2 := szCs_any a n c cs r w1 hr0 hr1 hn (HT.out.below HB1.out.bel (Nat.le_refl _))
  refine hsz2.mono ?_
  clear hsz2
  rintro e w2 ⟨r2, rfl, hr2, hb2⟩
  have HB2 : Hid (MBx w w2 ta tn tc ga gn gc kd f ia n2 ic oa m2 oc) := HB1.out.step hb2
  clear hb2
  obtain ⟨p0, p1, p2, p3, _⟩ := cells4 HB2.out.tx
  go_wp2_with fail
  · go_ret
    exact ⟨rfl, HB2.out.bel⟩
  have hr3 : 0 ≤ r2 := by assumption
  rcases hr2 with e | ⟨_, hr4, hq1, hq2⟩
  · omega
  have hn3 : n ≤ 1048576 := by omega
  have HKC : Hid (∀ j, j < n → (cs.getD j C0).l.length ≤ 1048576) := fun j hj => by have := hq2 j hj; omega
  clear hq1 hq2 p0 p1 p2 p3
  have hsz3 := szTx_any kd f ia oa n2 m2 ic oc os r2 w2 hr3 (by omega) hn2 hm2 (HG.out.below HB2.out.bel (Nat.le_refl _)).o
  refine hsz3.mono ?_
  clear hsz3
  rintro e w3 ⟨r5, rfl, hr5, hb3⟩
  have HB3 : Hid (MBx w w3 ta tn tc ga gn gc kd f ia n2 ic oa m2 oc) := HB2.out.step hb3
  clear hb3
  go_wp2_with fail
  · go_ret
    exact ⟨rfl, HB3.out.bel⟩
  have hr6 : 0 ≤ r5 := by assumption
  rcases hr5 with e | ⟨_, hr7, hq1, hq2, hq3⟩
  · omega
  have hn4 : n2 ≤ 1048576 := by omega
  have hm4 : m2 ≤ 1048576 := by omega
  have HK : Hid (∀ j, j < m2 → (os.getD j O0).l.length ≤ 1048576) := fun j hj => by have := hq3 j hj; omega
  clear hq1 hq2 hq3 hr7
  have hSP : ∀ wb W g cc g0 k0 g1 k1 g2 k2 g3 k3, Hid (LCU W tn gn g2 k2 g3 k3 ss gs) → Hid (PU W g n cc cs) → Hid (TCU W n2 m2 g0 k0 g1 rs os) → Below (World.heap wb).size wb W → Calls Tryz.prog 7 #[.agg #[.slice (some ⟨g2, 0, none⟩) tn k2, .slice (some ⟨g3, 0, none⟩) gn k3], .slice (some ⟨g, 0, none⟩) n cc, .agg #[.int .i64 kd, .int .i64 f, .slice (some ⟨g0, 0, none⟩) n2 k0, .slice (some ⟨g1, 0, none⟩) m2 k1], .int .i64 hgt] W fun e w' => e = .returned (.agg #[.int .i64 rc, .int .i64 fe]) ∧ Hid (Below W.heap.size W w') ∧ Hid (Below wb.heap.size wb w') := fun wb W g cc g0 k0 g1 k1 g2 k2 g3 k3 h1 h2 h5 h3 => by
    obtain ⟨lo, hi, kv, q1, q2, q3⟩ := h2.out
    have := sCheckTx_any tn k2 gn k3 (some ⟨g2, 0, none⟩) (some ⟨g3, 0, none⟩) ss gs n cc lo hi (some ⟨g, 0, none⟩) cs kv n2 k0 m2 k1 (some ⟨g0, 0, none⟩) (some ⟨g1, 0, none⟩) kd f rs os hgt W HF.out h1.out.2.1 h1.out.2.2.1 h1.out.2.2.2.1 h1.out.2.2.2.2 h1.out.1 hn3 HKC.out HN.out q1 (by omega) hn4 hm4 h5.out.2.1 h5.out.2.2 HK.out h5.out.1
    rw [HAT.out.1, HAT.out.2] at this
    exact this.mono fun e w' ⟨e1, hb⟩ => ⟨e1, hb, h3.trans (hb.mono h3.size)⟩

  have HBW : Hid (Below w.heap.size w w3) := HB3.out.bel
  have hTL : ∀ V, Below w3.heap.size w3 V → Calls Tryz.prog 8 #[.agg #[.slice ta tn tc, .slice ga gn gc]] V fun e w' => ∃ g2 k2 g3 k3, e = .returned (.agg #[.slice (some ⟨g2, 0, none⟩) tn k2, .slice (some ⟨g3, 0, none⟩) gn k3]) ∧ Hid (LCU w' tn gn g2 k2 g3 k3 ss gs) ∧ Hid (Below V.heap.size V w') ∧ Hid (Below w3.heap.size w3 w') := fun V hV =>
    (toL_any ta ga tn gn tc gc ss gs V htn3 hgn3 ((HL.out.below HBW.out (Nat.le_refl _)).below hV (Nat.le_refl _))).mono fun e w' ⟨g2, k2, g3, k3, h1, h2, h5⟩ => ⟨g2, k2, g3, k3, h1, ⟨h2.led HTN.out HGN.out, h2.caps⟩, h5, hV.trans (h5.mono hV.size)⟩
  have hTA : ∀ V, Below w3.heap.size w3 V → Calls Tryz.prog 9 #[.slice a n c] V fun e w' => ∃ g cc, e = .returned (.slice (some ⟨g, 0, none⟩) n cc) ∧ Hid (PU w' g n cc cs) ∧ Hid (Below V.heap.size V w') ∧ Hid (Below w3.heap.size w3 w') := fun V hV =>
    (toCsO_any a n c cs V hn3 HKC.out ((HT.out.below HBW.out (Nat.le_refl _)).below hV (Nat.le_refl _))).mono fun e w' ⟨g, cc, kv, h1, h2, _, _, h5⟩ => ⟨g, cc, h1, ⟨_, _, kv, h2, h5.size, Nat.le_refl _⟩, h5, hV.trans (h5.mono hV.size)⟩
  have hTR : ∀ V, Below w3.heap.size w3 V → Calls Tryz.prog 10 #[.agg #[.int .i64 kd, .int .i64 f, .slice ia n2 ic, .slice oa m2 oc]] V fun e w' => ∃ g0 k0 g1 k1, e = .returned (.agg #[.int .i64 kd, .int .i64 f, .slice (some ⟨g0, 0, none⟩) n2 k0, .slice (some ⟨g1, 0, none⟩) m2 k1]) ∧ Hid (TCU w' n2 m2 g0 k0 g1 rs os) ∧ Hid (Below V.heap.size V w') ∧ Hid (Below w3.heap.size w3 w') := fun V hV =>
    (toTxO_any kd f ia oa n2 m2 ic oc rs os V hn4 hm4 HK.out ((HG.out.below HBW.out (Nat.le_refl _)).below hV (Nat.le_refl _))).mono fun e w' ⟨g0, k0, g1, k1, _, _, h1, h2, h5⟩ => ⟨g0, k0, g1, k1, h1, ⟨h2.at HN2.out HM2.out HK.out, h2.caps.1, h2.caps.2⟩, h5, hV.trans (h5.mono hV.size)⟩
  have d0 : Below w3.heap.size w3 w3.drew := (Below.refl _ _).drew
  have d1 : Below w3.heap.size w3 (w3.alloc (.cells #[.int .i64 0, .int .i64 0] 35)).drew := (below_box (.cells #[.int .i64 0, .int .i64 0] 35)).trans ((Below.refl _ _).drew)
  have HZ0 : Hid (ZIt w3 (w3.alloc (.cells #[.int .i64 0, .int .i64 0] 35)).drew w3.heap.size) := ⟨Nat.le_refl _, heap_alloc_new _ _⟩
  obtain ⟨lx0, lx1⟩ := cells2 HB3.out.led
  obtain ⟨bx0, bx1, bx2, bx3, _⟩ := cells4 HB3.out.tx
  have HSX : Hid (Six w3 w.heap.size (w.heap.size + 1) (.slice ta tn tc) (.slice ga gn gc) (.int .i64 kd) (.int .i64 f) (.slice ia n2 ic) (.slice oa m2 oc)) := ⟨⟨lx0, lx1⟩, bx0, bx1, bx2, bx3⟩
  have hbl := lt_of_block HB3.out.led
  have hbt := lt_of_block HB3.out.tx
  go_cut [10] (fun s wc => ∃ R, s = .pointer (some ⟨R, 0, none⟩) ∧ Hid (SRi w3 wc R rc fe))
  case first =>
    go_region_held3 (fun w' => (w'.cell? ⟨w.heap.size, 0, none⟩ = some (.slice ta tn tc) ∧ w'.cell? ⟨w.heap.size, 1, none⟩ = some (.slice ga gn gc)) ∧ w'.cell? ⟨w.heap.size + 1, 0, none⟩ = some (.int .i64 kd) ∧ w'.cell? ⟨w.heap.size + 1, 1, none⟩ = some (.int .i64 f) ∧ w'.cell? ⟨w.heap.size + 1, 2, none⟩ = some (.slice ia n2 ic) ∧ w'.cell? ⟨w.heap.size + 1, 3, none⟩ = some (.slice oa m2 oc)) (first | (with_reducible exact ⟨⟨xc0, xc1⟩, xc2, xc3, xc4, xc5⟩) | go_keep | exact Hxc.out.set HNE.out HNF.out)
      (first
        | (go_at_call 8; (first
            | ((with_reducible refine (hTL w3.drew d0).mono ?_); rintro e uL ⟨g2, k2, g3, k3, rfl, HLA, HLu, HLB⟩; have Hzl : Hid (Six _ w.heap.size (w.heap.size + 1) (.slice ta tn tc) (.slice ga gn gc) (.int .i64 kd) (.int .i64 f) (.slice ia n2 ic) (.slice oa m2 oc)) := HSX.out.go HLB.out hbl hbt; obtain ⟨⟨zl0, zl1⟩, zl2, zl3, zl4, zl5⟩ := Hzl.out)
            | ((with_reducible refine (hTL (w3.alloc (.cells #[.int .i64 0, .int .i64 0] 35)).drew d1).mono ?_); rintro e uL ⟨g2, k2, g3, k3, rfl, HLA, HLu, HLB⟩; have HZ := hidZI HZ0 HLu.out; have Hzl : Hid (Six _ w.heap.size (w.heap.size + 1) (.slice ta tn tc) (.slice ga gn gc) (.int .i64 kd) (.int .i64 f) (.slice ia n2 ic) (.slice oa m2 oc)) := HSX.out.go HLB.out hbl hbt; obtain ⟨⟨zl0, zl1⟩, zl2, zl3, zl4, zl5⟩ := Hzl.out)))
        | (go_at_call 9; (first
            | ((with_reducible refine (hTA uL HLB.out).mono ?_); rintro e uA ⟨g, cc, rfl, HPA, HA, HAB⟩; have HLC := hidLU HLA HA.out; (first | (have hz := HZ; clear HZ; have HZ := hidZI hz HA.out; clear hz) | skip); have Hza : Hid (Six _ w.heap.size (w.heap.size + 1) (.slice ta tn tc) (.slice ga gn gc) (.int .i64 kd) (.int .i64 f) (.slice ia n2 ic) (.slice oa m2 oc)) := HSX.out.go HAB.out hbl hbt; obtain ⟨⟨za0, za1⟩, za2, za3, za4, za5⟩ := Hza.out)
            | ((with_reducible refine (hTA (uL.alloc (.cells #[.int .i64 0, .int .i64 0] 35)) (HLB.out.trans ((below_box _).mono HLB.out.size))).mono ?_); rintro e uA ⟨g, cc, rfl, HPA, HA, HAB⟩; have HLC := hidLU (hidLU HLA (below_box (.cells #[.int .i64 0, .int .i64 0] 35))) HA.out; have HZ := hidZI (zit_new HLB) HA.out; have Hza : Hid (Six _ w.heap.size (w.heap.size + 1) (.slice ta tn tc) (.slice ga gn gc) (.int .i64 kd) (.int .i64 f) (.slice ia n2 ic) (.slice oa m2 oc)) := HSX.out.go HAB.out hbl hbt; obtain ⟨⟨za0, za1⟩, za2, za3, za4, za5⟩ := Hza.out)))
        | (go_at_call 10; (first
            | ((with_reducible refine (hTR uA HAB.out).mono ?_); rintro e uB ⟨g0, k0, g1, k1, rfl, HTB, HBu, HBB⟩; have HPB : Hid (PU uB g n cc cs) := hidPU HPA HBu.out; have HLD := hidLU HLC HBu.out; (first | (have hz := HZ; clear HZ; have HZ := hidZI hz HBu.out; clear hz) | skip); have Hyc : Hid (Six _ w.heap.size (w.heap.size + 1) (.slice ta tn tc) (.slice ga gn gc) (.int .i64 kd) (.int .i64 f) (.slice ia n2 ic) (.slice oa m2 oc)) := HSX.out.go HBB.out hbl hbt; obtain ⟨⟨yc0, yc1⟩, yc2, yc3, yc4, yc5⟩ := Hyc.out)
            | ((with_reducible refine (hTR (uA.alloc (.cells #[.int .i64 0, .int .i64 0] 35)) (HAB.out.trans ((below_box _).mono HAB.out.size))).mono ?_); rintro e uB ⟨g0, k0, g1, k1, rfl, HTB, HBu, HBB⟩; have HPB : Hid (PU uB g n cc cs) := hidPU (hidPU HPA (below_box (.cells #[.int .i64 0, .int .i64 0] 35))) HBu.out; have HLD := hidLU (hidLU HLC (below_box (.cells #[.int .i64 0, .int .i64 0] 35))) HBu.out; have HZ := hidZI (zit_new HAB) HBu.out; have Hyc : Hid (Six _ w.heap.size (w.heap.size + 1) (.slice ta tn tc) (.slice ga gn gc) (.int .i64 kd) (.int .i64 f) (.slice ia n2 ic) (.slice oa m2 oc)) := HSX.out.go HBB.out hbl hbt; obtain ⟨⟨yc0, yc1⟩, yc2, yc3, yc4, yc5⟩ := Hyc.out)))
        | (go_at_call 7; (first
            | ((with_reducible refine (hSP w3 uB g cc g0 k0 g1 k1 g2 k2 g3 k3 HLD HPB HTB HBB.out).mono ?_); rintro e uD ⟨rfl, HDu, HDD⟩; have Hxc : Hid (Six _ w.heap.size (w.heap.size + 1) (.slice ta tn tc) (.slice ga gn gc) (.int .i64 kd) (.int .i64 f) (.slice ia n2 ic) (.slice oa m2 oc)) := HSX.out.go HDD.out hbl hbt; obtain ⟨⟨xc0, xc1⟩, xc2, xc3, xc4, xc5⟩ := Hxc.out; (first | (have hz := HZ; have HZD := hidZI hz HDu.out; have HNE := zit_ne hbl HZD; have HNF := zit_ne hbt HZD; obtain ⟨y0, y1⟩ := cells2 HZD.out.blk; have f0 := Joins.unfrozen_of_block HZD.out.blk 0; have f1 := Joins.unfrozen_of_block HZD.out.blk 1) | skip))
            | ((with_reducible refine (hSP w3 (uB.alloc (.cells #[.int .i64 0, .int .i64 0] 35)) g cc g0 k0 g1 k1 g2 k2 g3 k3 (hidLU HLD (below_box (.cells #[.int .i64 0, .int .i64 0] 35))) (hidPU HPB (below_box (.cells #[.int .i64 0, .int .i64 0] 35))) (hidTU HTB (below_box (.cells #[.int .i64 0, .int .i64 0] 35))) (HBB.out.trans ((below_box _).mono HBB.out.size))).mono ?_); rintro e uD ⟨rfl, HDu, HDD⟩; have Hxc : Hid (Six _ w.heap.size (w.heap.size + 1) (.slice ta tn tc) (.slice ga gn gc) (.int .i64 kd) (.int .i64 f) (.slice ia n2 ic) (.slice oa m2 oc)) := HSX.out.go HDD.out hbl hbt; obtain ⟨⟨xc0, xc1⟩, xc2, xc3, xc4, xc5⟩ := Hxc.out; have hz := zit_new HBB; have HZD := hidZI hz HDu.out; have HNE := zit_ne hbl HZD; have HNF := zit_ne hbt HZD; obtain ⟨y0, y1⟩ := cells2 HZD.out.blk; have f0 := Joins.unfrozen_of_block HZD.out.blk 0; have f1 := Joins.unfrozen_of_block HZD.out.blk 1))))
    all_goals
      go_wp2
      go_meet
      first
        | exact ⟨_, rfl, sri_set HZD HDD⟩
        | exact ⟨_, rfl, sri_new HDD⟩
  case rest =>
    obtain ⟨wq, hwq⟩ : ∃ wq, wq = wc := ⟨_, rfl⟩
    subst hwq
    obtain ⟨R6, hs6, HS6⟩ := hcut
    subst hs6
    have HR6 : Hid (wq.heap[R6]? = some (.cells #[.int .i64 rc, .int .i64 fe] 35 (0, 0))) := HS6.out.2.2
    have HB5 : Hid (MBx w wq ta tn tc ga gn gc kd f ia n2 ic oa m2 oc) := HB3.out.step HS6.out.2.1
    clear HS6 hTL hTA hTR d0 d1 HZ0 lx0 lx1 bx0 bx1 bx2 bx3 HSX hbl hbt hSP
    obtain ⟨l0, l1⟩ := cells2 HB5.out.led
    have h6 := toL_any ta ga tn gn tc gc ss gs wq htn3 hgn3 (HL.out.below HB5.out.bel (Nat.le_refl _))
    go_wp2_with (first
      | (go_at_call 8; have hq := h6; clear h6; (with_reducible refine hq.mono ?_); clear hq; rintro e w7 ⟨g2, k2, g3, k3, rfl, ho7, hb7⟩; have HL7 : Hid (LedAt (w7.alloc (.cells #[.slice (some ⟨g2, 0, none⟩) tn k2, .slice (some ⟨g3, 0, none⟩) gn k3] 39)) (some ⟨g2, 0, none⟩) tn (some ⟨g3, 0, none⟩) gn ss gs) := (ho7.led HTN.out HGN.out).below (below_box _) (Nat.le_refl _); have HCP : Hid (tn ≤ k2 ∧ gn ≤ k3 ∧ k2 ≤ maxLen ∧ k3 ≤ maxLen) := ho7.caps; have HLX7 : Hid ((w7.alloc (.cells #[.slice (some ⟨g2, 0, none⟩) tn k2, .slice (some ⟨g3, 0, none⟩) gn k3] 39)).heap[w7.heap.size]? = some (.cells #[.slice (some ⟨g2, 0, none⟩) tn k2, .slice (some ⟨g3, 0, none⟩) gn k3] 39 (0, 0))) := heap_alloc_new _ _; have HB7 : Hid (MBx w (w7.alloc (.cells #[.slice (some ⟨g2, 0, none⟩) tn k2, .slice (some ⟨g3, 0, none⟩) gn k3] 39)) ta tn tc ga gn gc kd f ia n2 ic oa m2 oc) := (HB5.out.step hb7).step (below_box _); have HW7 : Hid (Below wq.heap.size wq (w7.alloc (.cells #[.slice (some ⟨g2, 0, none⟩) tn k2, .slice (some ⟨g3, 0, none⟩) gn k3] 39))) := hb7.trans ((below_box _).mono hb7.size); clear ho7 hb7 l0 l1; have h7 := toCsO_any a n c cs (w7.alloc (.cells #[.slice (some ⟨g2, 0, none⟩) tn k2, .slice (some ⟨g3, 0, none⟩) gn k3] 39)) hn3 HKC.out (HT.out.below HB7.out.bel (Nat.le_refl _)))
      | (go_at_call 9; have hq := h7; clear h7; (with_reducible refine hq.mono ?_); clear hq; rintro e w8 ⟨gx, cx, kvx, rfl, hrow, _, _, hb8⟩; have HC8 : Hid (CAt w8 (some ⟨gx, 0, none⟩) n cs) := own_at2 hrow HN.out HKC.out; have HL8 : Hid (LedAt w8 (some ⟨g2, 0, none⟩) tn (some ⟨g3, 0, none⟩) gn ss gs) := HL7.out.below hb8 (Nat.le_refl _); have HLX8 : Hid (w8.heap[w7.heap.size]? = some (.cells #[.slice (some ⟨g2, 0, none⟩) tn k2, .slice (some ⟨g3, 0, none⟩) gn k3] 39 (0, 0))) := keepb HLX7.out hb8; have HB8 : Hid (MBx w w8 ta tn tc ga gn gc kd f ia n2 ic oa m2 oc) := HB7.out.step hb8; have HW8 : Hid (Below wq.heap.size wq w8) := HW7.out.trans (hb8.mono HW7.out.size); clear hrow hb8; obtain ⟨p0, p1, p2, p3, _⟩ := cells4 HB8.out.tx; have h8 := toTxO_any kd f ia oa n2 m2 ic oc rs os w8 hn4 hm4 HK.out (HG.out.below HB8.out.bel (Nat.le_refl _)))
      | (go_at_call 10; have hq := h8; clear h8; (with_reducible refine hq.mono ?_); clear hq; rintro e w9 ⟨g0, k0, g1, k1, mid, kv, rfl, hto, hb9⟩; have hbz : Below w8.heap.size w8 (w9.alloc (.cells #[.int .i64 kd, .int .i64 f, .slice (some ⟨g0, 0, none⟩) n2 k0, .slice (some ⟨g1, 0, none⟩) m2 k1] 46)) := hb9.trans ((below_box _).mono hb9.size); have HX9 : Hid (XAt (w9.alloc (.cells #[.int .i64 kd, .int .i64 f, .slice (some ⟨g0, 0, none⟩) n2 k0, .slice (some ⟨g1, 0, none⟩) m2 k1] 46)) tn gn g2 k2 g3 k3 ss gs n gx cs kd f n2 m2 g0 k0 g1 k1 rs os w7.heap.size w9.heap.size) := ⟨HL8.out.below hbz (Nat.le_refl _), HC8.out.below hbz (Nat.le_refl _), (hto.at HN2.out HM2.out HK.out).below (below_box _) (Nat.le_refl _), (keepb HLX8.out hbz).out, heap_alloc_new _ _⟩; have HCT : Hid (n2 ≤ k0 ∧ k0 ≤ maxLen) := ⟨hto.caps.1, hto.caps.2⟩; have HB9 : Hid (MBx w (w9.alloc (.cells #[.int .i64 kd, .int .i64 f, .slice (some ⟨g0, 0, none⟩) n2 k0, .slice (some ⟨g1, 0, none⟩) m2 k1] 46)) ta tn tc ga gn gc kd f ia n2 ic oa m2 oc) := HB8.out.step hbz; have HW9 : Hid (Below wq.heap.size wq (w9.alloc (.cells #[.int .i64 kd, .int .i64 f, .slice (some ⟨g0, 0, none⟩) n2 k0, .slice (some ⟨g1, 0, none⟩) m2 k1] 46))) := HW8.out.trans (hbz.mono HW8.out.size); clear hto hb9 hbz p0 p1 p2 p3; obtain ⟨x0, x1⟩ := cells2 HX9.out.lb; have h9 := iCheckTx_any tn k2 gn k3 (some ⟨g2, 0, none⟩) (some ⟨g3, 0, none⟩) ss gs n cx (some ⟨gx, 0, none⟩) cs n2 k0 m2 k1 (some ⟨g0, 0, none⟩) (some ⟨g1, 0, none⟩) kd f rs os hgt (w9.alloc (.cells #[.int .i64 kd, .int .i64 f, .slice (some ⟨g0, 0, none⟩) n2 k0, .slice (some ⟨g1, 0, none⟩) m2 k1] 46)) (keptG HGE.out HB9.out.bel) (HEV.out.below HB9.out.bel (Nat.le_refl _)) HF.out HX9.out.led hn3 HKC.out HX9.out.co hn4 hm4 HCT.out.1 HCT.out.2 HK.out HX9.out.tx; rw [HAT.out.1, HAT.out.2] at h9)
      | (go_at_call 11; have hq := h9; clear h9; (with_reducible refine hq.mono ?_); clear hq; rintro e w10 ⟨rfl, hb10⟩; have hbz : Below (w9.alloc (.cells #[.int .i64 kd, .int .i64 f, .slice (some ⟨g0, 0, none⟩) n2 k0, .slice (some ⟨g1, 0, none⟩) m2 k1] 46)).heap.size (w9.alloc (.cells #[.int .i64 kd, .int .i64 f, .slice (some ⟨g0, 0, none⟩) n2 k0, .slice (some ⟨g1, 0, none⟩) m2 k1] 46)) (w10.alloc (.cells #[.int .i64 rc, .int .i64 fe] 35)) := hb10.trans ((below_box _).mono hb10.size); have HXA : Hid (XAt (w10.alloc (.cells #[.int .i64 rc, .int .i64 fe] 35)) tn gn g2 k2 g3 k3 ss gs n gx cs kd f n2 m2 g0 k0 g1 k1 rs os w7.heap.size w9.heap.size) := HX9.out.below hbz; have HBA : Hid (MBx w (w10.alloc (.cells #[.int .i64 rc, .int .i64 fe] 35)) ta tn tc ga gn gc kd f ia n2 ic oa m2 oc) := HB9.out.step hbz; have HWA : Hid (Below wq.heap.size wq (w10.alloc (.cells #[.int .i64 rc, .int .i64 fe] 35))) := HW9.out.trans (hbz.mono HW9.out.size); clear hb10 hbz x0 x1; obtain ⟨y2, y3⟩ := cells2 ((HWA.out.block R6 (lt_of_block HR6.out)).trans HR6.out); have hA := eqIntR_any rc fe (w10.alloc (.cells #[.int .i64 rc, .int .i64 fe] 35)))
      | (go_at_call 12; have hq := hA; clear hA; (with_reducible refine hq.mono ?_); clear hq; rintro e w11 ⟨rfl, hb11⟩; have HX11 : Hid (XAt w11 tn gn g2 k2 g3 k3 ss gs n gx cs kd f n2 m2 g0 k0 g1 k1 rs os w7.heap.size w9.heap.size) := HXA.out.below hb11; have HB11 : Hid (MBx w w11 ta tn tc ga gn gc kd f ia n2 ic oa m2 oc) := HBA.out.step hb11; clear hb11 y2 y3))
    obtain ⟨x0, x1⟩ := cells2 HX11.out.lb
    obtain ⟨q0, q1⟩ := cells2 HB11.out.led
    have hl6 := lt_of_block HX11.out.lb
    have hl0 := lt_of_block HB11.out.led
    have hto8 : Calls Tryz.prog 8 #[.agg #[.slice ta tn tc, .slice ga gn gc]] w11.drew fun e w' => ∃ g4 k4 g5 k5, e = .returned (.agg #[.slice (some ⟨g4, 0, none⟩) tn k4, .slice (some ⟨g5, 0, none⟩) gn k5]) ∧ Hid (LedAt w' (some ⟨g4, 0, none⟩) tn (some ⟨g5, 0, none⟩) gn ss gs) ∧ Below w11.heap.size w11 w' :=
      (toL_any ta ga tn gn tc gc ss gs w11.drew htn3 hgn3 ((HL.out.below HB11.out.bel (Nat.le_refl _)).below (Below.refl _ _).drew (Nat.le_refl _))).mono fun e w' ⟨a, b, c, d, h1, h2, h3⟩ => ⟨a, b, c, d, h1, h2.led HTN.out HGN.out, (Below.refl _ _).drew.trans h3⟩
    go_region_held3 (fun w' => (w'.cell? ⟨w7.heap.size, 0, none⟩ = some (.slice (some ⟨g2, 0, none⟩) tn k2) ∧ w'.cell? ⟨w7.heap.size, 1, none⟩ = some (.slice (some ⟨g3, 0, none⟩) gn k3)) ∧ w'.cell? ⟨w.heap.size, 0, none⟩ = some (.slice ta tn tc) ∧ w'.cell? ⟨w.heap.size, 1, none⟩ = some (.slice ga gn gc)) (go_keep)
      (first
        | (go_at_call 8; (with_reducible refine hto8.mono ?_); rintro e w12 ⟨g4, k4, g5, k5, rfl, HL12, hb12⟩; have z0 := (hb12.cell (p := ⟨w7.heap.size, 0, none⟩) hl6).trans x0; have z1 := (hb12.cell (p := ⟨w7.heap.size, 1, none⟩) hl6).trans x1; have z2 := (hb12.cell (p := ⟨w.heap.size, 0, none⟩) hl0).trans q0; have z3 := (hb12.cell (p := ⟨w.heap.size, 1, none⟩) hl0).trans q1)
        | (go_at_call 13; refine (eqL_any _ _ _ _ tn gn k2 k4 k3 k5 ss gs _ htn3 hgn3 (HX11.out.led.below hb12 (Nat.le_refl _)) HL12.out).mono ?_; rintro e w13 ⟨rfl, hb13⟩; have hs12 := hb12.size; have v0 := (hb13.cell (p := ⟨w7.heap.size, 0, none⟩) (Nat.lt_of_lt_of_le hl6 hs12)).trans z0; have v1 := (hb13.cell (p := ⟨w7.heap.size, 1, none⟩) (Nat.lt_of_lt_of_le hl6 hs12)).trans z1; have v2 := (hb13.cell (p := ⟨w.heap.size, 0, none⟩) (Nat.lt_of_lt_of_le hl0 hs12)).trans z2; have v3 := (hb13.cell (p := ⟨w.heap.size, 1, none⟩) (Nat.lt_of_lt_of_le hl0 hs12)).trans z3))
    have hbz : Below w11.heap.size w11 w13 := hb12.trans (hb13.mono hb12.size)
    have HX13 : Hid (XAt w13 tn gn g2 k2 g3 k3 ss gs n gx cs kd f n2 m2 g0 k0 g1 k1 rs os w7.heap.size w9.heap.size) := HX11.out.below hbz
    have HB13 : Hid (MBx w w13 ta tn tc ga gn gc kd f ia n2 ic oa m2 oc) := HB11.out.step hbz
    clear hbz hb12 hb13 x0 x1 q0 q1 z0 z1 z2 z3 v0 v1 v2 v3 hto8 hl6 hl0 hs12 HL12
    have h13 := toCs_any a n c cs w13 hn3 HKC.out (HT.out.below HB13.out.bel (Nat.le_refl _))
    go_wp2_with (first
      | (go_at_call 9; have hq := h13; clear h13; (with_reducible refine hq.mono ?_); clear hq; rintro e w14 ⟨g14, c14, rfl, hrow, _, _, hb14⟩; have HX14 : Hid (XAt w14 tn gn g2 k2 g3 k3 ss gs n gx cs kd f n2 m2 g0 k0 g1 k1 rs os w7.heap.size w9.heap.size) := HX13.out.below hb14; have HB14 : Hid (MBx w w14 ta tn tc ga gn gc kd f ia n2 ic oa m2 oc) := HB13.out.step hb14; have h14 := eqCs_any (some ⟨gx, 0, none⟩) (some ⟨g14, 0, none⟩) n cx c14 cs w14 hn3 HKC.out HX14.out.co hrow.at; clear hrow hb14)
      | (go_at_call 14; have hq := h14; clear h14; (with_reducible refine hq.mono ?_); clear hq; rintro e w15 ⟨rfl, hb15⟩; have HX15 : Hid (XAt w15 tn gn g2 k2 g3 k3 ss gs n gx cs kd f n2 m2 g0 k0 g1 k1 rs os w7.heap.size w9.heap.size) := HX14.out.below hb15; have HB15 : Hid (MBx w w15 ta tn tc ga gn gc kd f ia n2 ic oa m2 oc) := HB14.out.step hb15; clear hb15))
    obtain ⟨x0, x1, x2, x3, _⟩ := cells4 HX15.out.tb
    obtain ⟨p0, p1, p2, p3, _⟩ := cells4 HB15.out.tx
    have hl4 := lt_of_block HX15.out.tb
    have hl0 := lt_of_block HB15.out.tx
    have hto : Calls Tryz.prog 10 #[.agg #[.int .i64 kd, .int .i64 f, .slice ia n2 ic, .slice oa m2 oc]] w15.drew fun e w' => ∃ g0 k0 g1 k1, e = .returned (.agg #[.int .i64 kd, .int .i64 f, .slice (some ⟨g0, 0, none⟩) n2 k0, .slice (some ⟨g1, 0, none⟩) m2 k1]) ∧ Hid (TCU w' n2 m2 g0 k0 g1 rs os) ∧ Below w15.heap.size w15 w' :=
      (toTxO_any kd f ia oa n2 m2 ic oc rs os w15.drew hn4 hm4 HK.out ((HG.out.below HB15.out.bel (Nat.le_refl _)).below (Below.refl _ _).drew (Nat.le_refl _))).mono fun e w' ⟨g0, k0, g1, k1, _, _, h1, h2, h5⟩ => ⟨g0, k0, g1, k1, h1, ⟨h2.at HN2.out HM2.out HK.out, h2.caps.1, h2.caps.2⟩, (Below.refl _ _).drew.trans h5⟩
    go_region_held3 (fun w' => (w'.cell? ⟨w9.heap.size, 0, none⟩ = some (.int .i64 kd) ∧ w'.cell? ⟨w9.heap.size, 1, none⟩ = some (.int .i64 f) ∧ w'.cell? ⟨w9.heap.size, 2, none⟩ = some (.slice (some ⟨g0, 0, none⟩) n2 k0) ∧ w'.cell? ⟨w9.heap.size, 3, none⟩ = some (.slice (some ⟨g1, 0, none⟩) m2 k1)) ∧ w'.cell? ⟨w.heap.size + 1, 0, none⟩ = some (.int .i64 kd) ∧ w'.cell? ⟨w.heap.size + 1, 1, none⟩ = some (.int .i64 f) ∧ w'.cell? ⟨w.heap.size + 1, 2, none⟩ = some (.slice ia n2 ic) ∧ w'.cell? ⟨w.heap.size + 1, 3, none⟩ = some (.slice oa m2 oc)) (go_keep)
      (first
        | (go_at_call 10; (with_reducible refine hto.mono ?_); rintro e w16 ⟨h0, j0, h1, j1, rfl, HT16, hb16⟩; obtain ⟨z0, z1, z2, z3⟩ := keepF hl4 hb16 ⟨x0, x1, x2, x3⟩; obtain ⟨z4, z5, z6, z7⟩ := keepF hl0 hb16 ⟨p0, p1, p2, p3⟩)
        | (go_at_call 15; refine (eqTx_any kd f _ _ _ _ n2 m2 k0 j0 k1 j1 rs os _ hn4 hm4 HK.out (HX15.out.tx.below hb16 (Nat.le_refl _)) HT16.out.1).mono ?_; rintro e w17 ⟨rfl, hb17⟩; have hs6 := hb16.size; obtain ⟨y0, y1, y2, y3⟩ := keepF (Nat.lt_of_lt_of_le hl4 hs6) hb17 ⟨z0, z1, z2, z3⟩; obtain ⟨y4, y5, y6, y7⟩ := keepF (Nat.lt_of_lt_of_le hl0 hs6) hb17 ⟨z4, z5, z6, z7⟩))
    have HB17 : Hid (MBx w w17 ta tn tc ga gn gc kd f ia n2 ic oa m2 oc) := (HB15.out.step hb16).step hb17
    go_wp2
    go_ret
    exact ⟨rfl, HB17.out.bel⟩

end Go.Proofs.YtjgilpkkfpbefaaGreatDoor
