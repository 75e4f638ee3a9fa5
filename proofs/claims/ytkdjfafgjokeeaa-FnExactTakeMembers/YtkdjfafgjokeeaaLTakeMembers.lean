/- The law on TakeMembers answers true, whatever comes in, and writes nothing that was there. -/
import Derived.Test.YtkdjfafgjokeeaaEl
import Derived.Test.YtkdjfafgjokeeaaEu
import Derived.Test.YtkdjfafgjokeeaaEv
import Derived.Test.YtkdjfafgjokeeaaEh
import Derived.Test.YtkdjfafgjokeeaaLTxFault
import Derived.Deep.DeepCutAuto
namespace Go.Proofs.Ytkdjfafgjokeeaa
open Go.RowKit Go.Maps Go.WideMaps

/-- A result of members in block R: its code, its members in memory of their own. -/
def SRm (w1 wc : World) (R : Nat) (cd : Int) (res : List Mb) : Prop :=
  w1.heap.size ≤ R ∧ Below w1.heap.size w1 wc ∧ ∃ va vc, wc.heap[R]? = some (.cells #[.int .i64 cd, .slice va res.length vc] 31 (0, 0)) ∧ MAt wc va res.length res
theorem srm_set {w1 uC : World} {R lo : Nat} {cd : Int} {res : List Mb} {va : Option Addr} {vc : Nat} (HOC : Hid (World.ownsRow uC lo 57 3 (.slice va res.length vc) res.length (mcells res))) (HCC : Hid (Below w1.heap.size w1 uC)) (HZ : Hid (uC.heap[R]? = some (.cells #[.int .i64 0, .slice none 0 0] 31 (0, 0)))) (hR1 : w1.heap.size ≤ R) (hR2 : R < lo) :
    Hid (SRm w1 ((uC.setCell ⟨R, 0, none⟩ (.int .i64 cd)).setCell ⟨R, 1, none⟩ (.slice va res.length vc)) R cd res) := by
  have b1 := Joins.block_setCell (i := 0) HZ.out (.int .i64 cd)
  have b2 := Joins.block_setCell (i := 1) b1 (.slice va res.length vc)
  exact ⟨hR1, (HCC.out.setCell (p := ⟨R, 0, none⟩) hR1 _).setCell (p := ⟨R, 1, none⟩) hR1 _, va, vc, b2, mat_row (ownsRow_setCell_below (ownsRow_setCell_below HOC.out (a := ⟨R, 0, none⟩) hR2 _) (a := ⟨R, 1, none⟩) hR2 _) rfl⟩
theorem srm_new {w1 uC : World} {lo : Nat} {cd : Int} {res : List Mb} {va : Option Addr} {vc : Nat} (HOC : Hid (World.ownsRow uC lo 57 3 (.slice va res.length vc) res.length (mcells res))) (HCC : Hid (Below w1.heap.size w1 uC)) :
    Hid (SRm w1 (uC.alloc (.cells #[.int .i64 cd, .slice va res.length vc] 31)) uC.heap.size cd res) :=
  ⟨HCC.out.size, HCC.out.trans ((below_box _).mono HCC.out.size), va, vc, heap_alloc_new _ _, mat_row (HOC.out.alloc _) rfl⟩
theorem keepS {W : World} {b i R : Nat} {v u u' : Value} (h : W.cell? ⟨b, i, none⟩ = some v) (hne : b ≠ R) : ((W.setCell ⟨R, 0, none⟩ u).setCell ⟨R, 1, none⟩ u').cell? ⟨b, i, none⟩ = some v :=
  (World.cell?_of_block ((Below.heap_setCell _ ⟨R, 1, none⟩ u' b hne).trans (Below.heap_setCell _ ⟨R, 0, none⟩ u b hne))).trans h
theorem keepS4 {W : World} {b R : Nat} {v0 v1 v2 v3 u u' : Value} (h : W.cell? ⟨b, 0, none⟩ = some v0 ∧ W.cell? ⟨b, 1, none⟩ = some v1 ∧ W.cell? ⟨b, 2, none⟩ = some v2 ∧ W.cell? ⟨b, 3, none⟩ = some v3) (hne : b ≠ R) :
    ((W.setCell ⟨R, 0, none⟩ u).setCell ⟨R, 1, none⟩ u').cell? ⟨b, 0, none⟩ = some v0 ∧ ((W.setCell ⟨R, 0, none⟩ u).setCell ⟨R, 1, none⟩ u').cell? ⟨b, 1, none⟩ = some v1 ∧ ((W.setCell ⟨R, 0, none⟩ u).setCell ⟨R, 1, none⟩ u').cell? ⟨b, 2, none⟩ = some v2 ∧ ((W.setCell ⟨R, 0, none⟩ u).setCell ⟨R, 1, none⟩ u').cell? ⟨b, 3, none⟩ = some v3 :=
  ⟨keepS h.1 hne, keepS h.2.1 hne, keepS h.2.2.1 hne, keepS h.2.2.2 hne⟩
theorem cellsB {B : Nat} {w w' : World} {b : Nat} {v0 v1 v2 v3 : Value} (hb : Below B w w') (hl : b < B) (h : w.cell? ⟨b, 0, none⟩ = some v0 ∧ w.cell? ⟨b, 1, none⟩ = some v1 ∧ w.cell? ⟨b, 2, none⟩ = some v2 ∧ w.cell? ⟨b, 3, none⟩ = some v3) :
    w'.cell? ⟨b, 0, none⟩ = some v0 ∧ w'.cell? ⟨b, 1, none⟩ = some v1 ∧ w'.cell? ⟨b, 2, none⟩ = some v2 ∧ w'.cell? ⟨b, 3, none⟩ = some v3 :=
  ⟨(hb.cell (p := ⟨b, 0, none⟩) hl).trans h.1, (hb.cell (p := ⟨b, 1, none⟩) hl).trans h.2.1, (hb.cell (p := ⟨b, 2, none⟩) hl).trans h.2.2.1, (hb.cell (p := ⟨b, 3, none⟩) hl).trans h.2.2.2⟩

/-- A copy of a transaction that can be read. -/
def TC (W : World) (n2 m2 g0 c0 g1 : Nat) (rs : List (Int × Int)) (os : List Ou) : Prop := TxAt W (some ⟨g0, 0, none⟩) n2 (some ⟨g1, 0, none⟩) m2 rs os ∧ n2 ≤ c0 ∧ c0 ≤ maxLen ∧ g0 < W.heap.size
theorem TC.below {W W' : World} {n2 m2 g0 c0 g1 : Nat} {rs : List (Int × Int)} {os : List Ou} (h : TC W n2 m2 g0 c0 g1 rs os) (hb : Below W.heap.size W W') : TC W' n2 m2 g0 c0 g1 rs os := ⟨h.1.below hb (Nat.le_refl _), h.2.1, h.2.2.1, Nat.lt_of_lt_of_le h.2.2.2 hb.size⟩
theorem hidM {W W' : World} {a : Option Addr} {n : Nat} {ms : List Mb} (h : Hid (MAt W a n ms)) (hb : Below W.heap.size W W') : Hid (MAt W' a n ms) := h.out.below hb (Nat.le_refl _)
theorem hidT {W W' : World} {n2 m2 g0 c0 g1 : Nat} {rs : List (Int × Int)} {os : List Ou} (h : Hid (TC W n2 m2 g0 c0 g1 rs os)) (hb : Below W.heap.size W W') : Hid (TC W' n2 m2 g0 c0 g1 rs os) := h.out.below hb
theorem mk_eq {w : World} {f : Nat} {v : Value} {K K1 : Nat} {Q : World → Prop} (hK : K = K1) (h : Calls Try.prog f #[v, .int .i64 ((1 : Nat) : Int)] w fun e w' => e = .returned (.int .i64 (K : Nat)) ∧ Q w') : Calls Try.prog f #[v, .int .i64 1] w fun e w' => e = .returned (.int .i64 (K1 : Nat)) ∧ Q w' := by subst hK; exact h
theorem tmR_few {ms : List Mb} {kd f id : Int} {rs : List (Int × Int)} {os : List Ou} : (tmR ms kd f rs os id).2.length ≤ 1000 := by
  unfold tmR
  by_cases h0 : memsR ms ≠ 0
  · rw [if_pos h0]; simp
  · rw [if_neg h0]
    by_cases h1 : txR kd f rs os ≠ 0
    · rw [if_pos h1]; simp
    · rw [if_neg h1]
      by_cases h2 : inB id 1 60 = false
      · rw [if_pos h2]; simp
      · rw [if_neg h2]; exact takeMR_few (mems_few rfl (Classical.not_not.1 h0))

set_option maxRecDepth 20000 in
set_option maxHeartbeats 8000000 in
theorem lawTakeMembers (n c n2 ic m2 oc : Nat) (a ia oa : Option Addr) (ms : List Mb) (kd f id : Int) (rs : List (Int × Int)) (os : List Ou) (w : World) (hn : n ≤ maxLen) (hn2 : n2 ≤ maxLen) (hm2 : m2 ≤ maxLen) (hC : MAt w a n ms) (hT : TxAt w ia n2 oa m2 rs os) :
    Calls Try.prog 3 #[.slice a n c, .agg #[.int .i64 kd, .int .i64 f, .slice ia n2 ic, .slice oa m2 oc], .int .i64 id] w fun e w' => e = .returned (.bool true) ∧ Below w.heap.size w w' := by
  have HT : Hid (MAt w a n ms) := hC
  have HN : Hid (ms.length = n) := hC.1
  have HG : Hid (TxAt w ia n2 oa m2 rs os) := hT
  have HN2 : Hid (rs.length = n2) := hT.r.1
  have HM2 : Hid (os.length = m2) := hT.o.1
  obtain ⟨cd, hcd⟩ : ∃ x, x = (tmR ms kd f rs os id).1 := ⟨_, rfl⟩
  obtain ⟨res, hres⟩ : ∃ x, x = (tmR ms kd f rs os id).2 := ⟨_, rfl⟩
  have HAT : Hid ((tmR ms kd f rs os id).1 = cd ∧ (tmR ms kd f rs os id).2 = res) := ⟨hcd.symm, hres.symm⟩
  have hrl : res.length ≤ 1048576 := by rw [hres]; exact Nat.le_trans tmR_few (by omega)
  have HB0 : Hid (TBx w (w.alloc (.cells #[.int .i64 kd, .int .i64 f, .slice ia n2 ic, .slice oa m2 oc] 26)) kd f ia n2 ic oa m2 oc 26) := TBx.start
  have hsz := szMs_any a n c 1048576 (w.alloc (.cells #[.int .i64 kd, .int .i64 f, .slice ia n2 ic, .slice oa m2 oc] 26)) (by omega) (by omega) hn
  clear hcd hres hC hT
  go_enter Try.func3, Try.ntmps3
  go_wp2_with (go_at_call 4; (with_reducible refine hsz.mono ?_); clear hsz; rintro e w1 ⟨r, rfl, hw1, hr⟩; have hw2 := hw1.symm; subst hw2; clear hw1)
  · go_ret
    exact ⟨rfl, HB0.out.bel⟩
  have hr0 : 0 ≤ r := by assumption
  rcases hr with e | ⟨_, hr1, hq1⟩
  · omega
  have hn3 : n ≤ 1048576 := by omega
  clear hq1
  have hsz2 := szTx_any kd f ia oa n2 m2 ic oc os r (w.alloc (.cells #[.int .i64 kd, .int .i64 f, .slice ia n2 ic, .slice oa m2 oc] 26)) hr0 hr1 hn2 hm2 (HB0.out.at HG.out).o
  refine hsz2.mono ?_
  clear hsz2
  rintro e w1 ⟨r2, rfl, hr2, hb1⟩
  have HB1 : Hid (TBx w w1 kd f ia n2 ic oa m2 oc 26) := HB0.out.step hb1
  clear hb1
  go_wp2_with fail
  · go_ret
    exact ⟨rfl, HB1.out.bel⟩
  have hr3 : 0 ≤ r2 := by assumption
  rcases hr2 with e | ⟨_, _, hq1, hq2, hq3⟩
  · omega
  have hn4 : n2 ≤ 1048576 := by omega
  have hm4 : m2 ≤ 1048576 := by omega
  have HK : Hid (∀ j, j < m2 → (os.getD j O0).l.length ≤ 1048576) := fun j hj => by have := hq3 j hj; omega
  clear hq1 hq2 hq3
  have hSP : ∀ wb W a' cc g0 k0 g1 k1, Hid (MAt W a' n ms) → Hid (TC W n2 m2 g0 k0 g1 rs os) → Below (World.heap wb).size wb W → Calls Try.prog 6 #[.slice a' n cc, .agg #[.int .i64 kd, .int .i64 f, .slice (some ⟨g0, 0, none⟩) n2 k0, .slice (some ⟨g1, 0, none⟩) m2 k1], .int .i64 id] W fun e w' => ∃ va vc, e = .returned (.agg #[.int .i64 cd, .slice va res.length vc]) ∧ Hid (World.ownsRow w' W.heap.size 57 3 (.slice va res.length vc) res.length (mcells res)) ∧ Hid (Below W.heap.size W w') ∧ Hid (Below wb.heap.size wb w') := fun wb W a' cc g0 k0 g1 k1 h1 h2 h3 => by
    have := sTakeMembers_any n cc n2 k0 m2 k1 a' (some ⟨g0, 0, none⟩) (some ⟨g1, 0, none⟩) ms kd f id rs os W hn3 hn4 hm4 h2.out.2.1 h2.out.2.2.1 HK.out h1.out h2.out.1
    rw [HAT.out.1, HAT.out.2] at this
    exact this.mono fun e w' ⟨va, vc, e1, hO, hb⟩ => ⟨va, vc, e1, hO, hb, h3.trans (hb.mono h3.size)⟩
  have hIM : ∀ wb W a' cc g0 k0 g1 k1, Hid (MAt W a' n ms) → Hid (TC W n2 m2 g0 k0 g1 rs os) → Below (World.heap wb).size wb W → Calls Try.prog 9 #[.slice a' n cc, .agg #[.int .i64 kd, .int .i64 f, .slice (some ⟨g0, 0, none⟩) n2 k0, .slice (some ⟨g1, 0, none⟩) m2 k1], .int .i64 id] W fun e w' => ∃ va vc, e = .returned (.agg #[.int .i64 cd, .slice va res.length vc]) ∧ Hid (World.ownsRow w' W.heap.size 57 3 (.slice va res.length vc) res.length (mcells res)) ∧ Hid (Below W.heap.size W w') ∧ Hid (Below wb.heap.size wb w') := fun wb W a' cc g0 k0 g1 k1 h1 h2 h3 => by
    have := iTakeMembers_any n cc n2 k0 m2 k1 a' (some ⟨g0, 0, none⟩) (some ⟨g1, 0, none⟩) ms kd f id rs os W hn3 hn4 hm4 h2.out.2.1 h2.out.2.2.1 HK.out h1.out h2.out.1 (fun b o e => by cases e; exact h2.out.2.2.2)
    rw [HAT.out.1, HAT.out.2] at this
    exact this.mono fun e w' ⟨va, vc, e1, hO, hb⟩ => ⟨va, vc, e1, hO, hb, h3.trans (hb.mono h3.size)⟩
  have HCW : Hid (MAt w1 a n ms) := HT.out.below HB1.out.bel (Nat.le_refl _)
  have HGW : Hid (TxAt w1 ia n2 oa m2 rs os) := HB1.out.at HG.out
  have HXW := show Hid (w1.heap[w.heap.size]? = some (.cells #[.int .i64 kd, .int .i64 f, .slice ia n2 ic, .slice oa m2 oc] 26 (0, 0))) from HB1.out.box
  have hTA : ∀ V, Below w1.heap.size w1 V → Calls Try.prog 7 #[.slice a n c] V fun e w' => ∃ g cc, e = .returned (.slice (some ⟨g, 0, none⟩) n cc) ∧ Hid (MAt w' (some ⟨g, 0, none⟩) n ms) ∧ Hid (Below V.heap.size V w') ∧ Hid (Below w1.heap.size w1 w') := fun V hV =>
    (toMs_any a n c ms V hn3 (HCW.out.below hV (Nat.le_refl _))).mono fun e w' ⟨g, cc, h1, h2, h5⟩ => ⟨g, cc, h1, MAt.owned h2 HN.out, h5, hV.trans (h5.mono hV.size)⟩
  have hTR : ∀ V, Below w1.heap.size w1 V → Calls Try.prog 8 #[.agg #[.int .i64 kd, .int .i64 f, .slice ia n2 ic, .slice oa m2 oc]] V fun e w' => ∃ g0 k0 g1 k1, e = .returned (.agg #[.int .i64 kd, .int .i64 f, .slice (some ⟨g0, 0, none⟩) n2 k0, .slice (some ⟨g1, 0, none⟩) m2 k1]) ∧ Hid (TC w' n2 m2 g0 k0 g1 rs os) ∧ Hid (Below V.heap.size V w') ∧ Hid (Below w1.heap.size w1 w') := fun V hV =>
    (toTxO_any kd f ia oa n2 m2 ic oc rs os V hn4 hm4 HK.out (HGW.out.below hV (Nat.le_refl _))).mono fun e w' ⟨g0, k0, g1, k1, _, _, h1, h2, h5⟩ => ⟨g0, k0, g1, k1, h1, ⟨h2.at HN2.out HM2.out HK.out, h2.caps.1, h2.caps.2, h2.rlt⟩, h5, hV.trans (h5.mono hV.size)⟩
  have d0 : Below w1.heap.size w1 w1.drew := (Below.refl _ _).drew
  have d1 : Below w1.heap.size w1 (w1.alloc (.cells #[.int .i64 0, .slice none 0 0] 31)).drew := (below_box (.cells #[.int .i64 0, .slice none 0 0] 31)).trans ((Below.refl _ _).drew)
  have HZ0 : Hid ((w1.alloc (.cells #[.int .i64 0, .slice none 0 0] 31)).drew.heap[w1.heap.size]? = some (.cells #[.int .i64 0, .slice none 0 0] 31 (0, 0))) := heap_alloc_new _ _
  obtain ⟨bx0, bx1, bx2, bx3, _⟩ := cells4 HXW.out
  have HBX : Hid (w1.cell? ⟨w.heap.size, 0, none⟩ = some (.int .i64 kd) ∧ w1.cell? ⟨w.heap.size, 1, none⟩ = some (.int .i64 f) ∧ w1.cell? ⟨w.heap.size, 2, none⟩ = some (.slice ia n2 ic) ∧ w1.cell? ⟨w.heap.size, 3, none⟩ = some (.slice oa m2 oc)) := ⟨bx0, bx1, bx2, bx3⟩
  have hbl := lt_of_block HXW.out
  go_cut [8] (fun s wc => ∃ R, s = .pointer (some ⟨R, 0, none⟩) ∧ Hid (SRm w1 wc R cd res))
  case first =>
    go_region_held3 (fun w' => w'.cell? ⟨w.heap.size, 0, none⟩ = some (.int .i64 kd) ∧ w'.cell? ⟨w.heap.size, 1, none⟩ = some (.int .i64 f) ∧ w'.cell? ⟨w.heap.size, 2, none⟩ = some (.slice ia n2 ic) ∧ w'.cell? ⟨w.heap.size, 3, none⟩ = some (.slice oa m2 oc)) (first | go_keep | exact keepS4 ⟨xc0, xc1, xc2, xc3⟩ (by first | omega | (have := HAB.out.size; omega) | (have := HBB.out.size; omega)))
      (first
        | (go_at_call 7; (first
            | ((with_reducible refine (hTA w1.drew d0).mono ?_); rintro e uA ⟨g, cc, rfl, HCA, HA, HAB⟩; obtain ⟨za0, za1, za2, za3⟩ := cellsB HAB.out hbl HBX.out)
            | ((with_reducible refine (hTA (w1.alloc (.cells #[.int .i64 0, .slice none 0 0] 31)).drew d1).mono ?_); rintro e uA ⟨g, cc, rfl, HCA, HA, HAB⟩; have HZA := keepb HZ0.out HA.out; obtain ⟨za0, za1, za2, za3⟩ := cellsB HAB.out hbl HBX.out)))
        | (go_at_call 8; (first
            | ((with_reducible refine (hTR uA HAB.out).mono ?_); rintro e uB ⟨g0, k0, g1, k1, rfl, HTB, HBu, HBB⟩; have HCB : Hid (MAt uB (some ⟨g, 0, none⟩) n ms) := HCA.out.below HBu.out (Nat.le_refl _); (first | (have hz := HZA; have HZB := keepb hz.out HBu.out) | skip); obtain ⟨yc0, yc1, yc2, yc3⟩ := cellsB HBB.out hbl HBX.out)
            | ((with_reducible refine (hTR (uA.alloc (.cells #[.int .i64 0, .slice none 0 0] 31)) (HAB.out.trans ((below_box _).mono HAB.out.size))).mono ?_); rintro e uB ⟨g0, k0, g1, k1, rfl, HTB, HBu, HBB⟩; have HCB : Hid (MAt uB (some ⟨g, 0, none⟩) n ms) := (HCA.out.below (below_box (.cells #[.int .i64 0, .slice none 0 0] 31)) (Nat.le_refl _)).below HBu.out (Nat.le_refl _); have HZB2 := keepb (heap_alloc_new uA (.cells #[.int .i64 0, .slice none 0 0] 31)) HBu.out; obtain ⟨yc0, yc1, yc2, yc3⟩ := cellsB HBB.out hbl HBX.out)))
        | (go_at_call 6; (first
            | ((with_reducible refine (hSP w1 uB (some ⟨g, 0, none⟩) cc g0 k0 g1 k1 HCB HTB HBB.out).mono ?_); rintro e uC ⟨va, vc, rfl, HOC, HCu, HCC⟩; obtain ⟨xc0, xc1, xc2, xc3⟩ := cellsB HCC.out hbl HBX.out; (first | (have hz := HZB; have HZC := keepb hz.out HCu.out; obtain ⟨y0, y1⟩ := cells2 HZC.out; have f0 := Joins.unfrozen_of_block HZC.out 0; have f1 := Joins.unfrozen_of_block HZC.out 1) | (have hz := HZB2; have HZC2 := keepb hz.out HCu.out; obtain ⟨y0, y1⟩ := cells2 HZC2.out; have f0 := Joins.unfrozen_of_block HZC2.out 0; have f1 := Joins.unfrozen_of_block HZC2.out 1) | skip))
            | ((with_reducible refine (hSP w1 (uB.alloc (.cells #[.int .i64 0, .slice none 0 0] 31)) (some ⟨g, 0, none⟩) cc g0 k0 g1 k1 (hidM HCB (below_box (.cells #[.int .i64 0, .slice none 0 0] 31))) (hidT HTB (below_box (.cells #[.int .i64 0, .slice none 0 0] 31))) (HBB.out.trans ((below_box _).mono HBB.out.size))).mono ?_); rintro e uC ⟨va, vc, rfl, HOC, HCu, HCC⟩; obtain ⟨xc0, xc1, xc2, xc3⟩ := cellsB HCC.out hbl HBX.out; have HZC3 := keepb (heap_alloc_new uB (.cells #[.int .i64 0, .slice none 0 0] 31)) HCu.out; obtain ⟨y0, y1⟩ := cells2 HZC3.out; have f0 := Joins.unfrozen_of_block HZC3.out 0; have f1 := Joins.unfrozen_of_block HZC3.out 1))))
    all_goals
      go_wp2
      go_meet
      first
        | exact ⟨_, rfl, srm_set HOC HCC HZC (Nat.le_refl _) (by have := HAB.out.size; have := HBu.out.size; have := lt_of_block HZA.out; omega)⟩
        | exact ⟨_, rfl, srm_set HOC HCC HZC2 HAB.out.size (by have := HBu.out.size; simp at this; omega)⟩
        | exact ⟨_, rfl, srm_set HOC HCC HZC3 HBB.out.size (by simp)⟩
        | exact ⟨_, rfl, srm_new HOC HCC⟩
  case rest =>
    obtain ⟨wq, hwq⟩ : ∃ wq, wq = wc := ⟨_, rfl⟩
    subst hwq
    obtain ⟨R6, hs6, HS6⟩ := hcut
    subst hs6
    obtain ⟨hR6, hB5, va, vc, hb6, hC6⟩ := HS6.out
    have HB5 : Hid (Below w.heap.size w wq) := HB1.out.bel.trans (hB5.mono HB1.out.bel.size)
    have HXQ : Hid (wq.heap[w.heap.size]? = some (.cells #[.int .i64 kd, .int .i64 f, .slice ia n2 ic, .slice oa m2 oc] 26 (0, 0))) := keepb HXW.out hB5
    have HR6 : Hid (wq.heap[R6]? = some (.cells #[.int .i64 cd, .slice va res.length vc] 31 (0, 0))) := hb6
    have HC6 : Hid (MAt wq va res.length res) := hC6
    clear hR6 hB5 hb6 hC6 HS6 hTA hTR d0 d1 HZ0 bx0 bx1 bx2 bx3 HBX hbl HCW HGW HXW
    have hx6 := toMs_any a n c ms wq hn3 (HT.out.below HB5.out (Nat.le_refl _))
    go_wp2_with (first
      | (go_at_call 7; have hq := hx6; clear hx6; (with_reducible refine hq.mono ?_); clear hq; rintro e w7 ⟨gx, cx, rfl, hrow, hb7⟩; have HOX7 : Hid (OwnR w7 wq.heap.size w7.heap.size 57 3 (.slice (some ⟨gx, 0, none⟩) n cx) n (mcells ms)) := OwnR.of hrow; have HB7 : Hid (Below w.heap.size w w7) := HB5.out.trans (hb7.mono HB5.out.size); have HW7 : Hid (Below wq.heap.size wq w7) := hb7; have HS7 : Hid (wq.heap.size ≤ w7.heap.size) := hb7.size; obtain ⟨p0, p1, p2, p3, _⟩ := cells4 ((HW7.out.block w.heap.size (lt_of_block HXQ.out)).trans HXQ.out); have h7 := toTxO_any kd f ia oa n2 m2 ic oc rs os w7 hn4 hm4 HK.out (HG.out.below HB7.out (Nat.le_refl _)); clear hrow hb7)
      | (go_at_call 8; have hq := h7; clear h7; (with_reducible refine hq.mono ?_); clear hq; rintro e w8 ⟨g0, k0, g1, k1, mid, kv, rfl, hto, hb8⟩; have HTOw : Hid (TOwn w8 w7.heap.size mid w8.heap.size n2 m2 g0 k0 g1 k1 rs os kv) := hto; have hbz : Below w7.heap.size w7 (w8.alloc (.cells #[.int .i64 kd, .int .i64 f, .slice (some ⟨g0, 0, none⟩) n2 k0, .slice (some ⟨g1, 0, none⟩) m2 k1] 37)) := hb8.trans ((below_box _).mono hb8.size); have HS8 : Hid (w7.heap.size ≤ w8.heap.size) := hb8.size; have HB8 : Hid (Below w.heap.size w (w8.alloc (.cells #[.int .i64 kd, .int .i64 f, .slice (some ⟨g0, 0, none⟩) n2 k0, .slice (some ⟨g1, 0, none⟩) m2 k1] 37))) := HB7.out.trans (hbz.mono HB7.out.size); have HW8 : Hid (Below wq.heap.size wq (w8.alloc (.cells #[.int .i64 kd, .int .i64 f, .slice (some ⟨g0, 0, none⟩) n2 k0, .slice (some ⟨g1, 0, none⟩) m2 k1] 37))) := HW7.out.trans (hbz.mono HW7.out.size); have HOX8 : Hid (OwnR (w8.alloc (.cells #[.int .i64 kd, .int .i64 f, .slice (some ⟨g0, 0, none⟩) n2 k0, .slice (some ⟨g1, 0, none⟩) m2 k1] 37)) wq.heap.size w7.heap.size 57 3 (.slice (some ⟨gx, 0, none⟩) n cx) n (mcells ms)) := HOX7.out.below hbz; have HTO8 : Hid (TOwn (w8.alloc (.cells #[.int .i64 kd, .int .i64 f, .slice (some ⟨g0, 0, none⟩) n2 k0, .slice (some ⟨g1, 0, none⟩) m2 k1] 37)) w7.heap.size mid w8.heap.size n2 m2 g0 k0 g1 k1 rs os kv) := HTOw.out.below (below_box _); have HXB8 : Hid ((w8.alloc (.cells #[.int .i64 kd, .int .i64 f, .slice (some ⟨g0, 0, none⟩) n2 k0, .slice (some ⟨g1, 0, none⟩) m2 k1] 37)).heap[w8.heap.size]? = some (.cells #[.int .i64 kd, .int .i64 f, .slice (some ⟨g0, 0, none⟩) n2 k0, .slice (some ⟨g1, 0, none⟩) m2 k1] 37 (0, 0))) := heap_alloc_new _ _; have h8 := hIM (w8.alloc (.cells #[.int .i64 kd, .int .i64 f, .slice (some ⟨g0, 0, none⟩) n2 k0, .slice (some ⟨g1, 0, none⟩) m2 k1] 37)) (w8.alloc (.cells #[.int .i64 kd, .int .i64 f, .slice (some ⟨g0, 0, none⟩) n2 k0, .slice (some ⟨g1, 0, none⟩) m2 k1] 37)) (some ⟨gx, 0, none⟩) cx g0 k0 g1 k1 (MAt.owned HOX8.out.r HN.out) ⟨HTO8.out.at HN2.out HM2.out HK.out, HTO8.out.caps.1, HTO8.out.caps.2, HTO8.out.rlt⟩ (Below.refl _ _); clear hto hb8 hbz p0 p1 p2 p3)
      | (go_at_call 9; have hq := h8; clear h8; (with_reducible refine hq.mono ?_); clear hq; rintro e w9 ⟨ga, gc, rfl, HOG, HBG, _⟩; have hbz : Below (w8.alloc (.cells #[.int .i64 kd, .int .i64 f, .slice (some ⟨g0, 0, none⟩) n2 k0, .slice (some ⟨g1, 0, none⟩) m2 k1] 37)).heap.size (w8.alloc (.cells #[.int .i64 kd, .int .i64 f, .slice (some ⟨g0, 0, none⟩) n2 k0, .slice (some ⟨g1, 0, none⟩) m2 k1] 37)) (w9.alloc (.cells #[.int .i64 cd, .slice ga res.length gc] 31)) := HBG.out.trans ((below_box (.cells #[.int .i64 cd, .slice ga res.length gc] 31)).mono HBG.out.size); have HS9 : Hid ((w8.alloc (.cells #[.int .i64 kd, .int .i64 f, .slice (some ⟨g0, 0, none⟩) n2 k0, .slice (some ⟨g1, 0, none⟩) m2 k1] 37)).heap.size ≤ w9.heap.size) := HBG.out.size; have HB9 : Hid (Below w.heap.size w (w9.alloc (.cells #[.int .i64 cd, .slice ga res.length gc] 31))) := HB8.out.trans (hbz.mono HB8.out.size); have HW9 : Hid (Below wq.heap.size wq (w9.alloc (.cells #[.int .i64 cd, .slice ga res.length gc] 31))) := HW8.out.trans (hbz.mono HW8.out.size); have HOX9 : Hid (OwnR (w9.alloc (.cells #[.int .i64 cd, .slice ga res.length gc] 31)) wq.heap.size w7.heap.size 57 3 (.slice (some ⟨gx, 0, none⟩) n cx) n (mcells ms)) := HOX8.out.below hbz; have HTO9 : Hid (TOwn (w9.alloc (.cells #[.int .i64 cd, .slice ga res.length gc] 31)) w7.heap.size mid w8.heap.size n2 m2 g0 k0 g1 k1 rs os kv) := HTO8.out.below hbz; have HXB9 : Hid ((w9.alloc (.cells #[.int .i64 cd, .slice ga res.length gc] 31)).heap[w8.heap.size]? = some (.cells #[.int .i64 kd, .int .i64 f, .slice (some ⟨g0, 0, none⟩) n2 k0, .slice (some ⟨g1, 0, none⟩) m2 k1] 37 (0, 0))) := keepb HXB8.out hbz; have HR9 : Hid ((w9.alloc (.cells #[.int .i64 cd, .slice ga res.length gc] 31)).heap[w9.heap.size]? = some (.cells #[.int .i64 cd, .slice ga res.length gc] 31 (0, 0))) := heap_alloc_new _ _; have HOG9 : Hid (OwnR (w9.alloc (.cells #[.int .i64 cd, .slice ga res.length gc] 31)) (w8.alloc (.cells #[.int .i64 kd, .int .i64 f, .slice (some ⟨g0, 0, none⟩) n2 k0, .slice (some ⟨g1, 0, none⟩) m2 k1] 37)).heap.size w9.heap.size 57 3 (.slice ga res.length gc) res.length (mcells res)) := (OwnR.of HOG.out).below (below_box _); obtain ⟨y2, y3⟩ := cells2 ((HW9.out.block R6 (lt_of_block HR6.out)).trans HR6.out); have h9 := eqMR_any ga va res.length gc vc cd res (w9.alloc (.cells #[.int .i64 cd, .slice ga res.length gc] 31)) hrl (mat_row HOG9.out.r rfl) (HC6.out.below HW9.out (Nat.le_refl _)); clear hbz)
      | (go_at_call 10; have hq := h9; clear h9; (with_reducible refine hq.mono ?_); clear hq; rintro e w10 ⟨rfl, hb10⟩; have HB10 : Hid (Below w.heap.size w w10) := HB9.out.trans (hb10.mono HB9.out.size); have HW10 : Hid (Below wq.heap.size wq w10) := HW9.out.trans (hb10.mono HW9.out.size); have HOX10 : Hid (OwnR w10 wq.heap.size w7.heap.size 57 3 (.slice (some ⟨gx, 0, none⟩) n cx) n (mcells ms)) := HOX9.out.below hb10; have HTO10 : Hid (TOwn w10 w7.heap.size mid w8.heap.size n2 m2 g0 k0 g1 k1 rs os kv) := HTO9.out.below hb10; have HXB10 : Hid (w10.heap[w8.heap.size]? = some (.cells #[.int .i64 kd, .int .i64 f, .slice (some ⟨g0, 0, none⟩) n2 k0, .slice (some ⟨g1, 0, none⟩) m2 k1] 37 (0, 0))) := keepb HXB9.out hb10; have HR10 : Hid (w10.heap[w9.heap.size]? = some (.cells #[.int .i64 cd, .slice ga res.length gc] 31 (0, 0))) := keepb HR9.out hb10; have HOG10 : Hid (OwnR w10 (w8.alloc (.cells #[.int .i64 kd, .int .i64 f, .slice (some ⟨g0, 0, none⟩) n2 k0, .slice (some ⟨g1, 0, none⟩) m2 k1] 37)).heap.size w9.heap.size 57 3 (.slice ga res.length gc) res.length (mcells res)) := HOG9.out.below hb10; clear y2 y3; have h10 := toMs_any a n c ms w10 hn3 (HT.out.below HB10.out (Nat.le_refl _)); clear hb10)
      | (go_at_call 7; have hq := h10; clear h10; (with_reducible refine hq.mono ?_); clear hq; rintro e w11 ⟨g11, c11, rfl, hrow, hb11⟩; have HB11 : Hid (Below w.heap.size w w11) := HB10.out.trans (hb11.mono HB10.out.size); have HW11 : Hid (Below wq.heap.size wq w11) := HW10.out.trans (hb11.mono HW10.out.size); have HOX11 : Hid (OwnR w11 wq.heap.size w7.heap.size 57 3 (.slice (some ⟨gx, 0, none⟩) n cx) n (mcells ms)) := HOX10.out.below hb11; have HTO11 : Hid (TOwn w11 w7.heap.size mid w8.heap.size n2 m2 g0 k0 g1 k1 rs os kv) := HTO10.out.below hb11; have HXB11 : Hid (w11.heap[w8.heap.size]? = some (.cells #[.int .i64 kd, .int .i64 f, .slice (some ⟨g0, 0, none⟩) n2 k0, .slice (some ⟨g1, 0, none⟩) m2 k1] 37 (0, 0))) := keepb HXB10.out hb11; have HR11 : Hid (w11.heap[w9.heap.size]? = some (.cells #[.int .i64 cd, .slice ga res.length gc] 31 (0, 0))) := keepb HR10.out hb11; have HOG11 : Hid (OwnR w11 (w8.alloc (.cells #[.int .i64 kd, .int .i64 f, .slice (some ⟨g0, 0, none⟩) n2 k0, .slice (some ⟨g1, 0, none⟩) m2 k1] 37)).heap.size w9.heap.size 57 3 (.slice ga res.length gc) res.length (mcells res)) := HOG10.out.below hb11; have h11 := eqMs_any (some ⟨gx, 0, none⟩) (some ⟨g11, 0, none⟩) n cx c11 ms w11 hn3 (MAt.owned HOX11.out.r HN.out) (MAt.owned hrow HN.out); clear hrow hb11)
      | (go_at_call 11; have hq := h11; clear h11; (with_reducible refine hq.mono ?_); clear hq; rintro e w12 ⟨rfl, hb12⟩; have HB12 : Hid (Below w.heap.size w w12) := HB11.out.trans (hb12.mono HB11.out.size); have HW12 : Hid (Below wq.heap.size wq w12) := HW11.out.trans (hb12.mono HW11.out.size); have HOX12 : Hid (OwnR w12 wq.heap.size w7.heap.size 57 3 (.slice (some ⟨gx, 0, none⟩) n cx) n (mcells ms)) := HOX11.out.below hb12; have HTO12 : Hid (TOwn w12 w7.heap.size mid w8.heap.size n2 m2 g0 k0 g1 k1 rs os kv) := HTO11.out.below hb12; have HXB12 : Hid (w12.heap[w8.heap.size]? = some (.cells #[.int .i64 kd, .int .i64 f, .slice (some ⟨g0, 0, none⟩) n2 k0, .slice (some ⟨g1, 0, none⟩) m2 k1] 37 (0, 0))) := keepb HXB11.out hb12; have HR12 : Hid (w12.heap[w9.heap.size]? = some (.cells #[.int .i64 cd, .slice ga res.length gc] 31 (0, 0))) := keepb HR11.out hb12; have HOG12 : Hid (OwnR w12 (w8.alloc (.cells #[.int .i64 kd, .int .i64 f, .slice (some ⟨g0, 0, none⟩) n2 k0, .slice (some ⟨g1, 0, none⟩) m2 k1] 37)).heap.size w9.heap.size 57 3 (.slice ga res.length gc) res.length (mcells res)) := HOG11.out.below hb12; clear hb12))
    obtain ⟨p0, p1, p2, p3, _⟩ := cells4 ((HW12.out.block w.heap.size (lt_of_block HXQ.out)).trans HXQ.out)
    obtain ⟨x0, x1, x2, x3, _⟩ := cells4 HXB12.out
    have hl4 := lt_of_block HXB12.out
    have hl0 := Nat.lt_of_lt_of_le (lt_of_block HXQ.out) HW12.out.size
    have hto : Calls Try.prog 8 #[.agg #[.int .i64 kd, .int .i64 f, .slice ia n2 ic, .slice oa m2 oc]] w12.drew fun e w' => ∃ g0 k0 g1 k1, e = .returned (.agg #[.int .i64 kd, .int .i64 f, .slice (some ⟨g0, 0, none⟩) n2 k0, .slice (some ⟨g1, 0, none⟩) m2 k1]) ∧ Hid (TC w' n2 m2 g0 k0 g1 rs os) ∧ Below w12.heap.size w12 w' :=
      (toTxO_any kd f ia oa n2 m2 ic oc rs os w12.drew hn4 hm4 HK.out ((HG.out.below HB12.out (Nat.le_refl _)).below (Below.refl _ _).drew (Nat.le_refl _))).mono fun e w' ⟨g0, k0, g1, k1, _, _, h1, h2, h5⟩ => ⟨g0, k0, g1, k1, h1, ⟨h2.at HN2.out HM2.out HK.out, h2.caps.1, h2.caps.2, h2.rlt⟩, (Below.refl _ _).drew.trans h5⟩
    go_region_held3 (fun w' => (w'.cell? ⟨w8.heap.size, 0, none⟩ = some (.int .i64 kd) ∧ w'.cell? ⟨w8.heap.size, 1, none⟩ = some (.int .i64 f) ∧ w'.cell? ⟨w8.heap.size, 2, none⟩ = some (.slice (some ⟨g0, 0, none⟩) n2 k0) ∧ w'.cell? ⟨w8.heap.size, 3, none⟩ = some (.slice (some ⟨g1, 0, none⟩) m2 k1)) ∧ w'.cell? ⟨w.heap.size, 0, none⟩ = some (.int .i64 kd) ∧ w'.cell? ⟨w.heap.size, 1, none⟩ = some (.int .i64 f) ∧ w'.cell? ⟨w.heap.size, 2, none⟩ = some (.slice ia n2 ic) ∧ w'.cell? ⟨w.heap.size, 3, none⟩ = some (.slice oa m2 oc)) (go_keep)
      (first
        | (go_at_call 8; (with_reducible refine hto.mono ?_); rintro e w13 ⟨h0, l0, h1, l1, rfl, HT13, hb13⟩; obtain ⟨z0, z1, z2, z3⟩ := keep4 hl4 hb13 ⟨x0, x1, x2, x3⟩; obtain ⟨z4, z5, z6, z7⟩ := keep4 hl0 hb13 ⟨p0, p1, p2, p3⟩)
        | (go_at_call 12; refine (eqTx_any kd f _ _ _ _ n2 m2 k0 l0 k1 l1 rs os _ hn4 hm4 HK.out ((HTO12.out.at HN2.out HM2.out HK.out).below hb13 (Nat.le_refl _)) HT13.out.1).mono ?_; rintro e w14 ⟨rfl, hb14⟩; have hs6 := hb13.size; obtain ⟨y0, y1, y2, y3⟩ := keep4 (Nat.lt_of_lt_of_le hl4 hs6) hb14 ⟨z0, z1, z2, z3⟩; obtain ⟨y4, y5, y6, y7⟩ := keep4 (Nat.lt_of_lt_of_le hl0 hs6) hb14 ⟨z4, z5, z6, z7⟩))
    have hbz : Below w12.heap.size w12 w14 := hb13.trans (hb14.mono hb13.size)
    have HB14 : Hid (Below w.heap.size w w14) := HB12.out.trans (hbz.mono HB12.out.size)
    have HW14 : Hid (Below wq.heap.size wq w14) := HW12.out.trans (hbz.mono HW12.out.size)
    have HOX14 : Hid (OwnR w14 wq.heap.size w7.heap.size 57 3 (.slice (some ⟨gx, 0, none⟩) n cx) n (mcells ms)) := HOX12.out.below hbz
    have HTO14 : Hid (TOwn w14 w7.heap.size mid w8.heap.size n2 m2 g0 k0 g1 k1 rs os kv) := HTO12.out.below hbz
    have HXB14 : Hid (w14.heap[w8.heap.size]? = some (.cells #[.int .i64 kd, .int .i64 f, .slice (some ⟨g0, 0, none⟩) n2 k0, .slice (some ⟨g1, 0, none⟩) m2 k1] 37 (0, 0))) := keepb HXB12.out hbz
    have HR14 : Hid (w14.heap[w9.heap.size]? = some (.cells #[.int .i64 cd, .slice ga res.length gc] 31 (0, 0))) := keepb HR12.out hbz
    have HOG14 : Hid (OwnR w14 (w8.alloc (.cells #[.int .i64 kd, .int .i64 f, .slice (some ⟨g0, 0, none⟩) n2 k0, .slice (some ⟨g1, 0, none⟩) m2 k1] 37)).heap.size w9.heap.size 57 3 (.slice ga res.length gc) res.length (mcells res)) := HOG12.out.below hbz
    clear hbz hb13 hb14 x0 x1 x2 x3 p0 p1 p2 p3 z0 z1 z2 z3 z4 z5 z6 z7 y0 y1 y2 y3 y4 y5 y6 y7 hto hl4 hl0 hs6 HT13
    obtain ⟨K1, hK1⟩ : ∃ K, K = 1 + n * 3 := ⟨_, rfl⟩
    obtain ⟨M, hM⟩ : ∃ K, K = 1 + res.length * 3 := ⟨_, rfl⟩
    have HK1 : Hid (1 + n * 3 = K1) := hK1.symm
    have HM : Hid (1 + res.length * 3 = M) := hM.symm
    have hK1b : K1 ≤ 10000000000000 := by omega
    have d2 : decide ((M : Int) < 0) = false := decide_eq_false (by omega)
    have d4 : ¬ (M : Int) < 0 := by omega
    clear hK1 hM
    have h14 := mk_eq HK1.out (markMs_any _ n wq.heap.size w7.heap.size 1 _ w14 hn3 (by omega) HOX14.out)
    go_wp2_with (first
      | (go_at_call 13; have hq := h14; clear h14; (with_reducible refine hq.mono ?_); clear hq; rintro e w15 ⟨rfl, _, hch⟩; have HB15 : Hid (Below w.heap.size w w15) := HB14.out.trans (hch.below HB5.out.size HB14.out.size); have HW15 : Hid (Below wq.heap.size wq w15) := HW14.out.trans (hch.below (Nat.le_refl _) HW14.out.size); have HTO15 : Hid (TOwn w15 w7.heap.size mid w8.heap.size n2 m2 g0 k0 g1 k1 rs os kv) := HTO14.out.chg hch (.inr (Nat.le_refl _)); have HXB15 : Hid (w15.heap[w8.heap.size]? = some (.cells #[.int .i64 kd, .int .i64 f, .slice (some ⟨g0, 0, none⟩) n2 k0, .slice (some ⟨g1, 0, none⟩) m2 k1] 37 (0, 0))) := hch.keep HXB14.out (.inr HS8.out); have HR15 : Hid (w15.heap[w9.heap.size]? = some (.cells #[.int .i64 cd, .slice ga res.length gc] 31 (0, 0))) := hch.keep HR14.out (.inr (by have := HS8.out; have := HS9.out; simp at this; omega)); have HOG15 : Hid (OwnR w15 (w8.alloc (.cells #[.int .i64 kd, .int .i64 f, .slice (some ⟨g0, 0, none⟩) n2 k0, .slice (some ⟨g1, 0, none⟩) m2 k1] 37)).heap.size w9.heap.size 57 3 (.slice ga res.length gc) res.length (mcells res)) := HOG14.out.chg hch (.inr (by have := HS8.out; simp; omega)); obtain ⟨x0, x1, x2, x3, _⟩ := cells4 HXB15.out; have h15 := markTx_any kd f n2 m2 k0 k1 g0 g1 w7.heap.size mid w8.heap.size K1 rs os kv w15 hK1b hn4 hm4 HK.out (Nat.le_of_lt (lt_of_block HXB15.out)) HTO15.out; clear hch)
      | (go_at_call 14; have hq := h15; clear h15; (with_reducible refine hq.mono ?_); clear hq; rintro e w16 ⟨K2, rfl, hK2, hch⟩; have d1 : decide ((K2 : Int) < 0) = false := decide_eq_false (by omega); have d3 : ¬ (K2 : Int) < 0 := (by omega); clear hK2 x0 x1 x2 x3; have HB16 : Hid (Below w.heap.size w w16) := HB15.out.trans (hch.below HB7.out.size HB15.out.size); have HW16 : Hid (Below wq.heap.size wq w16) := HW15.out.trans (hch.below HS7.out HW15.out.size); have HR16 : Hid (w16.heap[w9.heap.size]? = some (.cells #[.int .i64 cd, .slice ga res.length gc] 31 (0, 0))) := hch.keep HR15.out (.inr (by have := HS9.out; simp at this; omega)); have HOG16 : Hid (OwnR w16 (w8.alloc (.cells #[.int .i64 kd, .int .i64 f, .slice (some ⟨g0, 0, none⟩) n2 k0, .slice (some ⟨g1, 0, none⟩) m2 k1] 37)).heap.size w9.heap.size 57 3 (.slice ga res.length gc) res.length (mcells res)) := HOG15.out.chg hch (.inr (by simp)); obtain ⟨y0, y1⟩ := cells2 HR16.out; obtain ⟨y2, y3⟩ := cells2 ((HW16.out.block R6 (lt_of_block HR6.out)).trans HR6.out); have h16 := eqMR_any ga va res.length gc vc cd res w16 hrl (mat_row HOG16.out.r rfl) (HC6.out.below HW16.out (Nat.le_refl _)); clear hch)
      | (go_at_call 10; have hq := h16; clear h16; (with_reducible refine hq.mono ?_); clear hq; rintro e w17 ⟨rfl, hb17⟩; have HB17 : Hid (Below w.heap.size w w17) := HB16.out.trans (hb17.mono HB16.out.size); have HW17 : Hid (Below wq.heap.size wq w17) := HW16.out.trans (hb17.mono HW16.out.size); have HR17 : Hid (w17.heap[w9.heap.size]? = some (.cells #[.int .i64 cd, .slice ga res.length gc] 31 (0, 0))) := keepb HR16.out hb17; have HOG17 : Hid (OwnR w17 (w8.alloc (.cells #[.int .i64 kd, .int .i64 f, .slice (some ⟨g0, 0, none⟩) n2 k0, .slice (some ⟨g1, 0, none⟩) m2 k1] 37)).heap.size w9.heap.size 57 3 (.slice ga res.length gc) res.length (mcells res)) := HOG16.out.below hb17; clear y0 y1 y2 y3; obtain ⟨y0, y1⟩ := cells2 HR17.out; have h17 := mk_eq HM.out (markMR_any ga res.length gc (w8.alloc (.cells #[.int .i64 kd, .int .i64 f, .slice (some ⟨g0, 0, none⟩) n2 k0, .slice (some ⟨g1, 0, none⟩) m2 k1] 37)).heap.size w9.heap.size 1 (mcells res) cd w17 hrl (by omega) HOG17.out); clear hb17)
      | (go_at_call 15; have hq := h17; clear h17; (with_reducible refine hq.mono ?_); clear hq; rintro e w18 ⟨rfl, hO18, hch⟩; have HB18 : Hid (Below w.heap.size w w18) := HB17.out.trans (hch.below HB8.out.size HB17.out.size); have HW18 : Hid (Below wq.heap.size wq w18) := HW17.out.trans (hch.below HW8.out.size HW17.out.size); have HR18 : Hid (w18.heap[w9.heap.size]? = some (.cells #[.int .i64 cd, .slice ga res.length gc] 31 (0, 0))) := hch.keep HR17.out (.inr (Nat.le_refl _)); have HOG18 : Hid (OwnR w18 (w8.alloc (.cells #[.int .i64 kd, .int .i64 f, .slice (some ⟨g0, 0, none⟩) n2 k0, .slice (some ⟨g1, 0, none⟩) m2 k1] 37)).heap.size w9.heap.size 57 3 (.slice ga res.length gc) res.length (mkI 1 (res.length * 3))) := hO18; clear y0 y1; obtain ⟨y0, y1⟩ := cells2 HR18.out; have h18 := mk_eq HM.out (heldMR_any ga res.length gc (w8.alloc (.cells #[.int .i64 kd, .int .i64 f, .slice (some ⟨g0, 0, none⟩) n2 k0, .slice (some ⟨g1, 0, none⟩) m2 k1] 37)).heap.size w9.heap.size 1 cd w18 hrl (by omega) HOG18.out); clear hch hO18)
      | (go_at_call 16; have hq := h18; clear h18; (with_reducible refine hq.mono ?_); clear hq; rintro e w19 ⟨rfl, hb19⟩; have HB19 : Hid (Below w.heap.size w w19) := HB18.out.trans (hb19.mono HB18.out.size); have HW19 : Hid (Below wq.heap.size wq w19) := HW18.out.trans (hb19.mono HW18.out.size); have HR19 : Hid (w19.heap[w9.heap.size]? = some (.cells #[.int .i64 cd, .slice ga res.length gc] 31 (0, 0))) := keepb HR18.out hb19; have HOG19 : Hid (OwnR w19 (w8.alloc (.cells #[.int .i64 kd, .int .i64 f, .slice (some ⟨g0, 0, none⟩) n2 k0, .slice (some ⟨g1, 0, none⟩) m2 k1] 37)).heap.size w9.heap.size 57 3 (.slice ga res.length gc) res.length (mkI 1 (res.length * 3))) := HOG18.out.below hb19; clear y0 y1 hb19))
    have HCW : Hid (MAt w19 a n ms) := HT.out.below HB19.out (Nat.le_refl _)
    have HGW : Hid (TxAt w19 ia n2 oa m2 rs os) := HG.out.below HB19.out (Nat.le_refl _)
    have HXW : Hid (w19.heap[w.heap.size]? = some (.cells #[.int .i64 kd, .int .i64 f, .slice ia n2 ic, .slice oa m2 oc] 26 (0, 0))) := (HW19.out.block w.heap.size (lt_of_block HXQ.out)).trans HXQ.out
    have hTA : ∀ V, Below w19.heap.size w19 V → Calls Try.prog 7 #[.slice a n c] V fun e w' => ∃ g cc, e = .returned (.slice (some ⟨g, 0, none⟩) n cc) ∧ Hid (MAt w' (some ⟨g, 0, none⟩) n ms) ∧ Hid (Below V.heap.size V w') ∧ Hid (Below w19.heap.size w19 w') := fun V hV =>
      (toMs_any a n c ms V hn3 (HCW.out.below hV (Nat.le_refl _))).mono fun e w' ⟨g, cc, h1, h2, h5⟩ => ⟨g, cc, h1, MAt.owned h2 HN.out, h5, hV.trans (h5.mono hV.size)⟩
    have hTR : ∀ V, Below w19.heap.size w19 V → Calls Try.prog 8 #[.agg #[.int .i64 kd, .int .i64 f, .slice ia n2 ic, .slice oa m2 oc]] V fun e w' => ∃ g0 k0 g1 k1, e = .returned (.agg #[.int .i64 kd, .int .i64 f, .slice (some ⟨g0, 0, none⟩) n2 k0, .slice (some ⟨g1, 0, none⟩) m2 k1]) ∧ Hid (TC w' n2 m2 g0 k0 g1 rs os) ∧ Hid (Below V.heap.size V w') ∧ Hid (Below w19.heap.size w19 w') := fun V hV =>
      (toTxO_any kd f ia oa n2 m2 ic oc rs os V hn4 hm4 HK.out (HGW.out.below hV (Nat.le_refl _))).mono fun e w' ⟨g0, k0, g1, k1, _, _, h1, h2, h5⟩ => ⟨g0, k0, g1, k1, h1, ⟨h2.at HN2.out HM2.out HK.out, h2.caps.1, h2.caps.2, h2.rlt⟩, h5, hV.trans (h5.mono hV.size)⟩
    have d0 : Below w19.heap.size w19 w19.drew := (Below.refl _ _).drew
    have d1 : Below w19.heap.size w19 (w19.alloc (.cells #[.int .i64 0, .slice none 0 0] 31)).drew := (below_box (.cells #[.int .i64 0, .slice none 0 0] 31)).trans ((Below.refl _ _).drew)
    have HZ0 : Hid ((w19.alloc (.cells #[.int .i64 0, .slice none 0 0] 31)).drew.heap[w19.heap.size]? = some (.cells #[.int .i64 0, .slice none 0 0] 31 (0, 0))) := heap_alloc_new _ _
    obtain ⟨bx0, bx1, bx2, bx3, _⟩ := cells4 HXW.out
    have HBX : Hid (w19.cell? ⟨w.heap.size, 0, none⟩ = some (.int .i64 kd) ∧ w19.cell? ⟨w.heap.size, 1, none⟩ = some (.int .i64 f) ∧ w19.cell? ⟨w.heap.size, 2, none⟩ = some (.slice ia n2 ic) ∧ w19.cell? ⟨w.heap.size, 3, none⟩ = some (.slice oa m2 oc)) := ⟨bx0, bx1, bx2, bx3⟩
    have hbl := lt_of_block HXW.out
    go_cut [15] (fun s wc => ∃ R, s = .pointer (some ⟨R, 0, none⟩) ∧ Hid (SRm w19 wc R cd res))
    case first =>
      go_region_held3 (fun w' => w'.cell? ⟨w.heap.size, 0, none⟩ = some (.int .i64 kd) ∧ w'.cell? ⟨w.heap.size, 1, none⟩ = some (.int .i64 f) ∧ w'.cell? ⟨w.heap.size, 2, none⟩ = some (.slice ia n2 ic) ∧ w'.cell? ⟨w.heap.size, 3, none⟩ = some (.slice oa m2 oc)) (first | go_keep | exact keepS4 ⟨xc0, xc1, xc2, xc3⟩ (by first | omega | (have := HAB.out.size; omega) | (have := HBB.out.size; omega)))
        (first
          | (go_at_call 7; (first
              | ((with_reducible refine (hTA w19.drew d0).mono ?_); rintro e uA ⟨g, cc, rfl, HCA, HA, HAB⟩; obtain ⟨za0, za1, za2, za3⟩ := cellsB HAB.out hbl HBX.out)
              | ((with_reducible refine (hTA (w19.alloc (.cells #[.int .i64 0, .slice none 0 0] 31)).drew d1).mono ?_); rintro e uA ⟨g, cc, rfl, HCA, HA, HAB⟩; have HZA := keepb HZ0.out HA.out; obtain ⟨za0, za1, za2, za3⟩ := cellsB HAB.out hbl HBX.out)))
          | (go_at_call 8; (first
              | ((with_reducible refine (hTR uA HAB.out).mono ?_); rintro e uB ⟨g0, k0, g1, k1, rfl, HTB, HBu, HBB⟩; have HCB : Hid (MAt uB (some ⟨g, 0, none⟩) n ms) := HCA.out.below HBu.out (Nat.le_refl _); (first | (have hz := HZA; have HZB := keepb hz.out HBu.out) | skip); obtain ⟨yc0, yc1, yc2, yc3⟩ := cellsB HBB.out hbl HBX.out)
              | ((with_reducible refine (hTR (uA.alloc (.cells #[.int .i64 0, .slice none 0 0] 31)) (HAB.out.trans ((below_box _).mono HAB.out.size))).mono ?_); rintro e uB ⟨g0, k0, g1, k1, rfl, HTB, HBu, HBB⟩; have HCB : Hid (MAt uB (some ⟨g, 0, none⟩) n ms) := (HCA.out.below (below_box (.cells #[.int .i64 0, .slice none 0 0] 31)) (Nat.le_refl _)).below HBu.out (Nat.le_refl _); have HZB2 := keepb (heap_alloc_new uA (.cells #[.int .i64 0, .slice none 0 0] 31)) HBu.out; obtain ⟨yc0, yc1, yc2, yc3⟩ := cellsB HBB.out hbl HBX.out)))
          | (go_at_call 9; (first
              | ((with_reducible refine (hIM w19 uB (some ⟨g, 0, none⟩) cc g0 k0 g1 k1 HCB HTB HBB.out).mono ?_); rintro e uC ⟨va, vc, rfl, HOC, HCu, HCC⟩; obtain ⟨xc0, xc1, xc2, xc3⟩ := cellsB HCC.out hbl HBX.out; (first | (have hz := HZB; have HZC := keepb hz.out HCu.out; obtain ⟨y0, y1⟩ := cells2 HZC.out; have f0 := Joins.unfrozen_of_block HZC.out 0; have f1 := Joins.unfrozen_of_block HZC.out 1) | (have hz := HZB2; have HZC2 := keepb hz.out HCu.out; obtain ⟨y0, y1⟩ := cells2 HZC2.out; have f0 := Joins.unfrozen_of_block HZC2.out 0; have f1 := Joins.unfrozen_of_block HZC2.out 1) | skip))
              | ((with_reducible refine (hIM w19 (uB.alloc (.cells #[.int .i64 0, .slice none 0 0] 31)) (some ⟨g, 0, none⟩) cc g0 k0 g1 k1 (hidM HCB (below_box (.cells #[.int .i64 0, .slice none 0 0] 31))) (hidT HTB (below_box (.cells #[.int .i64 0, .slice none 0 0] 31))) (HBB.out.trans ((below_box _).mono HBB.out.size))).mono ?_); rintro e uC ⟨va, vc, rfl, HOC, HCu, HCC⟩; obtain ⟨xc0, xc1, xc2, xc3⟩ := cellsB HCC.out hbl HBX.out; have HZC3 := keepb (heap_alloc_new uB (.cells #[.int .i64 0, .slice none 0 0] 31)) HCu.out; obtain ⟨y0, y1⟩ := cells2 HZC3.out; have f0 := Joins.unfrozen_of_block HZC3.out 0; have f1 := Joins.unfrozen_of_block HZC3.out 1))))
      all_goals
        go_wp2
        go_meet
        first
          | exact ⟨_, rfl, srm_set HOC HCC HZC (Nat.le_refl _) (by have := HAB.out.size; have := HBu.out.size; have := lt_of_block HZA.out; omega)⟩
          | exact ⟨_, rfl, srm_set HOC HCC HZC2 HAB.out.size (by have := HBu.out.size; simp at this; omega)⟩
          | exact ⟨_, rfl, srm_set HOC HCC HZC3 HBB.out.size (by simp)⟩
          | exact ⟨_, rfl, srm_new HOC HCC⟩
    case rest =>
      obtain ⟨R12, hs12, HS12⟩ := hcut
      subst hs12
      obtain ⟨hR12, hB12', vb, vd, hb12, hC12⟩ := HS12.out
      have HB24 : Hid (Below w.heap.size w wc) := HB19.out.trans (hB12'.mono HB19.out.size)
      have HW24 : Hid (Below wq.heap.size wq wc) := HW19.out.trans (hB12'.mono HW19.out.size)
      have HR24 : Hid (wc.heap[w9.heap.size]? = some (.cells #[.int .i64 cd, .slice ga res.length gc] 31 (0, 0))) := keepb HR19.out hB12'
      have HOG24 : Hid (OwnR wc (w8.alloc (.cells #[.int .i64 kd, .int .i64 f, .slice (some ⟨g0, 0, none⟩) n2 k0, .slice (some ⟨g1, 0, none⟩) m2 k1] 37)).heap.size w9.heap.size 57 3 (.slice ga res.length gc) res.length (mkI 1 (res.length * 3))) := HOG19.out.below hB12'
      obtain ⟨x0, x1⟩ := cells2 hb12
      obtain ⟨y2, y3⟩ := cells2 ((HW24.out.block R6 (lt_of_block HR6.out)).trans HR6.out)
      obtain ⟨z0, z1⟩ := cells2 HR24.out
      have heq24 := eqMR_any vb va res.length vd vc cd res wc hrl hC12 (HC6.out.below HW24.out (Nat.le_refl _))
      clear hR12 hB12' hb12 hC12 HS12 hTA hTR d0 HZ0 bx0 bx1 bx2 bx3 HBX hbl
      go_wp2_with (first
        | (go_at_call 10; have hq := heq24; clear heq24; (with_reducible refine hq.mono ?_); clear hq; rintro e w25 ⟨rfl, hb25⟩; have HB25 : Hid (Below w.heap.size w w25) := HB24.out.trans (hb25.mono HB24.out.size); have HR25 : Hid (w25.heap[w9.heap.size]? = some (.cells #[.int .i64 cd, .slice ga res.length gc] 31 (0, 0))) := keepb HR24.out hb25; clear z0 z1 x0 x1 y2 y3; obtain ⟨z0, z1⟩ := cells2 HR25.out; have h25 := mk_eq HM.out (heldMR_any ga res.length gc (w8.alloc (.cells #[.int .i64 kd, .int .i64 f, .slice (some ⟨g0, 0, none⟩) n2 k0, .slice (some ⟨g1, 0, none⟩) m2 k1] 37)).heap.size w9.heap.size 1 cd w25 hrl (by omega) (HOG24.out.below hb25)); clear hb25)
        | (go_at_call 16; have hq := h25; clear h25; (with_reducible refine hq.mono ?_); clear hq; rintro e w26 ⟨rfl, hb26⟩; have HB26 : Hid (Below w.heap.size w w26) := HB25.out.trans (hb26.mono HB25.out.size); clear hb26))
      go_ret
      exact ⟨rfl, HB26.out⟩

end Go.Proofs.Ytkdjfafgjokeeaa
