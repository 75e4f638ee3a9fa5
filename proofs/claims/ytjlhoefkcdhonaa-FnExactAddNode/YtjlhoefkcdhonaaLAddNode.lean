/- The law on AddNode answers true, whatever comes in, and writes nothing that was there. -/
import Derived.Test.YtjlhoefkcdhonaaVf
import Derived.Test.YtjlhoefkcdhonaaVg
import Derived.Test.YtjlhoefkcdhonaaVe
import Derived.Test.YtjlhoefkcdhonaaLTreeFault
import Derived.Deep.DeepCutAuto
namespace Go.Proofs.Ytjlhoefkcdhonaa
open Go.RowKit Go.Maps Go.WideMaps

/-- A result of nodes in block R: its code, its nodes in memory of their own. -/
def SRn (w1 wc : World) (R : Nat) (cd : Int) (res : List Mb) : Prop :=
  w1.heap.size ≤ R ∧ Below w1.heap.size w1 wc ∧ ∃ va vc, wc.heap[R]? = some (.cells #[.int .i64 cd, .slice va res.length vc] 32 (0, 0)) ∧ MAt wc va res.length res
theorem srn_set {w1 uC : World} {R lo : Nat} {cd : Int} {res : List Mb} {va : Option Addr} {vc : Nat} (HOC : Hid (World.ownsRow uC lo 34 3 (.slice va res.length vc) res.length (mcells res))) (HCC : Hid (Below w1.heap.size w1 uC)) (HZ : Hid (uC.heap[R]? = some (.cells #[.int .i64 0, .slice none 0 0] 32 (0, 0)))) (hR1 : w1.heap.size ≤ R) (hR2 : R < lo) :
    Hid (SRn w1 ((uC.setCell ⟨R, 0, none⟩ (.int .i64 cd)).setCell ⟨R, 1, none⟩ (.slice va res.length vc)) R cd res) := by
  have b1 := Joins.block_setCell (i := 0) HZ.out (.int .i64 cd)
  have b2 := Joins.block_setCell (i := 1) b1 (.slice va res.length vc)
  exact ⟨hR1, (HCC.out.setCell (p := ⟨R, 0, none⟩) hR1 _).setCell (p := ⟨R, 1, none⟩) hR1 _, va, vc, b2, mat_row (ownsRow_setCell_below (ownsRow_setCell_below HOC.out (a := ⟨R, 0, none⟩) hR2 _) (a := ⟨R, 1, none⟩) hR2 _) rfl⟩
theorem srn_new {w1 uC : World} {lo : Nat} {cd : Int} {res : List Mb} {va : Option Addr} {vc : Nat} (HOC : Hid (World.ownsRow uC lo 34 3 (.slice va res.length vc) res.length (mcells res))) (HCC : Hid (Below w1.heap.size w1 uC)) :
    Hid (SRn w1 (uC.alloc (.cells #[.int .i64 cd, .slice va res.length vc] 32)) uC.heap.size cd res) :=
  ⟨HCC.out.size, HCC.out.trans ((below_box _).mono HCC.out.size), va, vc, heap_alloc_new _ _, mat_row (HOC.out.alloc _) rfl⟩
theorem keepN {W : World} {b i R : Nat} {v u u' : Value} (h : W.cell? ⟨b, i, none⟩ = some v) (hne : b ≠ R) : ((W.setCell ⟨R, 0, none⟩ u).setCell ⟨R, 1, none⟩ u').cell? ⟨b, i, none⟩ = some v :=
  (World.cell?_of_block ((Below.heap_setCell _ ⟨R, 1, none⟩ u' b hne).trans (Below.heap_setCell _ ⟨R, 0, none⟩ u b hne))).trans h
theorem keepN3 {W : World} {b R : Nat} {v0 v1 v2 u u' : Value} (h : W.cell? ⟨b, 0, none⟩ = some v0 ∧ W.cell? ⟨b, 1, none⟩ = some v1 ∧ W.cell? ⟨b, 2, none⟩ = some v2) (hne : b ≠ R) :
    ((W.setCell ⟨R, 0, none⟩ u).setCell ⟨R, 1, none⟩ u').cell? ⟨b, 0, none⟩ = some v0 ∧ ((W.setCell ⟨R, 0, none⟩ u).setCell ⟨R, 1, none⟩ u').cell? ⟨b, 1, none⟩ = some v1 ∧ ((W.setCell ⟨R, 0, none⟩ u).setCell ⟨R, 1, none⟩ u').cell? ⟨b, 2, none⟩ = some v2 :=
  ⟨keepN h.1 hne, keepN h.2.1 hne, keepN h.2.2 hne⟩
theorem cellsN {B : Nat} {w w' : World} {b : Nat} {v0 v1 v2 : Value} (hb : Below B w w') (hl : b < B) (h : w.cell? ⟨b, 0, none⟩ = some v0 ∧ w.cell? ⟨b, 1, none⟩ = some v1 ∧ w.cell? ⟨b, 2, none⟩ = some v2) :
    w'.cell? ⟨b, 0, none⟩ = some v0 ∧ w'.cell? ⟨b, 1, none⟩ = some v1 ∧ w'.cell? ⟨b, 2, none⟩ = some v2 :=
  ⟨(hb.cell (p := ⟨b, 0, none⟩) hl).trans h.1, (hb.cell (p := ⟨b, 1, none⟩) hl).trans h.2.1, (hb.cell (p := ⟨b, 2, none⟩) hl).trans h.2.2⟩
/-- Nodes that can be read, with room. -/
def NC (W : World) (n cc g : Nat) (ms : List Mb) : Prop := n ≤ cc ∧ cc ≤ maxLen ∧ MAt W (some ⟨g, 0, none⟩) n ms
theorem hidN {W W' : World} {n cc g : Nat} {ms : List Mb} (h : Hid (NC W n cc g ms)) (hb : Below W.heap.size W W') : Hid (NC W' n cc g ms) := ⟨h.out.1, h.out.2.1, h.out.2.2.below hb (Nat.le_refl _)⟩
theorem NC.of {W : World} {lo n cc g : Nat} {ms : List Mb} (h : W.ownsRow lo 34 3 (.slice (some ⟨g, 0, none⟩) n cc) n (mcells ms)) (hn : ms.length = n) : NC W n cc g ms := ⟨(ncaps h).1, (ncaps h).2, MAt.owned h hn⟩
theorem mk_eq {w : World} {f : Nat} {v : Value} {K K1 : Nat} {Q : World → Prop} (hK : K = K1) (h : Calls Try.prog f #[v, .int .i64 ((1 : Nat) : Int)] w fun e w' => e = .returned (.int .i64 (K : Nat)) ∧ Q w') : Calls Try.prog f #[v, .int .i64 1] w fun e w' => e = .returned (.int .i64 (K1 : Nat)) ∧ Q w' := by subst hK; exact h
theorem addNR_few {ms : List Mb} {o : Mb} : (addNR ms o).2.length ≤ 61 := by
  unfold addNR
  by_cases h0 : treeR ms ≠ 0
  · rw [if_pos h0]; simp
  · rw [if_neg h0]
    have := tree_len (Decidable.not_not.1 h0)
    split
    · simp
    · simp; omega

set_option maxRecDepth 20000 in
set_option maxHeartbeats 8000000 in
theorem lawAddNode (n c : Nat) (a : Option Addr) (ms : List Mb) (id pv ht : Int) (w : World) (hn : n ≤ maxLen) (hC : MAt w a n ms) (hfn : FineN ms) (hwp : (Lit.int .i64 pv).wf = true) :
    Calls Try.prog 4 #[.slice a n c, .agg #[.int .i64 id, .int .i64 pv, .int .i64 ht]] w fun e w' => e = .returned (.bool true) ∧ Below w.heap.size w w' := by
  have HT : Hid (MAt w a n ms) := hC
  have HN : Hid (ms.length = n) := hC.1
  have HFN : Hid (FineN ms) := hfn
  have HWP : Hid ((Lit.int .i64 pv).wf = true) := hwp
  obtain ⟨cd, hcd⟩ : ∃ x, x = (addNR ms (id, pv, ht)).1 := ⟨_, rfl⟩
  obtain ⟨res, hres⟩ : ∃ x, x = (addNR ms (id, pv, ht)).2 := ⟨_, rfl⟩
  have HAT : Hid ((addNR ms (id, pv, ht)).1 = cd ∧ (addNR ms (id, pv, ht)).2 = res) := ⟨hcd.symm, hres.symm⟩
  have hrl : res.length ≤ 1048576 := by rw [hres]; exact Nat.le_trans addNR_few (by omega)
  obtain ⟨w1, hw1⟩ : ∃ W, W = w.alloc (.cells #[.int .i64 id, .int .i64 pv, .int .i64 ht] 30) := ⟨_, rfl⟩
  have HBL : Hid (Below w.heap.size w w1) := by rw [hw1]; exact below_box _
  have HXW : Hid (w1.heap[w.heap.size]? = some (.cells #[.int .i64 id, .int .i64 pv, .int .i64 ht] 30 (0, 0))) := by rw [hw1]; exact heap_alloc_new _ _
  have HW1 : Hid (w1 = w.alloc (.cells #[.int .i64 id, .int .i64 pv, .int .i64 ht] 30)) := hw1
  have hsz := szNs_any a n c 1048576 (w.alloc (.cells #[.int .i64 id, .int .i64 pv, .int .i64 ht] 30)) (by omega) (by omega) hn
  clear hcd hres hC hfn hwp hw1
  go_enter Try.func4, Try.ntmps4
  go_wp2_with (go_at_call 10; (with_reducible refine hsz.mono ?_); clear hsz; rintro e w0 ⟨r, rfl, hw0, hr⟩; have hw2 := hw0.symm; subst hw2; clear hw0)
  · go_ret
    exact ⟨rfl, below_box _⟩
  have hr0 : 0 ≤ r := by assumption
  rcases hr with e | ⟨_, hr1, hq1⟩
  · omega
  have hn3 : n ≤ 1048576 := by omega
  clear hq1
  rw [← HW1.out]
  have hSP : ∀ wb W g cc, Hid (NC W n cc g ms) → Below (World.heap wb).size wb W → Calls Try.prog 15 #[.slice (some ⟨g, 0, none⟩) n cc, .agg #[.int .i64 id, .int .i64 pv, .int .i64 ht]] W fun e w' => ∃ va vc, e = .returned (.agg #[.int .i64 cd, .slice va res.length vc]) ∧ Hid (World.ownsRow w' W.heap.size 34 3 (.slice va res.length vc) res.length (mcells res)) ∧ Hid (Below W.heap.size W w') ∧ Hid (Below wb.heap.size wb w') := fun wb W g cc h1 h3 => by
    have := sAddNode_any n cc g 0 ms id pv ht W hn3 h1.out
    rw [HAT.out.1, HAT.out.2] at this
    exact this.mono fun e w' ⟨va, vc, e1, hO, hb⟩ => ⟨va, vc, e1, hO, hb, h3.trans (hb.mono h3.size)⟩
  have hIM : ∀ wb W g cc, Hid (NC W n cc g ms) → Below (World.heap wb).size wb W → Calls Try.prog 17 #[.slice (some ⟨g, 0, none⟩) n cc, .agg #[.int .i64 id, .int .i64 pv, .int .i64 ht]] W fun e w' => ∃ va vc, e = .returned (.agg #[.int .i64 cd, .slice va res.length vc]) ∧ Hid (World.ownsRow w' W.heap.size 34 3 (.slice va res.length vc) res.length (mcells res)) ∧ Hid (Below W.heap.size W w') ∧ Hid (Below wb.heap.size wb w') := fun wb W g cc h1 h3 => by
    have := iAddNode_any n cc (some ⟨g, 0, none⟩) ms id pv ht W h1.out HFN.out HWP.out
    rw [HAT.out.1, HAT.out.2] at this
    exact this.mono fun e w' ⟨va, vc, e1, hO, hb⟩ => ⟨va, vc, e1, hO, hb, h3.trans (hb.mono h3.size)⟩
  have HCW : Hid (MAt w1 a n ms) := HT.out.below HBL.out (Nat.le_refl _)
  have hTA : ∀ V, Below w1.heap.size w1 V → Calls Try.prog 12 #[.slice a n c] V fun e w' => ∃ g cc, e = .returned (.slice (some ⟨g, 0, none⟩) n cc) ∧ Hid (NC w' n cc g ms) ∧ Hid (Below V.heap.size V w') ∧ Hid (Below w1.heap.size w1 w') := fun V hV =>
    (toNs_any a n c ms V hn3 (HCW.out.below hV (Nat.le_refl _))).mono fun e w' ⟨g, cc, h1, h2, h5⟩ => ⟨g, cc, h1, NC.of h2 HN.out, h5, hV.trans (h5.mono hV.size)⟩
  have hTR : ∀ V, Below w1.heap.size w1 V → Calls Try.prog 16 #[.agg #[.int .i64 id, .int .i64 pv, .int .i64 ht]] V fun e w' => e = .returned (.agg #[.int .i64 id, .int .i64 pv, .int .i64 ht]) ∧ Hid (Below V.heap.size V w') ∧ Hid (Below w1.heap.size w1 w') := fun V hV =>
    (toNd_any id pv ht V).mono fun e w' ⟨h1, h5⟩ => ⟨h1, h5, hV.trans (h5.mono hV.size)⟩
  have d0 : Below w1.heap.size w1 w1.drew := (Below.refl _ _).drew
  have d1 : Below w1.heap.size w1 (w1.alloc (.cells #[.int .i64 0, .slice none 0 0] 32)).drew := (below_box (.cells #[.int .i64 0, .slice none 0 0] 32)).trans ((Below.refl _ _).drew)
  have HZ0 : Hid ((w1.alloc (.cells #[.int .i64 0, .slice none 0 0] 32)).drew.heap[w1.heap.size]? = some (.cells #[.int .i64 0, .slice none 0 0] 32 (0, 0))) := heap_alloc_new _ _
  obtain ⟨bx0, bx1, bx2⟩ := cells3 HXW.out
  have HBX : Hid (w1.cell? ⟨w.heap.size, 0, none⟩ = some (.int .i64 id) ∧ w1.cell? ⟨w.heap.size, 1, none⟩ = some (.int .i64 pv) ∧ w1.cell? ⟨w.heap.size, 2, none⟩ = some (.int .i64 ht)) := ⟨bx0, bx1, bx2⟩
  have hbl := lt_of_block HXW.out
  go_cut [6] (fun s wc => ∃ R, s = .pointer (some ⟨R, 0, none⟩) ∧ Hid (SRn w1 wc R cd res))
  case first =>
    go_region_held3 (fun w' => w'.cell? ⟨w.heap.size, 0, none⟩ = some (.int .i64 id) ∧ w'.cell? ⟨w.heap.size, 1, none⟩ = some (.int .i64 pv) ∧ w'.cell? ⟨w.heap.size, 2, none⟩ = some (.int .i64 ht)) (first | exact keepN3 ⟨xc0, xc1, xc2⟩ (by first | omega | (have := HAB.out.size; omega) | (have := HBB.out.size; omega)) | go_keep)
      (first
        | (go_at_call 12; (first
            | ((with_reducible refine (hTA w1.drew d0).mono ?_); rintro e uA ⟨g, cc, rfl, HCA, HA, HAB⟩; obtain ⟨za0, za1, za2⟩ := cellsN HAB.out hbl HBX.out)
            | ((with_reducible refine (hTA (w1.alloc (.cells #[.int .i64 0, .slice none 0 0] 32)).drew d1).mono ?_); rintro e uA ⟨g, cc, rfl, HCA, HA, HAB⟩; have HZA := keepb HZ0.out HA.out; obtain ⟨za0, za1, za2⟩ := cellsN HAB.out hbl HBX.out)))
        | (go_at_call 16; (first
            | ((with_reducible refine (hTR uA HAB.out).mono ?_); rintro e uB ⟨rfl, HBu, HBB⟩; have HCB := hidN HCA HBu.out; (first | (have hz := HZA; have HZB := keepb hz.out HBu.out) | skip); obtain ⟨yc0, yc1, yc2⟩ := cellsN HBB.out hbl HBX.out)
            | ((with_reducible refine (hTR (uA.alloc (.cells #[.int .i64 0, .slice none 0 0] 32)) (HAB.out.trans ((below_box _).mono HAB.out.size))).mono ?_); rintro e uB ⟨rfl, HBu, HBB⟩; have HCB := hidN (hidN HCA (below_box (.cells #[.int .i64 0, .slice none 0 0] 32))) HBu.out; have HZB2 := keepb (heap_alloc_new uA (.cells #[.int .i64 0, .slice none 0 0] 32)) HBu.out; obtain ⟨yc0, yc1, yc2⟩ := cellsN HBB.out hbl HBX.out)))
        | (go_at_call 15; (first
            | ((with_reducible refine (hSP w1 uB g cc HCB HBB.out).mono ?_); rintro e uC ⟨va, vc, rfl, HOC, HCu, HCC⟩; obtain ⟨xc0, xc1, xc2⟩ := cellsN HCC.out hbl HBX.out; (first | (have hz := HZB; have HZC := keepb hz.out HCu.out; obtain ⟨y0, y1⟩ := cells2 HZC.out; have f0 := Joins.unfrozen_of_block HZC.out 0; have f1 := Joins.unfrozen_of_block HZC.out 1) | (have hz := HZB2; have HZC2 := keepb hz.out HCu.out; obtain ⟨y0, y1⟩ := cells2 HZC2.out; have f0 := Joins.unfrozen_of_block HZC2.out 0; have f1 := Joins.unfrozen_of_block HZC2.out 1) | skip))
            | ((with_reducible refine (hSP w1 (uB.alloc (.cells #[.int .i64 0, .slice none 0 0] 32)) g cc (hidN HCB (below_box (.cells #[.int .i64 0, .slice none 0 0] 32))) (HBB.out.trans ((below_box _).mono HBB.out.size))).mono ?_); rintro e uC ⟨va, vc, rfl, HOC, HCu, HCC⟩; obtain ⟨xc0, xc1, xc2⟩ := cellsN HCC.out hbl HBX.out; have HZC3 := keepb (heap_alloc_new uB (.cells #[.int .i64 0, .slice none 0 0] 32)) HCu.out; obtain ⟨y0, y1⟩ := cells2 HZC3.out; have f0 := Joins.unfrozen_of_block HZC3.out 0; have f1 := Joins.unfrozen_of_block HZC3.out 1))))
    all_goals
      go_wp2
      go_meet
      first
        | exact ⟨_, rfl, srn_set HOC HCC HZC (Nat.le_refl _) (by have := HAB.out.size; have := HBu.out.size; have := lt_of_block HZA.out; omega)⟩
        | exact ⟨_, rfl, srn_set HOC HCC HZC2 HAB.out.size (by have := HBu.out.size; simp at this; omega)⟩
        | exact ⟨_, rfl, srn_set HOC HCC HZC3 HBB.out.size (by simp)⟩
        | exact ⟨_, rfl, srn_new HOC HCC⟩
  case rest =>
    obtain ⟨wq, hwq⟩ : ∃ wq, wq = wc := ⟨_, rfl⟩
    subst hwq
    obtain ⟨R6, hs6, HS6⟩ := hcut
    subst hs6
    obtain ⟨hR6, hB5, va, vc, hb6, hC6⟩ := HS6.out
    have HB5 : Hid (Below w.heap.size w wq) := HBL.out.trans (hB5.mono HBL.out.size)
    have HXQ : Hid (wq.heap[w.heap.size]? = some (.cells #[.int .i64 id, .int .i64 pv, .int .i64 ht] 30 (0, 0))) := keepb HXW.out hB5
    have HR6 : Hid (wq.heap[R6]? = some (.cells #[.int .i64 cd, .slice va res.length vc] 32 (0, 0))) := hb6
    have HC6 : Hid (MAt wq va res.length res) := hC6
    clear hR6 hB5 hb6 hC6 HS6 hTA hTR d0 d1 HZ0 bx0 bx1 bx2 HBX hbl HCW HXW
    have hx6 := toNs_any a n c ms wq hn3 (HT.out.below HB5.out (Nat.le_refl _))
    obtain ⟨K1, hK1⟩ : ∃ K, K = 1 + n * 3 := ⟨_, rfl⟩
    obtain ⟨M, hM⟩ : ∃ K, K = 1 + res.length * 3 := ⟨_, rfl⟩
    have HK1 : Hid (1 + n * 3 = K1) := hK1.symm
    have HM : Hid (1 + res.length * 3 = M) := hM.symm
    have d1 : decide ((K1 : Int) < 0) = false := decide_eq_false (by omega)
    have d2 : decide ((M : Int) < 0) = false := decide_eq_false (by omega)
    have d3 : ¬ (K1 : Int) < 0 := by omega
    have d4 : ¬ (M : Int) < 0 := by omega
    clear hK1 hM
    go_wp2_with (first
      | (go_at_call 12; have hq := hx6; clear hx6; (with_reducible refine hq.mono ?_); clear hq; rintro e w7 ⟨gx, cx, rfl, hrow, hb7⟩; have HOX7 : Hid (OwnR w7 wq.heap.size w7.heap.size 34 3 (.slice (some ⟨gx, 0, none⟩) n cx) n (mcells ms)) := OwnR.of hrow; have HB7 : Hid (Below w.heap.size w w7) := HB5.out.trans (hb7.mono HB5.out.size); have HW7 : Hid (Below wq.heap.size wq w7) := hb7; have HS7 : Hid (wq.heap.size ≤ w7.heap.size) := hb7.size; obtain ⟨p0, p1, p2⟩ := cells3 ((HW7.out.block w.heap.size (lt_of_block HXQ.out)).trans HXQ.out); have h7 := toNd_any id pv ht w7; clear hrow hb7)
      | (go_at_call 16; have hq := h7; clear h7; (with_reducible refine hq.mono ?_); clear hq; rintro e w8 ⟨rfl, hb8⟩; have HS8 : Hid (w7.heap.size ≤ w8.heap.size) := hb8.size; have HB8 : Hid (Below w.heap.size w w8) := HB7.out.trans (hb8.mono HB7.out.size); have HW8 : Hid (Below wq.heap.size wq w8) := HW7.out.trans (hb8.mono HW7.out.size); have HOX8 : Hid (OwnR w8 wq.heap.size w7.heap.size 34 3 (.slice (some ⟨gx, 0, none⟩) n cx) n (mcells ms)) := HOX7.out.below hb8; have h8 := hIM w8 w8 gx cx (NC.of HOX8.out.r HN.out) (Below.refl _ _); clear hb8 p0 p1 p2)
      | (go_at_call 17; have hq := h8; clear h8; (with_reducible refine hq.mono ?_); clear hq; rintro e w9 ⟨ga, gc, rfl, HOG, HBG, _⟩; have hbz : Below w8.heap.size w8 (w9.alloc (.cells #[.int .i64 cd, .slice ga res.length gc] 32)) := HBG.out.trans ((below_box (.cells #[.int .i64 cd, .slice ga res.length gc] 32)).mono HBG.out.size); have HS9 : Hid (w8.heap.size ≤ w9.heap.size) := HBG.out.size; have HB9 : Hid (Below w.heap.size w (w9.alloc (.cells #[.int .i64 cd, .slice ga res.length gc] 32))) := HB8.out.trans (hbz.mono HB8.out.size); have HW9 : Hid (Below wq.heap.size wq (w9.alloc (.cells #[.int .i64 cd, .slice ga res.length gc] 32))) := HW8.out.trans (hbz.mono HW8.out.size); have HOX9 : Hid (OwnR (w9.alloc (.cells #[.int .i64 cd, .slice ga res.length gc] 32)) wq.heap.size w7.heap.size 34 3 (.slice (some ⟨gx, 0, none⟩) n cx) n (mcells ms)) := HOX8.out.below hbz; have HR9 : Hid ((w9.alloc (.cells #[.int .i64 cd, .slice ga res.length gc] 32)).heap[w9.heap.size]? = some (.cells #[.int .i64 cd, .slice ga res.length gc] 32 (0, 0))) := heap_alloc_new _ _; have HOG9 : Hid (OwnR (w9.alloc (.cells #[.int .i64 cd, .slice ga res.length gc] 32)) w8.heap.size w9.heap.size 34 3 (.slice ga res.length gc) res.length (mcells res)) := (OwnR.of HOG.out).below (below_box _); obtain ⟨y2, y3⟩ := cells2 ((HW9.out.block R6 (lt_of_block HR6.out)).trans HR6.out); have h9 := eqTR_any ga va res.length gc vc cd res (w9.alloc (.cells #[.int .i64 cd, .slice ga res.length gc] 32)) hrl (mat_row HOG9.out.r rfl) (HC6.out.below HW9.out (Nat.le_refl _)); clear hbz)
      | (go_at_call 18; have hq := h9; clear h9; (with_reducible refine hq.mono ?_); clear hq; rintro e w10 ⟨rfl, hb10⟩; have HB10 : Hid (Below w.heap.size w w10) := HB9.out.trans (hb10.mono HB9.out.size); have HW10 : Hid (Below wq.heap.size wq w10) := HW9.out.trans (hb10.mono HW9.out.size); have HOX10 : Hid (OwnR w10 wq.heap.size w7.heap.size 34 3 (.slice (some ⟨gx, 0, none⟩) n cx) n (mcells ms)) := HOX9.out.below hb10; have HR10 : Hid (w10.heap[w9.heap.size]? = some (.cells #[.int .i64 cd, .slice ga res.length gc] 32 (0, 0))) := keepb HR9.out hb10; have HOG10 : Hid (OwnR w10 w8.heap.size w9.heap.size 34 3 (.slice ga res.length gc) res.length (mcells res)) := HOG9.out.below hb10; clear y2 y3; have h10 := toNs_any a n c ms w10 hn3 (HT.out.below HB10.out (Nat.le_refl _)); clear hb10)
      | (go_at_call 12; have hq := h10; clear h10; (with_reducible refine hq.mono ?_); clear hq; rintro e w11 ⟨g11, c11, rfl, hrow, hb11⟩; have HB11 : Hid (Below w.heap.size w w11) := HB10.out.trans (hb11.mono HB10.out.size); have HW11 : Hid (Below wq.heap.size wq w11) := HW10.out.trans (hb11.mono HW10.out.size); have HOX11 : Hid (OwnR w11 wq.heap.size w7.heap.size 34 3 (.slice (some ⟨gx, 0, none⟩) n cx) n (mcells ms)) := HOX10.out.below hb11; have HR11 : Hid (w11.heap[w9.heap.size]? = some (.cells #[.int .i64 cd, .slice ga res.length gc] 32 (0, 0))) := keepb HR10.out hb11; have HOG11 : Hid (OwnR w11 w8.heap.size w9.heap.size 34 3 (.slice ga res.length gc) res.length (mcells res)) := HOG10.out.below hb11; have h11 := eqNs_any (some ⟨gx, 0, none⟩) (some ⟨g11, 0, none⟩) n cx c11 ms w11 hn3 (MAt.owned HOX11.out.r HN.out) (MAt.owned hrow HN.out); clear hrow hb11)
      | (go_at_call 14; have hq := h11; clear h11; (with_reducible refine hq.mono ?_); clear hq; rintro e w14 ⟨rfl, hb14⟩; have HB14 : Hid (Below w.heap.size w w14) := HB11.out.trans (hb14.mono HB11.out.size); have HW14 : Hid (Below wq.heap.size wq w14) := HW11.out.trans (hb14.mono HW11.out.size); have HOX14 : Hid (OwnR w14 wq.heap.size w7.heap.size 34 3 (.slice (some ⟨gx, 0, none⟩) n cx) n (mcells ms)) := HOX11.out.below hb14; have HR14 : Hid (w14.heap[w9.heap.size]? = some (.cells #[.int .i64 cd, .slice ga res.length gc] 32 (0, 0))) := keepb HR11.out hb14; have HOG14 : Hid (OwnR w14 w8.heap.size w9.heap.size 34 3 (.slice ga res.length gc) res.length (mcells res)) := HOG11.out.below hb14; have h14 := mk_eq HK1.out (markNs_any _ n wq.heap.size w7.heap.size 1 _ w14 hn3 (by omega) HOX14.out); clear hb14)
      | (go_at_call 19; have hq := h14; clear h14; (with_reducible refine hq.mono ?_); clear hq; rintro e w15 ⟨rfl, _, hch⟩; have HB15 : Hid (Below w.heap.size w w15) := HB14.out.trans (hch.below HB5.out.size HB14.out.size); have HW15 : Hid (Below wq.heap.size wq w15) := HW14.out.trans (hch.below (Nat.le_refl _) HW14.out.size); have HR15 : Hid (w15.heap[w9.heap.size]? = some (.cells #[.int .i64 cd, .slice ga res.length gc] 32 (0, 0))) := hch.keep HR14.out (.inr (by have := HS8.out; have := HS9.out; omega)); have HOG15 : Hid (OwnR w15 w8.heap.size w9.heap.size 34 3 (.slice ga res.length gc) res.length (mcells res)) := HOG14.out.chg hch (.inr HS8.out); obtain ⟨y0, y1⟩ := cells2 HR15.out; obtain ⟨y2, y3⟩ := cells2 ((HW15.out.block R6 (lt_of_block HR6.out)).trans HR6.out); have h16 := eqTR_any ga va res.length gc vc cd res w15 hrl (mat_row HOG15.out.r rfl) (HC6.out.below HW15.out (Nat.le_refl _)); clear hch)
      | (go_at_call 18; have hq := h16; clear h16; (with_reducible refine hq.mono ?_); clear hq; rintro e w17 ⟨rfl, hb17⟩; have HB17 : Hid (Below w.heap.size w w17) := HB15.out.trans (hb17.mono HB15.out.size); have HW17 : Hid (Below wq.heap.size wq w17) := HW15.out.trans (hb17.mono HW15.out.size); have HR17 : Hid (w17.heap[w9.heap.size]? = some (.cells #[.int .i64 cd, .slice ga res.length gc] 32 (0, 0))) := keepb HR15.out hb17; have HOG17 : Hid (OwnR w17 w8.heap.size w9.heap.size 34 3 (.slice ga res.length gc) res.length (mcells res)) := HOG15.out.below hb17; clear y0 y1 y2 y3; obtain ⟨y0, y1⟩ := cells2 HR17.out; have h17 := mk_eq HM.out (markTR_any ga res.length gc w8.heap.size w9.heap.size 1 (mcells res) cd w17 hrl (by omega) HOG17.out); clear hb17)
      | (go_at_call 20; have hq := h17; clear h17; (with_reducible refine hq.mono ?_); clear hq; rintro e w18 ⟨rfl, hO18, hch⟩; have HB18 : Hid (Below w.heap.size w w18) := HB17.out.trans (hch.below HB8.out.size HB17.out.size); have HW18 : Hid (Below wq.heap.size wq w18) := HW17.out.trans (hch.below HW8.out.size HW17.out.size); have HR18 : Hid (w18.heap[w9.heap.size]? = some (.cells #[.int .i64 cd, .slice ga res.length gc] 32 (0, 0))) := hch.keep HR17.out (.inr (Nat.le_refl _)); have HOG18 : Hid (OwnR w18 w8.heap.size w9.heap.size 34 3 (.slice ga res.length gc) res.length (mkI 1 (res.length * 3))) := hO18; clear y0 y1; obtain ⟨y0, y1⟩ := cells2 HR18.out; have h18 := mk_eq HM.out (heldTR_any ga res.length gc w8.heap.size w9.heap.size 1 cd w18 hrl (by omega) HOG18.out); clear hch hO18)
      | (go_at_call 21; have hq := h18; clear h18; (with_reducible refine hq.mono ?_); clear hq; rintro e w19 ⟨rfl, hb19⟩; have HB19 : Hid (Below w.heap.size w w19) := HB18.out.trans (hb19.mono HB18.out.size); have HW19 : Hid (Below wq.heap.size wq w19) := HW18.out.trans (hb19.mono HW18.out.size); have HR19 : Hid (w19.heap[w9.heap.size]? = some (.cells #[.int .i64 cd, .slice ga res.length gc] 32 (0, 0))) := keepb HR18.out hb19; have HOG19 : Hid (OwnR w19 w8.heap.size w9.heap.size 34 3 (.slice ga res.length gc) res.length (mkI 1 (res.length * 3))) := HOG18.out.below hb19; clear y0 y1 hb19))
    have HCW : Hid (MAt w19 a n ms) := HT.out.below HB19.out (Nat.le_refl _)
    have HXW : Hid (w19.heap[w.heap.size]? = some (.cells #[.int .i64 id, .int .i64 pv, .int .i64 ht] 30 (0, 0))) := (HW19.out.block w.heap.size (lt_of_block HXQ.out)).trans HXQ.out
    have hTA : ∀ V, Below w19.heap.size w19 V → Calls Try.prog 12 #[.slice a n c] V fun e w' => ∃ g cc, e = .returned (.slice (some ⟨g, 0, none⟩) n cc) ∧ Hid (NC w' n cc g ms) ∧ Hid (Below V.heap.size V w') ∧ Hid (Below w19.heap.size w19 w') := fun V hV =>
      (toNs_any a n c ms V hn3 (HCW.out.below hV (Nat.le_refl _))).mono fun e w' ⟨g, cc, h1, h2, h5⟩ => ⟨g, cc, h1, NC.of h2 HN.out, h5, hV.trans (h5.mono hV.size)⟩
    have hTR : ∀ V, Below w19.heap.size w19 V → Calls Try.prog 16 #[.agg #[.int .i64 id, .int .i64 pv, .int .i64 ht]] V fun e w' => e = .returned (.agg #[.int .i64 id, .int .i64 pv, .int .i64 ht]) ∧ Hid (Below V.heap.size V w') ∧ Hid (Below w19.heap.size w19 w') := fun V hV =>
      (toNd_any id pv ht V).mono fun e w' ⟨h1, h5⟩ => ⟨h1, h5, hV.trans (h5.mono hV.size)⟩
    have d0 : Below w19.heap.size w19 w19.drew := (Below.refl _ _).drew
    have d1 : Below w19.heap.size w19 (w19.alloc (.cells #[.int .i64 0, .slice none 0 0] 32)).drew := (below_box (.cells #[.int .i64 0, .slice none 0 0] 32)).trans ((Below.refl _ _).drew)
    have HZ0 : Hid ((w19.alloc (.cells #[.int .i64 0, .slice none 0 0] 32)).drew.heap[w19.heap.size]? = some (.cells #[.int .i64 0, .slice none 0 0] 32 (0, 0))) := heap_alloc_new _ _
    obtain ⟨bx0, bx1, bx2⟩ := cells3 HXW.out
    have HBX : Hid (w19.cell? ⟨w.heap.size, 0, none⟩ = some (.int .i64 id) ∧ w19.cell? ⟨w.heap.size, 1, none⟩ = some (.int .i64 pv) ∧ w19.cell? ⟨w.heap.size, 2, none⟩ = some (.int .i64 ht)) := ⟨bx0, bx1, bx2⟩
    have hbl := lt_of_block HXW.out
    go_cut [12] (fun s wc => ∃ R, s = .pointer (some ⟨R, 0, none⟩) ∧ Hid (SRn w19 wc R cd res))
    case first =>
      go_region_held3 (fun w' => w'.cell? ⟨w.heap.size, 0, none⟩ = some (.int .i64 id) ∧ w'.cell? ⟨w.heap.size, 1, none⟩ = some (.int .i64 pv) ∧ w'.cell? ⟨w.heap.size, 2, none⟩ = some (.int .i64 ht)) (first | exact keepN3 ⟨xc0, xc1, xc2⟩ (by first | omega | (have := HAB.out.size; omega) | (have := HBB.out.size; omega)) | go_keep)
        (first
          | (go_at_call 12; (first
              | ((with_reducible refine (hTA w19.drew d0).mono ?_); rintro e uA ⟨g, cc, rfl, HCA, HA, HAB⟩; obtain ⟨za0, za1, za2⟩ := cellsN HAB.out hbl HBX.out)
              | ((with_reducible refine (hTA (w19.alloc (.cells #[.int .i64 0, .slice none 0 0] 32)).drew d1).mono ?_); rintro e uA ⟨g, cc, rfl, HCA, HA, HAB⟩; have HZA := keepb HZ0.out HA.out; obtain ⟨za0, za1, za2⟩ := cellsN HAB.out hbl HBX.out)))
          | (go_at_call 16; (first
              | ((with_reducible refine (hTR uA HAB.out).mono ?_); rintro e uB ⟨rfl, HBu, HBB⟩; have HCB := hidN HCA HBu.out; (first | (have hz := HZA; have HZB := keepb hz.out HBu.out) | skip); obtain ⟨yc0, yc1, yc2⟩ := cellsN HBB.out hbl HBX.out)
              | ((with_reducible refine (hTR (uA.alloc (.cells #[.int .i64 0, .slice none 0 0] 32)) (HAB.out.trans ((below_box _).mono HAB.out.size))).mono ?_); rintro e uB ⟨rfl, HBu, HBB⟩; have HCB := hidN (hidN HCA (below_box (.cells #[.int .i64 0, .slice none 0 0] 32))) HBu.out; have HZB2 := keepb (heap_alloc_new uA (.cells #[.int .i64 0, .slice none 0 0] 32)) HBu.out; obtain ⟨yc0, yc1, yc2⟩ := cellsN HBB.out hbl HBX.out)))
          | (go_at_call 17; (first
              | ((with_reducible refine (hIM w19 uB g cc HCB HBB.out).mono ?_); rintro e uC ⟨va, vc, rfl, HOC, HCu, HCC⟩; obtain ⟨xc0, xc1, xc2⟩ := cellsN HCC.out hbl HBX.out; (first | (have hz := HZB; have HZC := keepb hz.out HCu.out; obtain ⟨y0, y1⟩ := cells2 HZC.out; have f0 := Joins.unfrozen_of_block HZC.out 0; have f1 := Joins.unfrozen_of_block HZC.out 1) | (have hz := HZB2; have HZC2 := keepb hz.out HCu.out; obtain ⟨y0, y1⟩ := cells2 HZC2.out; have f0 := Joins.unfrozen_of_block HZC2.out 0; have f1 := Joins.unfrozen_of_block HZC2.out 1) | skip))
              | ((with_reducible refine (hIM w19 (uB.alloc (.cells #[.int .i64 0, .slice none 0 0] 32)) g cc (hidN HCB (below_box (.cells #[.int .i64 0, .slice none 0 0] 32))) (HBB.out.trans ((below_box _).mono HBB.out.size))).mono ?_); rintro e uC ⟨va, vc, rfl, HOC, HCu, HCC⟩; obtain ⟨xc0, xc1, xc2⟩ := cellsN HCC.out hbl HBX.out; have HZC3 := keepb (heap_alloc_new uB (.cells #[.int .i64 0, .slice none 0 0] 32)) HCu.out; obtain ⟨y0, y1⟩ := cells2 HZC3.out; have f0 := Joins.unfrozen_of_block HZC3.out 0; have f1 := Joins.unfrozen_of_block HZC3.out 1))))
      all_goals
        go_wp2
        go_meet
        first
          | exact ⟨_, rfl, srn_set HOC HCC HZC (Nat.le_refl _) (by have := HAB.out.size; have := HBu.out.size; have := lt_of_block HZA.out; omega)⟩
          | exact ⟨_, rfl, srn_set HOC HCC HZC2 HAB.out.size (by have := HBu.out.size; simp at this; omega)⟩
          | exact ⟨_, rfl, srn_set HOC HCC HZC3 HBB.out.size (by simp)⟩
          | exact ⟨_, rfl, srn_new HOC HCC⟩
    case rest =>
      obtain ⟨R12, hs12, HS12⟩ := hcut
      subst hs12
      obtain ⟨hR12, hB12', vb, vd, hb12, hC12⟩ := HS12.out
      have HB24 : Hid (Below w.heap.size w wc) := HB19.out.trans (hB12'.mono HB19.out.size)
      have HW24 : Hid (Below wq.heap.size wq wc) := HW19.out.trans (hB12'.mono HW19.out.size)
      have HR24 : Hid (wc.heap[w9.heap.size]? = some (.cells #[.int .i64 cd, .slice ga res.length gc] 32 (0, 0))) := keepb HR19.out hB12'
      have HOG24 : Hid (OwnR wc w8.heap.size w9.heap.size 34 3 (.slice ga res.length gc) res.length (mkI 1 (res.length * 3))) := HOG19.out.below hB12'
      obtain ⟨x0, x1⟩ := cells2 hb12
      obtain ⟨y2, y3⟩ := cells2 ((HW24.out.block R6 (lt_of_block HR6.out)).trans HR6.out)
      obtain ⟨z0, z1⟩ := cells2 HR24.out
      have heq24 := eqTR_any vb va res.length vd vc cd res wc hrl hC12 (HC6.out.below HW24.out (Nat.le_refl _))
      clear hR12 hB12' hb12 hC12 HS12 hTA hTR d0 HZ0 bx0 bx1 bx2 HBX hbl
      go_wp2_with (first
        | (go_at_call 18; have hq := heq24; clear heq24; (with_reducible refine hq.mono ?_); clear hq; rintro e w25 ⟨rfl, hb25⟩; have HB25 : Hid (Below w.heap.size w w25) := HB24.out.trans (hb25.mono HB24.out.size); have HR25 : Hid (w25.heap[w9.heap.size]? = some (.cells #[.int .i64 cd, .slice ga res.length gc] 32 (0, 0))) := keepb HR24.out hb25; clear z0 z1 x0 x1 y2 y3; obtain ⟨z0, z1⟩ := cells2 HR25.out; have h25 := mk_eq HM.out (heldTR_any ga res.length gc w8.heap.size w9.heap.size 1 cd w25 hrl (by omega) (HOG24.out.below hb25)); clear hb25)
        | (go_at_call 21; have hq := h25; clear h25; (with_reducible refine hq.mono ?_); clear hq; rintro e w26 ⟨rfl, hb26⟩; have HB26 : Hid (Below w.heap.size w w26) := HB25.out.trans (hb26.mono HB25.out.size); clear hb26))
      go_ret
      exact ⟨rfl, HB26.out⟩

end Go.Proofs.Ytjlhoefkcdhonaa
