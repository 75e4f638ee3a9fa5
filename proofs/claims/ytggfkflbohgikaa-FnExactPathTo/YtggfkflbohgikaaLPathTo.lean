/- The law on PathTo answers true, whatever comes in, and writes nothing that was there. -/
import Derived.Test.YtggfkflbohgikaaVc
import Derived.Test.YtggfkflbohgikaaVd
import Derived.Test.YtggfkflbohgikaaVe
import Derived.Test.YtggfkflbohgikaaLTreeFault
namespace Go.Proofs.Ytggfkflbohgikaa
open Go.RowKit Go.Maps Go.WideMaps

theorem mk_eq {w : World} {f : Nat} {v : Value} {K K1 : Nat} {Q : World → Prop} (hK : K = K1) (h : Calls Try.prog f #[v, .int .i64 ((1 : Nat) : Int)] w fun e w' => e = .returned (.int .i64 (K : Nat)) ∧ Q w') : Calls Try.prog f #[v, .int .i64 1] w fun e w' => e = .returned (.int .i64 (K1 : Nat)) ∧ Q w' := by subst hK; exact h
theorem pathR_len (ms : List Mb) (x : Int) : (pathR ms x).2.length ≤ 61 := by
  unfold pathR
  by_cases h : treeR ms ≠ 0
  · rw [if_pos h]; simp
  · rw [if_neg h]
    split
    · simp
    · have := pathF_len ms (ms.length + 1) x
      have := tree_few (Decidable.not_not.1 h)
      simp only
      omega

set_option maxRecDepth 20000 in
set_option maxHeartbeats 8000000 in
theorem lawPathTo (xn0 xc0 : Nat) (xa0 : Option Addr) (xs0 : List Mb) (yx1 : Int) (w : World) (hn0 : xn0 ≤ maxLen) (h0 : MAt w xa0 xn0 xs0)  (hfn : FineN xs0) (hwx : (Lit.int .i64 yx1).wf = true) :
    Calls Try.prog 3 #[.slice xa0 xn0 xc0, .int .i64 yx1] w fun e w' => e = .returned (.bool true) ∧ Below w.heap.size w w' := by
  have HT0 : Hid (MAt w xa0 xn0 xs0) := h0
  have HN0 : Hid (xs0.length = xn0) := h0.1
  have HFN : Hid (FineN xs0) := hfn
  have HWX : Hid ((Lit.int .i64 yx1).wf = true) := hwx
  clear hfn hwx
  obtain ⟨cd, hcd⟩ : ∃ x, x = (pathR xs0 yx1).1 := ⟨_, rfl⟩
  obtain ⟨res, hres⟩ : ∃ x, x = (pathR xs0 yx1).2 := ⟨_, rfl⟩
  have HAT : Hid ((pathR xs0 yx1).1 = cd ∧ (pathR xs0 yx1).2 = res) := ⟨hcd.symm, hres.symm⟩
  clear hcd hres h0
  go_enter Try.func3, Try.ntmps3
  have hsz := szNs_any xa0 xn0 xc0 1048576 w (by omega) (by omega) hn0
  go_wp2_with (go_at_call 6; (with_reducible refine hsz.mono ?_); clear hsz; rintro e w1 ⟨r, rfl, hw1, hr⟩; have hw2 := hw1.symm; subst hw2; clear hw1)
  · go_ret
    exact ⟨rfl, Below.refl _ _⟩
  have hr0 : 0 ≤ r := by assumption
  rcases hr with e | ⟨_, hr1, hn2⟩
  · omega
  have hb0 : xn0 ≤ 1048576 := by omega
  clear hn2
  have HB1 : Hid (Below w.heap.size w w) := Below.refl _ _
  have hrl : res.length ≤ 1048576 := by
    rw [← HAT.out.2]
    exact (by have := pathR_len xs0 yx1; have := HN0.out; omega)
  have hSP : ∀ W pa0 pc0, (xn0 ≤ pc0 ∧ pc0 ≤ maxLen ∧ MAt W pa0 xn0 xs0) → Calls Try.prog 7 #[.slice pa0 xn0 pc0, .int .i64 yx1] W fun e w' => ∃ va vc, e = .returned (.agg #[.int .i64 cd, .slice va res.length vc]) ∧ Hid (World.ownsRow w' W.heap.size 2 1 (.slice va res.length vc) res.length (ints res)) ∧ Hid (Below W.heap.size W w') := fun W pa0 pc0 hp0 => by
    have := sPathTo_any xn0 pc0 pa0 xs0 yx1 W hb0 hp0
    rw [HAT.out.1, HAT.out.2] at this
    exact this.mono fun e w' ⟨va, vc, e1, hO, hb⟩ => ⟨va, vc, e1, hO, hb⟩
  have hIM : ∀ W pa0 pc0, (xn0 ≤ pc0 ∧ pc0 ≤ maxLen ∧ MAt W pa0 xn0 xs0) → Calls Try.prog 9 #[.slice pa0 xn0 pc0, .int .i64 yx1] W fun e w' => ∃ va vc, e = .returned (.agg #[.int .i64 cd, .slice va res.length vc]) ∧ Hid (World.ownsRow w' W.heap.size 2 1 (.slice va res.length vc) res.length (ints res)) ∧ Hid (Below W.heap.size W w') := fun W pa0 pc0 hp0 => by
    have := iPathTo_any xn0 pc0 pa0 xs0 yx1 W hb0 hp0 HFN.out HWX.out
    rw [HAT.out.1, HAT.out.2] at this
    exact this.mono fun e w' ⟨va, vc, e1, hO, hb⟩ => ⟨va, vc, e1, hO, hb⟩
  obtain ⟨Ka1, hKa1⟩ : ∃ K, K = 1 + xn0 * 3 := ⟨_, rfl⟩
  obtain ⟨Mm, hMm⟩ : ∃ K, K = 1 + res.length := ⟨_, rfl⟩
  have HKa1 : Hid (1 + xn0 * 3 = Ka1) := hKa1.symm
  have HMm : Hid (1 + res.length = Mm) := hMm.symm
  have d1 : decide ((Ka1 : Int) < 0) = false := decide_eq_false (by omega)
  have d2 : decide ((Mm : Int) < 0) = false := decide_eq_false (by omega)
  have d3 : ¬ (Ka1 : Int) < 0 := by omega
  have d4 : ¬ (Mm : Int) < 0 := by omega
  clear hKa1 hMm
  refine (toNs_any xa0 xn0 xc0 xs0 w hb0 (HT0.out)).mono ?_
  rintro e uA ⟨gA, cA, rfl, hrow, hbA⟩
  have HBA : Hid (Below w.heap.size w uA) := hbA
  have h3 := hSP uA (some ⟨gA, 0, none⟩) cA ⟨(ncaps hrow).1, (ncaps hrow).2, (MAt.owned hrow HN0.out)⟩
  clear hrow hbA
  go_wp2_with (first
    | (go_at_call 7; have hq := h3; clear h3; (with_reducible refine hq.mono ?_); clear hq; rintro e uC ⟨va, vc, rfl, HOC, HBC⟩; have HB6 : Hid (Below w.heap.size w (uC.alloc (.cells #[.int .i64 cd, .slice va res.length vc] 26))) := (HBA.out.trans (HBC.out.mono HBA.out.size)).trans ((below_box _).mono (by have := HBA.out.size; have := HBC.out.size; omega)); have HR6 : Hid ((uC.alloc (.cells #[.int .i64 cd, .slice va res.length vc] 26)).heap[uC.heap.size]? = some (.cells #[.int .i64 cd, .slice va res.length vc] 26 (0, 0))) := heap_alloc_new _ _; have HC6 : Hid (IAt (uC.alloc (.cells #[.int .i64 cd, .slice va res.length vc] 26)) va res.length res) := IAt.owned (HOC.out.alloc _) rfl; have h4 := toNs_any xa0 xn0 xc0 xs0 (uC.alloc (.cells #[.int .i64 cd, .slice va res.length vc] 26)) hb0 (HT0.out.below HB6.out (Nat.le_refl _)))
    | (go_at_call 8; have hq := h4; clear h4; (with_reducible refine hq.mono ?_); clear hq; rintro e w7 ⟨gx, cx, rfl, hrow, hb7⟩; have HOX7 : Hid (OwnR w7 (uC.alloc (.cells #[.int .i64 cd, .slice va res.length vc] 26)).heap.size w7.heap.size 40 3 (.slice (some ⟨gx, 0, none⟩) xn0 cx) xn0 (mcells xs0)) := OwnR.of hrow; have HW7 : Hid (Below (uC.alloc (.cells #[.int .i64 cd, .slice va res.length vc] 26)).heap.size (uC.alloc (.cells #[.int .i64 cd, .slice va res.length vc] 26)) w7) := hb7; have HB7 : Hid (Below w.heap.size w w7) := HB6.out.trans (hb7.mono HB6.out.size); have HS67 : Hid ((uC.alloc (.cells #[.int .i64 cd, .slice va res.length vc] 26)).heap.size ≤ w7.heap.size) := hb7.size; have h6 := hIM w7 (some ⟨gx, 0, none⟩) cx ⟨(ncaps HOX7.out.r).1, (ncaps HOX7.out.r).2, (MAt.owned HOX7.out.r HN0.out)⟩; clear hrow hb7)
    | (go_at_call 9; have hq := h6; clear h6; (with_reducible refine hq.mono ?_); clear hq; rintro e w9 ⟨ga, gc, rfl, HOG, HBG⟩; have hbz : Below w7.heap.size w7 (w9.alloc (.cells #[.int .i64 cd, .slice ga res.length gc] 26)) := (HBG.out.trans ((below_box (.cells #[.int .i64 cd, .slice ga res.length gc] 26)).mono HBG.out.size)); have HB9 : Hid (Below w.heap.size w (w9.alloc (.cells #[.int .i64 cd, .slice ga res.length gc] 26))) := HB7.out.trans (hbz.mono HB7.out.size); have HW9 : Hid (Below (uC.alloc (.cells #[.int .i64 cd, .slice va res.length vc] 26)).heap.size (uC.alloc (.cells #[.int .i64 cd, .slice va res.length vc] 26)) (w9.alloc (.cells #[.int .i64 cd, .slice ga res.length gc] 26))) := HW7.out.trans (hbz.mono HW7.out.size); have HOX9 : Hid (OwnR (w9.alloc (.cells #[.int .i64 cd, .slice ga res.length gc] 26)) (uC.alloc (.cells #[.int .i64 cd, .slice va res.length vc] 26)).heap.size w7.heap.size 40 3 (.slice (some ⟨gx, 0, none⟩) xn0 cx) xn0 (mcells xs0)) := HOX7.out.below hbz; have HR9 : Hid ((w9.alloc (.cells #[.int .i64 cd, .slice ga res.length gc] 26)).heap[w9.heap.size]? = some (.cells #[.int .i64 cd, .slice ga res.length gc] 26 (0, 0))) := heap_alloc_new _ _; have HOG9 : Hid (Own1 (w9.alloc (.cells #[.int .i64 cd, .slice ga res.length gc] 26)) w7.heap.size w9.heap.size ga res.length gc (ints res)) := (own1_of HOG.out).below (below_box _); have HS79 : Hid (w7.heap.size ≤ w9.heap.size) := HBG.out.size; obtain ⟨y0, y1⟩ := cells2 HR9.out; obtain ⟨y2, y3⟩ := cells2 ((HW9.out.block uC.heap.size (lt_of_block HR6.out)).trans HR6.out); have h7 := eqIR_any ga va res.length gc vc cd res (w9.alloc (.cells #[.int .i64 cd, .slice ga res.length gc] 26)) hrl (IAt.owned HOG9.out.t rfl) (HC6.out.below HW9.out (Nat.le_refl _)); clear hbz)
    | (go_at_call 10; have hq := h7; clear h7; (with_reducible refine hq.mono ?_); clear hq; rintro e w10 ⟨rfl, hb10⟩; have HB10 : Hid (Below w.heap.size w w10) := HB9.out.trans (hb10.mono HB9.out.size); have HW10 : Hid (Below (uC.alloc (.cells #[.int .i64 cd, .slice va res.length vc] 26)).heap.size (uC.alloc (.cells #[.int .i64 cd, .slice va res.length vc] 26)) w10) := HW9.out.trans (hb10.mono HW9.out.size); have HR10 := keepb HR9.out hb10; have HOG10 : Hid (Own1 w10 w7.heap.size w9.heap.size ga res.length gc (ints res)) := HOG9.out.below hb10; have HOX10 : Hid (OwnR w10 (uC.alloc (.cells #[.int .i64 cd, .slice va res.length vc] 26)).heap.size w7.heap.size 40 3 (.slice (some ⟨gx, 0, none⟩) xn0 cx) xn0 (mcells xs0)) := HOX9.out.below hb10; clear y0 y1 y2 y3; have h8 := toNs_any xa0 xn0 xc0 xs0 w10 hb0 (HT0.out.below HB10.out (Nat.le_refl _)); clear hb10)
    | (go_at_call 8; have hq := h8; clear h8; (with_reducible refine hq.mono ?_); clear hq; rintro e w11 ⟨g11, c11, rfl, hrow, hb11⟩; have HB11 : Hid (Below w.heap.size w w11) := HB10.out.trans (hb11.mono HB10.out.size); have HW11 : Hid (Below (uC.alloc (.cells #[.int .i64 cd, .slice va res.length vc] 26)).heap.size (uC.alloc (.cells #[.int .i64 cd, .slice va res.length vc] 26)) w11) := HW10.out.trans (hb11.mono HW10.out.size); have HR11 := keepb HR10.out hb11; have HOG11 : Hid (Own1 w11 w7.heap.size w9.heap.size ga res.length gc (ints res)) := HOG10.out.below hb11; have HOX11 : Hid (OwnR w11 (uC.alloc (.cells #[.int .i64 cd, .slice va res.length vc] 26)).heap.size w7.heap.size 40 3 (.slice (some ⟨gx, 0, none⟩) xn0 cx) xn0 (mcells xs0)) := HOX10.out.below hb11; have h9 := eqNs_any (some ⟨gx, 0, none⟩) (some ⟨g11, 0, none⟩) xn0 cx c11 xs0 w11 hb0 (MAt.owned HOX11.out.r HN0.out) (MAt.owned hrow HN0.out); clear hrow hb11)
    | (go_at_call 11; have hq := h9; clear h9; (with_reducible refine hq.mono ?_); clear hq; rintro e w12 ⟨rfl, hb12⟩; have HB12 : Hid (Below w.heap.size w w12) := HB11.out.trans (hb12.mono HB11.out.size); have HW12 : Hid (Below (uC.alloc (.cells #[.int .i64 cd, .slice va res.length vc] 26)).heap.size (uC.alloc (.cells #[.int .i64 cd, .slice va res.length vc] 26)) w12) := HW11.out.trans (hb12.mono HW11.out.size); have HR12 := keepb HR11.out hb12; have HOG12 : Hid (Own1 w12 w7.heap.size w9.heap.size ga res.length gc (ints res)) := HOG11.out.below hb12; have HOX12 : Hid (OwnR w12 (uC.alloc (.cells #[.int .i64 cd, .slice va res.length vc] 26)).heap.size w7.heap.size 40 3 (.slice (some ⟨gx, 0, none⟩) xn0 cx) xn0 (mcells xs0)) := HOX11.out.below hb12; have h12 := mk_eq HKa1.out (markNs_any _ xn0 (uC.alloc (.cells #[.int .i64 cd, .slice va res.length vc] 26)).heap.size w7.heap.size 1 _ w12 hb0 (by omega) HOX12.out); clear hb12)
    | (go_at_call 12; have hq := h12; clear h12; (with_reducible refine hq.mono ?_); clear hq; rintro e w15 ⟨rfl, _, hch⟩; have HB15 : Hid (Below w.heap.size w w15) := HB12.out.trans (hch.below HB6.out.size HB12.out.size); have HW15 : Hid (Below (uC.alloc (.cells #[.int .i64 cd, .slice va res.length vc] 26)).heap.size (uC.alloc (.cells #[.int .i64 cd, .slice va res.length vc] 26)) w15) := HW12.out.trans (hch.below (Nat.le_refl _) HW12.out.size); have HR15 : Hid (w15.heap[w9.heap.size]? = some (.cells #[.int .i64 cd, .slice ga res.length gc] 26 (0, 0))) := hch.keep HR12.out (.inr HS79.out); have HOG15 : Hid (Own1 w15 w7.heap.size w9.heap.size ga res.length gc (ints res)) := HOG12.out.chg hch (.inr (Nat.le_refl _)); obtain ⟨y0, y1⟩ := cells2 HR15.out; obtain ⟨y2, y3⟩ := cells2 ((HW15.out.block uC.heap.size (lt_of_block HR6.out)).trans HR6.out); have h14 := eqIR_any ga va res.length gc vc cd res w15 hrl (IAt.owned HOG15.out.t rfl) (HC6.out.below HW15.out (Nat.le_refl _)); clear hch)
    | (go_at_call 10; have hq := h14; clear h14; (with_reducible refine hq.mono ?_); clear hq; rintro e w17 ⟨rfl, hb17⟩; have HB17 : Hid (Below w.heap.size w w17) := HB15.out.trans (hb17.mono HB15.out.size); have HW17 : Hid (Below (uC.alloc (.cells #[.int .i64 cd, .slice va res.length vc] 26)).heap.size (uC.alloc (.cells #[.int .i64 cd, .slice va res.length vc] 26)) w17) := HW15.out.trans (hb17.mono HW15.out.size); have HR17 := keepb HR15.out hb17; have HOG17 : Hid (Own1 w17 w7.heap.size w9.heap.size ga res.length gc (ints res)) := HOG15.out.below hb17; clear y0 y1 y2 y3; obtain ⟨y0, y1⟩ := cells2 HR17.out; have h15 := mk_eq HMm.out (markIR_any ga res.length gc w7.heap.size w9.heap.size 1 (ints res) cd w17 (by omega) HOG17.out); clear hb17)
    | (go_at_call 13; have hq := h15; clear h15; (with_reducible refine hq.mono ?_); clear hq; rintro e w18 ⟨rfl, hO18, hch⟩; have HB18 : Hid (Below w.heap.size w w18) := HB17.out.trans (hch.below HB7.out.size HB17.out.size); have HW18 : Hid (Below (uC.alloc (.cells #[.int .i64 cd, .slice va res.length vc] 26)).heap.size (uC.alloc (.cells #[.int .i64 cd, .slice va res.length vc] 26)) w18) := HW17.out.trans (hch.below HW7.out.size HW17.out.size); have HR18 : Hid (w18.heap[w9.heap.size]? = some (.cells #[.int .i64 cd, .slice ga res.length gc] 26 (0, 0))) := hch.keep HR17.out (.inr (Nat.le_refl _)); have HOG18 : Hid (Own1 w18 w7.heap.size w9.heap.size ga res.length gc (mkI 1 res.length)) := hO18; clear y0 y1; obtain ⟨y0, y1⟩ := cells2 HR18.out; have h16 := mk_eq HMm.out (heldIR_any ga res.length gc w7.heap.size w9.heap.size 1 cd w18 (by omega) HOG18.out); clear hch hO18)
    | (go_at_call 14; have hq := h16; clear h16; (with_reducible refine hq.mono ?_); clear hq; rintro e w19 ⟨rfl, hb19⟩; have HB19 : Hid (Below w.heap.size w w19) := HB18.out.trans (hb19.mono HB18.out.size); have HW19 : Hid (Below (uC.alloc (.cells #[.int .i64 cd, .slice va res.length vc] 26)).heap.size (uC.alloc (.cells #[.int .i64 cd, .slice va res.length vc] 26)) w19) := HW18.out.trans (hb19.mono HW18.out.size); have HR19 := keepb HR18.out hb19; have HOG19 : Hid (Own1 w19 w7.heap.size w9.heap.size ga res.length gc (mkI 1 res.length)) := HOG18.out.below hb19; clear y0 y1; have h17 := toNs_any xa0 xn0 xc0 xs0 w19 hb0 (HT0.out.below HB19.out (Nat.le_refl _)); clear hb19)
    | (go_at_call 8; have hq := h17; clear h17; (with_reducible refine hq.mono ?_); clear hq; rintro e w20 ⟨g20, c20, rfl, hrow, hb20⟩; have HB20 : Hid (Below w.heap.size w w20) := HB19.out.trans (hb20.mono HB19.out.size); have HW20 : Hid (Below (uC.alloc (.cells #[.int .i64 cd, .slice va res.length vc] 26)).heap.size (uC.alloc (.cells #[.int .i64 cd, .slice va res.length vc] 26)) w20) := HW19.out.trans (hb20.mono HW19.out.size); have HR20 := keepb HR19.out hb20; have HOG20 : Hid (Own1 w20 w7.heap.size w9.heap.size ga res.length gc (mkI 1 res.length)) := HOG19.out.below hb20; have h19 := hIM w20 (some ⟨g20, 0, none⟩) c20 ⟨(ncaps hrow).1, (ncaps hrow).2, (MAt.owned hrow HN0.out)⟩; clear hrow hb20)
    | (go_at_call 9; have hq := h19; clear h19; (with_reducible refine hq.mono ?_); clear hq; rintro e w22 ⟨gb, gd, rfl, HOH, HBH⟩; have hbz : Below w20.heap.size w20 (w22.alloc (.cells #[.int .i64 cd, .slice gb res.length gd] 26)) := (HBH.out.trans ((below_box (.cells #[.int .i64 cd, .slice gb res.length gd] 26)).mono HBH.out.size)); have HB22 : Hid (Below w.heap.size w (w22.alloc (.cells #[.int .i64 cd, .slice gb res.length gd] 26))) := HB20.out.trans (hbz.mono HB20.out.size); have HW22 : Hid (Below (uC.alloc (.cells #[.int .i64 cd, .slice va res.length vc] 26)).heap.size (uC.alloc (.cells #[.int .i64 cd, .slice va res.length vc] 26)) (w22.alloc (.cells #[.int .i64 cd, .slice gb res.length gd] 26))) := HW20.out.trans (hbz.mono HW20.out.size); have HR22 := keepb HR20.out hbz; have HOG22 : Hid (Own1 (w22.alloc (.cells #[.int .i64 cd, .slice gb res.length gd] 26)) w7.heap.size w9.heap.size ga res.length gc (mkI 1 res.length)) := HOG20.out.below hbz; have HCH : Hid (IAt (w22.alloc (.cells #[.int .i64 cd, .slice gb res.length gd] 26)) gb res.length res) := IAt.owned (HOH.out.alloc _) rfl; have HR22b : Hid ((w22.alloc (.cells #[.int .i64 cd, .slice gb res.length gd] 26)).heap[w22.heap.size]? = some (.cells #[.int .i64 cd, .slice gb res.length gd] 26 (0, 0))) := heap_alloc_new _ _; obtain ⟨x0, x1⟩ := cells2 HR22b.out; obtain ⟨y2, y3⟩ := cells2 ((HW22.out.block uC.heap.size (lt_of_block HR6.out)).trans HR6.out); have h20 := eqIR_any gb va res.length gd vc cd res (w22.alloc (.cells #[.int .i64 cd, .slice gb res.length gd] 26)) hrl HCH.out (HC6.out.below HW22.out (Nat.le_refl _)); clear hbz)
    | (go_at_call 10; have hq := h20; clear h20; (with_reducible refine hq.mono ?_); clear hq; rintro e w23 ⟨rfl, hb23⟩; have HB23 : Hid (Below w.heap.size w w23) := HB22.out.trans (hb23.mono HB22.out.size); have HW23 : Hid (Below (uC.alloc (.cells #[.int .i64 cd, .slice va res.length vc] 26)).heap.size (uC.alloc (.cells #[.int .i64 cd, .slice va res.length vc] 26)) w23) := HW22.out.trans (hb23.mono HW22.out.size); have HR23 := keepb HR22.out hb23; have HOG23 : Hid (Own1 w23 w7.heap.size w9.heap.size ga res.length gc (mkI 1 res.length)) := HOG22.out.below hb23; clear x0 x1 y2 y3; obtain ⟨y0, y1⟩ := cells2 HR23.out; have h21 := mk_eq HMm.out (heldIR_any ga res.length gc w7.heap.size w9.heap.size 1 cd w23 (by omega) HOG23.out); clear hb23)
    | (go_at_call 14; have hq := h21; clear h21; (with_reducible refine hq.mono ?_); clear hq; rintro e w24 ⟨rfl, hb24⟩; have HB24 : Hid (Below w.heap.size w w24) := HB23.out.trans (hb24.mono HB23.out.size); clear hb24 y0 y1))
  go_ret
  exact ⟨rfl, HB24.out⟩

end Go.Proofs.Ytggfkflbohgikaa
