/- The law on ForkOf answers true, whatever tree and numbers come in, where the program's ForkOf keeps its contract, and writes nothing that was there. -/
import Derived.Test.YtjlhoefkcdhonaaLf
import Derived.Test.YtjlhoefkcdhonaaLTreeFault
import Derived.Test.YtjlhoefkcdhonaaIdOf
namespace Go.Proofs.Ytjlhoefkcdhonaa
open Go.RowKit Go.Maps Go.WideMaps

/-- What the program's ForkOf owes. -/
def IForkOf : Prop := ∀ (n c : Nat) (a : Option Addr) (ms : List Mb) (x y : Int) (w : World), n ≤ 1048576 → n ≤ c → c ≤ maxLen → MAt w a n ms → FineN ms → (Lit.int .i64 x).wf = true → (Lit.int .i64 y).wf = true → Calls Try.prog 37 #[.slice a n c, .int .i64 x, .int .i64 y] w fun e w' => e = .returned (.agg #[.int .i64 (forkR ms x y).1, .int .i64 (forkR ms x y).2]) ∧ Below w.heap.size w w'

set_option maxRecDepth 20000 in
set_option maxHeartbeats 2000000 in
theorem lawForkOf (hI : IForkOf) (n c : Nat) (a : Option Addr) (cs : List Mb) (x y : Int) (w : World) (hn : n ≤ maxLen) (h : MAt w a n cs) (hfn : FineN cs) (hx : (Lit.int .i64 x).wf = true) (hy : (Lit.int .i64 y).wf = true) :
    Calls Try.prog 9 #[.slice a n c, .int .i64 x, .int .i64 y] w fun e w' => e = .returned (.bool true) ∧ Below w.heap.size w w' := by
  have hsz := szNs_any a n c 1048576 w (by omega) (by omega) hn
  have HT : Hid (MAt w a n cs) := h
  have HI : Hid IForkOf := hI
  have HFN : Hid (FineN cs) := hfn
  have HXY : Hid ((Lit.int .i64 x).wf = true ∧ (Lit.int .i64 y).wf = true) := ⟨hx, hy⟩
  clear h hI hfn hx hy
  obtain ⟨cd, hcd⟩ : ∃ r, r = (forkR cs x y).1 := ⟨_, rfl⟩
  obtain ⟨q, hq⟩ : ∃ r, r = (forkR cs x y).2 := ⟨_, rfl⟩
  have HCD : Hid ((forkR cs x y).1 = cd ∧ (forkR cs x y).2 = q) := ⟨hcd.symm, hq.symm⟩
  clear hcd hq
  go_enter Try.func9, Try.ntmps9
  go_wp2_with (go_at_call 10; (with_reducible refine hsz.mono ?_); clear hsz; rintro e w1 ⟨r, rfl, hw1, hr⟩; have hw2 := hw1.symm; subst hw2; clear hw1)
  · go_ret
    exact ⟨rfl, Below.refl _ _⟩
  have hr0 : 0 ≤ r := by assumption
  rcases hr with e | ⟨_, hr1, hn2⟩
  · omega
  have hn3 : n ≤ 1048576 := by omega
  clear hn2
  refine (toNs_any a n c cs w hn3 HT.out).mono ?_
  rintro e w2 ⟨g0, c0, rfl, hC2, hb2⟩
  have HB2 : Hid (Below w.heap.size w w2) := hb2
  have hsp := sForkOf_any n c0 _ cs x y w2 hn3 (ncaps hC2).1 (MAt.owned hC2 HT.out.1)
  rw [HCD.out.1, HCD.out.2] at hsp
  clear hC2 hb2
  go_wp2_with (go_at_call 36; (with_reducible refine hsp.mono ?_); clear hsp; rintro e w3 ⟨rfl, hb3⟩; have HB3 : Hid (Below w.heap.size w (w3.alloc (.cells #[.int .i64 cd, .int .i64 q] 50))) := (HB2.out.trans (hb3.mono HB2.out.size)).trans ((below_box _).mono (Nat.le_trans HB2.out.size hb3.size)); have HX3 : Hid ((w3.alloc (.cells #[.int .i64 cd, .int .i64 q] 50)).heap[w3.heap.size]? = some (.cells #[.int .i64 cd, .int .i64 q] 50 (0, 0))) := heap_alloc_new _ _; clear hb3)
  refine (toNs_any a n c cs (w3.alloc (.cells #[.int .i64 cd, .int .i64 q] 50)) hn3 (HT.out.below HB3.out (Nat.le_refl _))).mono ?_
  rintro e w4 ⟨g1, c1, rfl, hC4, hb4⟩
  have HB4 : Hid (Below w.heap.size w w4) := HB3.out.trans (hb4.mono HB3.out.size)
  have HX4 := keepb HX3.out hb4
  have HC4 : Hid (MAt w4 (some ⟨g1, 0, none⟩) n cs) := MAt.owned hC4 HT.out.1
  have him := HI.out n c1 _ cs x y w4 hn3 (ncaps hC4).1 (ncaps hC4).2 HC4.out HFN.out HXY.out.1 HXY.out.2
  rw [HCD.out.1, HCD.out.2] at him
  clear hC4 hb4
  go_wp2_with (first
    | (go_at_call 37; (with_reducible refine him.mono ?_); clear him; rintro e w5 ⟨rfl, hb5⟩; have hbx5 : Below w4.heap.size w4 (w5.alloc (.cells #[.int .i64 cd, .int .i64 q] 50)) := hb5.trans ((below_box _).mono hb5.size); have HB5 : Hid (Below w.heap.size w (w5.alloc (.cells #[.int .i64 cd, .int .i64 q] 50))) := HB4.out.trans (hbx5.mono HB4.out.size); have HC5 : Hid (MAt (w5.alloc (.cells #[.int .i64 cd, .int .i64 q] 50)) (some ⟨g1, 0, none⟩) n cs) := HC4.out.below hbx5 (Nat.le_refl _); have HX5 := keepb HX4.out hbx5; obtain ⟨x0, x1⟩ := cells2 HX5.out; have hE := eqIntR_any cd q (w5.alloc (.cells #[.int .i64 cd, .int .i64 q] 50)); clear hb5 hbx5)
    | (go_at_call 32; (with_reducible refine hE.mono ?_); clear hE; rintro e w6 ⟨rfl, hb6⟩; have HB6 : Hid (Below w.heap.size w w6) := HB5.out.trans (hb6.mono HB5.out.size); have HC6 : Hid (MAt w6 (some ⟨g1, 0, none⟩) n cs) := HC5.out.below hb6 (Nat.le_refl _); clear hb6))
  refine (toNs_any a n c cs w6 hn3 (HT.out.below HB6.out (Nat.le_refl _))).mono ?_
  rintro e w7 ⟨g2, c2, rfl, hC7, hb7⟩
  have HB7 : Hid (Below w.heap.size w w7) := HB6.out.trans (hb7.mono HB6.out.size)
  have heq := eqNs_any _ _ n c1 c2 cs w7 hn3 (HC6.out.below hb7 (Nat.le_refl _)) (MAt.owned hC7 HT.out.1)
  clear hC7 hb7
  go_wp2_with (go_at_call 14; (with_reducible refine heq.mono ?_); clear heq; rintro e w8 ⟨rfl, hb8⟩; have HB8 : Hid (Below w.heap.size w w8) := HB7.out.trans (hb8.mono HB7.out.size); clear hb8)
  go_ret
  exact ⟨rfl, HB8.out⟩

end Go.Proofs.Ytjlhoefkcdhonaa
