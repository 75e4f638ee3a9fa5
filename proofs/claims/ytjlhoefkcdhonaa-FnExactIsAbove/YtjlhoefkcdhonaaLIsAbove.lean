/- The law on IsAbove answers true, whatever tree and numbers come in, where the program's IsAbove keeps its contract, and writes nothing that was there. -/
import Derived.Test.YtjlhoefkcdhonaaLe
import Derived.Test.YtjlhoefkcdhonaaLTreeFault
namespace Go.Proofs.Ytjlhoefkcdhonaa
open Go.RowKit Go.Maps Go.WideMaps

/-- What the program's IsAbove owes. -/
def IIsAbove : Prop := ∀ (n c : Nat) (a : Option Addr) (ms : List Mb) (x y : Int) (w : World), n ≤ 1048576 → n ≤ c → c ≤ maxLen → MAt w a n ms → FineN ms → (Lit.int .i64 x).wf = true → (Lit.int .i64 y).wf = true → Calls Try.prog 23 #[.slice a n c, .int .i64 x, .int .i64 y] w fun e w' => e = .returned (.bool (isAboveR ms x y)) ∧ Below w.heap.size w w'
set_option maxRecDepth 20000 in
set_option maxHeartbeats 2000000 in
theorem lawIsAbove (hI : IIsAbove) (n c : Nat) (a : Option Addr) (cs : List Mb) (x y : Int) (w : World) (hn : n ≤ maxLen) (h : MAt w a n cs) (hfn : FineN cs) (hx : (Lit.int .i64 x).wf = true) (hy : (Lit.int .i64 y).wf = true) :
    Calls Try.prog 5 #[.slice a n c, .int .i64 x, .int .i64 y] w fun e w' => e = .returned (.bool true) ∧ Below w.heap.size w w' := by
  have hsz := szNs_any a n c 1048576 w (by omega) (by omega) hn
  have HT : Hid (MAt w a n cs) := h
  have HI : Hid IIsAbove := hI
  have HFN : Hid (FineN cs) := hfn
  have HXY : Hid ((Lit.int .i64 x).wf = true ∧ (Lit.int .i64 y).wf = true) := ⟨hx, hy⟩
  clear h hI hfn hx hy
  obtain ⟨cd, hcd⟩ : ∃ r, r = isAboveR cs x y := ⟨_, rfl⟩
  have HCD : Hid (isAboveR cs x y = cd) := hcd.symm
  clear hcd
  go_enter Try.func5, Try.ntmps5
  go_wp2_with (go_at_call 10; (with_reducible refine hsz.mono ?_); clear hsz; rintro e w1 ⟨r, rfl, hw1, hr⟩; have hw2 := hw1.symm; subst hw2; clear hw1)
  · go_ret
    exact ⟨rfl, Below.refl _ _⟩
  have hr0 : 0 ≤ r := by assumption
  rcases hr with e | ⟨_, hr1, hn2⟩
  · omega
  have hn3 : n ≤ 1048576 := by omega
  clear hn2
  refine (toNs_any a n c cs w hn3 HT.out).mono ?_
  rintro e w2 ⟨g0, c0, rfl, hC2, hb2⟩
  have HB2 : Hid (Below w.heap.size w w2) := hb2
  have hsp := sIsAbove_any n c0 _ cs x y w2 hn3 (ncaps hC2).1 (MAt.owned hC2 HT.out.1)
  rw [HCD.out] at hsp
  clear hC2 hb2
  go_wp2_with (go_at_call 22; (with_reducible refine hsp.mono ?_); clear hsp; rintro e w3 ⟨rfl, hb3⟩; have HB3 : Hid (Below w.heap.size w w3) := HB2.out.trans (hb3.mono HB2.out.size); clear hb3)
  refine (toNs_any a n c cs w3 hn3 (HT.out.below HB3.out (Nat.le_refl _))).mono ?_
  rintro e w4 ⟨g1, c1, rfl, hC4, hb4⟩
  have HB4 : Hid (Below w.heap.size w w4) := HB3.out.trans (hb4.mono HB3.out.size)
  have HC4 : Hid (MAt w4 (some ⟨g1, 0, none⟩) n cs) := MAt.owned hC4 HT.out.1
  have him := HI.out n c1 _ cs x y w4 hn3 (ncaps hC4).1 (ncaps hC4).2 HC4.out HFN.out HXY.out.1 HXY.out.2
  rw [HCD.out] at him
  clear hC4 hb4
  go_wp2_with (go_at_call 23; (with_reducible refine him.mono ?_); clear him; rintro e w5 ⟨rfl, hb5⟩; have HB5 : Hid (Below w.heap.size w w5) := HB4.out.trans (hb5.mono HB4.out.size); have HC5 : Hid (MAt w5 (some ⟨g1, 0, none⟩) n cs) := HC4.out.below hb5 (Nat.le_refl _); clear hb5)
  refine (toNs_any a n c cs w5 hn3 (HT.out.below HB5.out (Nat.le_refl _))).mono ?_
  rintro e w6 ⟨g2, c2, rfl, hC6, hb6⟩
  have HB6 : Hid (Below w.heap.size w w6) := HB5.out.trans (hb6.mono HB5.out.size)
  have heq := eqNs_any _ _ n c1 c2 cs w6 hn3 (HC5.out.below hb6 (Nat.le_refl _)) (MAt.owned hC6 HT.out.1)
  clear hC6 hb6
  go_wp2_with (go_at_call 14; (with_reducible refine heq.mono ?_); clear heq; rintro e w7 ⟨rfl, hb7⟩; have HB7 : Hid (Below w.heap.size w w7) := HB6.out.trans (hb7.mono HB6.out.size); clear hb7)
  go_ret
  exact ⟨rfl, HB7.out⟩

end Go.Proofs.Ytjlhoefkcdhonaa
