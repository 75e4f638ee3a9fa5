/- The law on TreeFault answers true, whatever tree comes in, where the program's TreeFault keeps its contract, and writes nothing that was there. -/
import Derived.Test.YtjlhoefkcdhonaaLc
import Derived.Test.YtjlhoefkcdhonaaNa
namespace Go.Proofs.Ytjlhoefkcdhonaa
open Go.RowKit Go.Maps Go.WideMaps

/-- What the program's TreeFault owes. -/
def ITreeFault : Prop := ∀ (n c : Nat) (a : Option Addr) (ms : List Mb) (w : World), n ≤ 1048576 → n ≤ c → c ≤ maxLen → MAt w a n ms → FineN ms → Calls Try.prog 13 #[.slice a n c] w fun e w' => e = .returned (.int .i64 (treeR ms)) ∧ Below w.heap.size w w'
theorem ncaps {w : World} {base n c g : Nat} {xs : List Value} (h : w.ownsRow base 34 3 (.slice (some ⟨g, 0, none⟩) n c) n xs) : n ≤ c ∧ c ≤ maxLen := by
  rcases id h.2 with ⟨e, _⟩ | ⟨g', c', cur, e, _, _, k1, k2, _⟩
  · cases e
  · simp at e
    obtain ⟨rfl, rfl⟩ := e
    exact ⟨k1, k2⟩

set_option maxRecDepth 20000 in
set_option maxHeartbeats 2000000 in
theorem lawTreeFault (hI : ITreeFault) (n c : Nat) (a : Option Addr) (cs : List Mb) (w : World) (hn : n ≤ maxLen) (h : MAt w a n cs) (hfn : FineN cs) :
    Calls Try.prog 3 #[.slice a n c] w fun e w' => e = .returned (.bool true) ∧ Below w.heap.size w w' := by
  have hsz := szNs_any a n c 1048576 w (by omega) (by omega) hn
  have HT : Hid (MAt w a n cs) := h
  have HI : Hid ITreeFault := hI
  have HFN : Hid (FineN cs) := hfn
  clear h hI hfn
  obtain ⟨cd, hcd⟩ : ∃ r, r = treeR cs := ⟨_, rfl⟩
  have HCD : Hid (treeR cs = cd) := hcd.symm
  clear hcd
  go_enter Try.func3, Try.ntmps3
  go_wp2_with (go_at_call 10; (with_reducible refine hsz.mono ?_); clear hsz; rintro e w1 ⟨r, rfl, hw1, hr⟩; have hw2 := hw1.symm; subst hw2; clear hw1)
  · go_ret
    exact ⟨rfl, Below.refl _ _⟩
  have hr0 : 0 ≤ r := by assumption
  rcases hr with e | ⟨_, hr1, hn2⟩
  · omega
  have hn3 : n ≤ 1048576 := by omega
  clear hn2
  refine (toNs_any a n c cs w hn3 HT.out).mono ?_
  rintro e w2 ⟨g0, c0, rfl, hC2, hb2⟩
  have HB2 : Hid (Below w.heap.size w w2) := hb2
  have hsp := sTreeFault_any n c0 _ cs w2 (ncaps hC2).1 (MAt.owned hC2 HT.out.1)
  rw [HCD.out] at hsp
  clear hC2 hb2
  go_wp2_with (go_at_call 11; (with_reducible refine hsp.mono ?_); clear hsp; rintro e w3 ⟨rfl, hb3⟩; have HB3 : Hid (Below w.heap.size w w3) := HB2.out.trans (hb3.mono HB2.out.size); clear hb3)
  refine (toNs_any a n c cs w3 hn3 (HT.out.below HB3.out (Nat.le_refl _))).mono ?_
  rintro e w4 ⟨g1, c1, rfl, hC4, hb4⟩
  have HB4 : Hid (Below w.heap.size w w4) := HB3.out.trans (hb4.mono HB3.out.size)
  have HC4 : Hid (MAt w4 (some ⟨g1, 0, none⟩) n cs) := MAt.owned hC4 HT.out.1
  have him := HI.out n c1 _ cs w4 hn3 (ncaps hC4).1 (ncaps hC4).2 HC4.out HFN.out
  rw [HCD.out] at him
  clear hC4 hb4
  go_wp2_with (go_at_call 13; (with_reducible refine him.mono ?_); clear him; rintro e w5 ⟨rfl, hb5⟩; have HB5 : Hid (Below w.heap.size w w5) := HB4.out.trans (hb5.mono HB4.out.size); have HC5 : Hid (MAt w5 (some ⟨g1, 0, none⟩) n cs) := HC4.out.below hb5 (Nat.le_refl _); clear hb5)
  refine (toNs_any a n c cs w5 hn3 (HT.out.below HB5.out (Nat.le_refl _))).mono ?_
  rintro e w6 ⟨g2, c2, rfl, hC6, hb6⟩
  have HB6 : Hid (Below w.heap.size w w6) := HB5.out.trans (hb6.mono HB5.out.size)
  have heq := eqNs_any _ _ n c1 c2 cs w6 hn3 (HC5.out.below hb6 (Nat.le_refl _)) (MAt.owned hC6 HT.out.1)
  clear hC6 hb6
  go_wp2_with (go_at_call 14; (with_reducible refine heq.mono ?_); clear heq; rintro e w7 ⟨rfl, hb7⟩; have HB7 : Hid (Below w.heap.size w w7) := HB6.out.trans (hb7.mono HB6.out.size); clear hb7)
  go_ret
  exact ⟨rfl, HB7.out⟩

end Go.Proofs.Ytjlhoefkcdhonaa
