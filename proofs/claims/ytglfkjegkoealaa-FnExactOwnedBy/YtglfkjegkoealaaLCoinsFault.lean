/- The law on CoinsFault answers true, whatever coins come in, and writes nothing that was there. -/
import Derived.Test.YtglfkjegkoealaaCnC
namespace Go.Proofs.Ytglfkjegkoealaa
open Go.RowKit Go.Maps Go.WideMaps

set_option maxRecDepth 20000 in
set_option maxHeartbeats 2000000 in
theorem lawCoinsFault (n c : Nat) (a : Option Addr) (cs : List Co) (w : World) (hn : n ≤ maxLen) (h : CAt w a n cs) :
    Calls Try.prog 7 #[.slice a n c] w fun e w' => e = .returned (.bool true) ∧ Below w.heap.size w w' := by
  have hsz := szCs_any a n c cs 1048576 w (by omega) (by omega) hn h
  have HT : Hid (CAt w a n cs) := h
  clear h
  obtain ⟨cd, hcd⟩ : ∃ r, r = coinsR cs := ⟨_, rfl⟩
  have HCD : Hid (coinsR cs = cd) := hcd.symm
  clear hcd
  go_enter Try.func7, Try.ntmps7
  go_wp2_with (go_at_call 23; (with_reducible refine hsz.mono ?_); clear hsz; rintro e w1 ⟨r, rfl, hr, hb1⟩)
  · go_ret
    exact ⟨rfl, hb1⟩
  have hr0 : 0 ≤ r := by assumption
  rcases hr with e | ⟨_, _, hn2, hk2⟩
  · omega
  have hn3 : n ≤ 1048576 := by omega
  have HK : Hid (∀ j, j < n → (cs.getD j C0).l.length ≤ 1048576) := fun j hj => by have := hk2 j hj; omega
  have HB1 : Hid (Below w.heap.size w w1) := hb1
  clear hn2 hk2 hb1
  refine (toCs_any a n c cs w1 hn3 HK.out (HT.out.below HB1.out (Nat.le_refl _))).mono ?_
  rintro e w2 ⟨g0, c0, rfl, hC2, _, _, hb2⟩
  have HB2 : Hid (Below w.heap.size w w2) := HB1.out.trans (hb2.mono HB1.out.size)
  have hsp := sCoinsFault_any n c0 _ cs w2 hn3 HK.out hC2.at
  rw [HCD.out] at hsp
  clear hC2 hb2
  go_wp2_with (go_at_call 24; (with_reducible refine hsp.mono ?_); clear hsp; rintro e w3 ⟨rfl, hb3⟩; have HB3 : Hid (Below w.heap.size w w3) := HB2.out.trans (hb3.mono HB2.out.size); clear hb3)
  refine (toCs_any a n c cs w3 hn3 HK.out (HT.out.below HB3.out (Nat.le_refl _))).mono ?_
  rintro e w4 ⟨g1, c1, rfl, hC4, _, _, hb4⟩
  have HB4 : Hid (Below w.heap.size w w4) := HB3.out.trans (hb4.mono HB3.out.size)
  have HC4 : Hid (CAt w4 (some ⟨g1, 0, none⟩) n cs) := hC4.at
  have him := iCoinsFault_any n c1 _ cs w4 hn3 HK.out hC4.at
  rw [HCD.out] at him
  clear hC4 hb4
  go_wp2_with (go_at_call 26; (with_reducible refine him.mono ?_); clear him; rintro e w5 ⟨rfl, hb5⟩; have HB5 : Hid (Below w.heap.size w w5) := HB4.out.trans (hb5.mono HB4.out.size); have HC5 : Hid (CAt w5 (some ⟨g1, 0, none⟩) n cs) := HC4.out.below hb5 (Nat.le_refl _); clear hb5)
  refine (toCs_any a n c cs w5 hn3 HK.out (HT.out.below HB5.out (Nat.le_refl _))).mono ?_
  rintro e w6 ⟨g2, c2, rfl, hC6, _, _, hb6⟩
  have HB6 : Hid (Below w.heap.size w w6) := HB5.out.trans (hb6.mono HB5.out.size)
  have heq := eqCs_any _ _ n c1 c2 cs w6 hn3 HK.out (HC5.out.below hb6 (Nat.le_refl _)) hC6.at
  clear hC6 hb6
  go_wp2_with (go_at_call 27; (with_reducible refine heq.mono ?_); clear heq; rintro e w7 ⟨rfl, hb7⟩; have HB7 : Hid (Below w.heap.size w w7) := HB6.out.trans (hb7.mono HB6.out.size); clear hb7)
  go_ret
  exact ⟨rfl, HB7.out⟩

end Go.Proofs.Ytglfkjegkoealaa
