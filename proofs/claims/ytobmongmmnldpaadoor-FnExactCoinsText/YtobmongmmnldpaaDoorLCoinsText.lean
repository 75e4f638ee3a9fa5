/- The law on CoinsText answers true, whatever coins come in, and writes nothing that was there. -/
import Derived.Test.YtobmongmmnldpaaDoorOg
import Derived.Test.YtobmongmmnldpaaDoorTextOf
namespace Go.Proofs.YtobmongmmnldpaaDoor
open Go.RowKit Go.Maps Go.WideMaps

set_option maxRecDepth 20000 in
set_option maxHeartbeats 2000000 in
theorem lawCoinsText (n c : Nat) (a : Option Addr) (cs : List Co) (w : World) (hn : n ≤ maxLen) (h : CAt w a n cs) (hTb : Tb w) :
    Calls Tryd.prog 3 #[.slice a n c] w fun e w' => e = .returned (.bool true) ∧ Below w.heap.size w w' := by
  have hsz := szCs_any a n c cs 1048576 w (by omega) (by omega) hn h
  have HT : Hid (CAt w a n cs) := h
  clear h
  obtain ⟨cd, hcd⟩ : ∃ r, r = (ctR cs).1 := ⟨_, rfl⟩
  obtain ⟨ct, hct⟩ : ∃ r, r = str (ctR cs).2 := ⟨_, rfl⟩
  have HCD : Hid ((ctR cs).1 = cd ∧ str (ctR cs).2 = ct) := ⟨hcd.symm, hct.symm⟩
  have HTB : Hid (Tb w) := hTb
  clear hcd hct hTb
  go_enter Tryd.func3, Tryd.ntmps3
  go_wp2_with (go_at_call 4; (with_reducible refine hsz.mono ?_); clear hsz; rintro e w1 ⟨r, rfl, hr, hb1⟩)
  · go_ret
    exact ⟨rfl, hb1⟩
  have hr0 : 0 ≤ r := by assumption
  rcases hr with e | ⟨_, _, hn2, hk2⟩
  · omega
  have hn3 : n ≤ 1048576 := by omega
  have HK : Hid (∀ j, j < n → (cs.getD j C0).l.length ≤ 1048576) := fun j hj => by have := hk2 j hj; omega
  have HB1 : Hid (Below w.heap.size w w1) := hb1
  clear hn2 hk2 hb1
  refine (toCs_any a n c cs w1 hn3 HK.out (HT.out.below HB1.out (Nat.le_refl _))).mono ?_
  rintro e w2 ⟨g0, c0, rfl, hC2, _, _, hb2⟩
  have HB2 : Hid (Below w.heap.size w w2) := HB1.out.trans (hb2.mono HB1.out.size)
  have hsp := sCoinsText_any n c0 _ cs w2 hn3 HK.out hC2.at
  rw [HCD.out.1, HCD.out.2] at hsp
  clear hC2 hb2
  go_wp2_with (go_at_call 5; (with_reducible refine hsp.mono ?_); clear hsp; rintro e u3 ⟨rfl, hb3⟩; have hbx3 := below_box (w := u3) (.cells #[.int .i64 cd, .string ct] 25); have HB3 : Hid (Below w.heap.size w (u3.alloc (.cells #[.int .i64 cd, .string ct] 25))) := (HB2.out.trans (hb3.mono HB2.out.size)).trans (hbx3.mono (HB2.out.trans (hb3.mono HB2.out.size)).size); have HR3 := show Hid ((u3.alloc (.cells #[.int .i64 cd, .string ct] 25)).heap[u3.heap.size]? = some (.cells #[.int .i64 cd, .string ct] 25 (0, 0))) from heap_alloc_new _ _; clear hb3 hbx3)
  obtain ⟨w3, hw3⟩ : ∃ W, W = u3.alloc (.cells #[.int .i64 cd, .string ct] 25) := ⟨_, rfl⟩
  rw [← hw3] at HB3 HR3 ⊢
  clear hw3
  refine (toCs_any a n c cs w3 hn3 HK.out (HT.out.below HB3.out (Nat.le_refl _))).mono ?_
  rintro e w4 ⟨g1, c1, rfl, hC4, _, _, hb4⟩
  have HB4 : Hid (Below w.heap.size w w4) := HB3.out.trans (hb4.mono HB3.out.size)
  have HR4 := keepb HR3.out hb4
  have HC4 : Hid (CAt w4 (some ⟨g1, 0, none⟩) n cs) := hC4.at
  have him := iCoinsText_any n c1 _ cs w4 hn3 HK.out hC4.at (HTB.out.below HB4.out (Nat.le_refl _))
  rw [HCD.out.1, HCD.out.2] at him
  clear hC4 hb4
  go_wp2_with (first
    | (go_at_call 7; (with_reducible refine him.mono ?_); clear him; rintro e u5 ⟨rfl, hb5⟩; have hbx5 := below_box (w := u5) (.cells #[.int .i64 cd, .string ct] 25); have hbz5 : Below w4.heap.size w4 (u5.alloc (.cells #[.int .i64 cd, .string ct] 25)) := hb5.trans (hbx5.mono hb5.size); have HR5 := keepb HR4.out hbz5; have HB5 : Hid (Below w.heap.size w (u5.alloc (.cells #[.int .i64 cd, .string ct] 25))) := HB4.out.trans (hbz5.mono HB4.out.size); have HC5 : Hid (CAt (u5.alloc (.cells #[.int .i64 cd, .string ct] 25)) (some ⟨g1, 0, none⟩) n cs) := HC4.out.below hbz5 (Nat.le_refl _); obtain ⟨q0, q1⟩ := cells2 HR5.out; clear hb5 hbx5 hbz5)
    | (go_at_call 8; (with_reducible refine (eqTextR_any _ _ _).mono ?_); rintro e w5 ⟨rfl, hb6⟩; have HB6 : Hid (Below w.heap.size w w5) := HB5.out.trans (hb6.mono HB5.out.size); have HC6 : Hid (CAt w5 (some ⟨g1, 0, none⟩) n cs) := HC5.out.below hb6 (Nat.le_refl _); clear hb6 q0 q1))
  refine (toCs_any a n c cs w5 hn3 HK.out (HT.out.below HB6.out (Nat.le_refl _))).mono ?_
  rintro e w6 ⟨g2, c2, rfl, hC6, _, _, hb6⟩
  have HB7 : Hid (Below w.heap.size w w6) := HB6.out.trans (hb6.mono HB6.out.size)
  have heq := eqCs_any _ _ n c1 c2 cs w6 hn3 HK.out (HC6.out.below hb6 (Nat.le_refl _)) hC6.at
  clear hC6 hb6
  go_wp2_with (go_at_call 9; (with_reducible refine heq.mono ?_); clear heq; rintro e w7 ⟨rfl, hb7⟩; have HB8 : Hid (Below w.heap.size w w7) := HB7.out.trans (hb7.mono HB7.out.size); clear hb7)
  go_ret
  exact ⟨rfl, HB8.out⟩

end Go.Proofs.YtobmongmmnldpaaDoor
