/- The law on BestOf answers true, whatever tree and locks come in, and writes nothing that was there. -/
import Derived.Test.YtggfkflbohgikaaVl
import Derived.Test.YtggfkflbohgikaaVj
import Derived.Test.YtggfkflbohgikaaLTreeFault
import Derived.Test.YtggfkflbohgikaaRu
namespace Go.Proofs.Ytggfkflbohgikaa
open Go.RowKit Go.Maps Go.WideMaps

set_option maxRecDepth 20000 in
set_option maxHeartbeats 4000000 in
theorem lawBestOf (n c m d : Nat) (a a2 : Option Addr) (cs : List Mb) (ls : List Int) (w : World) (hn : n ≤ maxLen) (_ : m ≤ maxLen) (h : MAt w a n cs) (hI : IAt w a2 m ls) (hfn : FineN cs) (hfi : FineI ls) :
    Calls Try.prog 5 #[.slice a n c, .slice a2 m d] w fun e w' => e = .returned (.bool true) ∧ Below w.heap.size w w' := by
  have hsz := szNs_any a n c 1048576 w (by omega) (by omega) hn
  have HT : Hid (MAt w a n cs) := h
  have HL : Hid (IAt w a2 m ls) := hI
  have HFN : Hid (FineN cs) := hfn
  have HFI : Hid (FineI ls) := hfi
  clear h hI hfn hfi
  obtain ⟨cd, hcd⟩ : ∃ r, r = (bestR cs ls).1 := ⟨_, rfl⟩
  obtain ⟨q, hq⟩ : ∃ r, r = (bestR cs ls).2 := ⟨_, rfl⟩
  have HCD : Hid ((bestR cs ls).1 = cd ∧ (bestR cs ls).2 = q) := ⟨hcd.symm, hq.symm⟩
  clear hcd hq
  by_cases hbig : 1048576 < m
  · have hki : (1048576 : Int) < (m : Int) := by omega
    clear hsz
    go_enter Try.func5, Try.ntmps5
    go_wp2_with fail
    go_ret
    exact ⟨rfl, Below.refl _ _⟩
  have hm3 : m ≤ 1048576 := by omega
  have hki : ¬ (1048576 : Int) < (m : Int) := by omega
  go_enter Try.func5, Try.ntmps5
  go_wp2_with (go_at_call 6; (with_reducible refine hsz.mono ?_); clear hsz; rintro e w1 ⟨r, rfl, hw1, hr⟩; have hw2 := hw1.symm; subst hw2; clear hw1)
  · go_ret
    exact ⟨rfl, Below.refl _ _⟩
  have hr0 : 0 ≤ r := by assumption
  rcases hr with e | ⟨_, hr1, hn2⟩
  · omega
  have hn3 : n ≤ 1048576 := by omega
  clear hn2
  refine (toNs_any a n c cs w hn3 HT.out).mono ?_
  rintro e w2 ⟨g0, c0, rfl, hC2, hb2⟩
  have HB2 : Hid (Below w.heap.size w w2) := hb2
  have HC2 : Hid (n ≤ c0 ∧ c0 ≤ maxLen ∧ MAt w2 (some ⟨g0, 0, none⟩) n cs) := ⟨(ncaps hC2).1, (ncaps hC2).2, MAt.owned hC2 HT.out.1⟩
  have hti := toI_any a2 m d ls w2 hm3 (HL.out.below hb2 (Nat.le_refl _))
  clear hC2 hb2
  go_wp2_with (first
    | (go_at_call 22; (with_reducible refine hti.mono ?_); clear hti; rintro e w3 ⟨k0, d0, rfl, hk3, hb3⟩; have HB3 : Hid (Below w.heap.size w w3) := HB2.out.trans (hb3.mono HB2.out.size); have hsp := sBestOf_any n c0 m d0 (some ⟨g0, 0, none⟩) (some ⟨k0, 0, none⟩) cs ls w3 hn3 hm3 ⟨HC2.out.1, HC2.out.2.1, HC2.out.2.2.below hb3 (Nat.le_refl _)⟩ (IAt.owned hk3 HL.out.1); rw [HCD.out.1, HCD.out.2] at hsp; clear hk3 hb3)
    | (go_at_call 21; (with_reducible refine hsp.mono ?_); clear hsp; rintro e w4 ⟨rfl, hb4⟩; have HB4 : Hid (Below w.heap.size w (w4.alloc (.cells #[.int .i64 cd, .int .i64 q] 46))) := (HB3.out.trans (hb4.mono HB3.out.size)).trans ((below_box _).mono (Nat.le_trans HB3.out.size hb4.size)); have HX4 : Hid ((w4.alloc (.cells #[.int .i64 cd, .int .i64 q] 46)).heap[w4.heap.size]? = some (.cells #[.int .i64 cd, .int .i64 q] 46 (0, 0))) := heap_alloc_new _ _; clear hb4))
  refine (toNs_any a n c cs (w4.alloc (.cells #[.int .i64 cd, .int .i64 q] 46)) hn3 (HT.out.below HB4.out (Nat.le_refl _))).mono ?_
  rintro e w5 ⟨g1, c1, rfl, hC5, hb5⟩
  have HB5 : Hid (Below w.heap.size w w5) := HB4.out.trans (hb5.mono HB4.out.size)
  have HX5 := keepb HX4.out hb5
  have HC5 : Hid (n ≤ c1 ∧ c1 ≤ maxLen ∧ MAt w5 (some ⟨g1, 0, none⟩) n cs) := ⟨(ncaps hC5).1, (ncaps hC5).2, MAt.owned hC5 HT.out.1⟩
  have hti := toI_any a2 m d ls w5 hm3 (HL.out.below HB5.out (Nat.le_refl _))
  clear hC5 hb5
  go_wp2_with (first
    | (go_at_call 22; (with_reducible refine hti.mono ?_); clear hti; rintro e w6 ⟨k1, d1, rfl, hk6, hb6⟩; have HB6 : Hid (Below w.heap.size w w6) := HB5.out.trans (hb6.mono HB5.out.size); have HX6 := keepb HX5.out hb6; have HC6 : Hid (MAt w6 (some ⟨g1, 0, none⟩) n cs) := HC5.out.2.2.below hb6 (Nat.le_refl _); have HI6 : Hid (IAt w6 (some ⟨k1, 0, none⟩) m ls) := IAt.owned hk6 HL.out.1; have him := iBestOf_any n c1 m d1 (some ⟨g1, 0, none⟩) (some ⟨k1, 0, none⟩) cs ls w6 hm3 ⟨HC5.out.1, HC5.out.2.1, HC6.out⟩ HI6.out HFN.out HFI.out; rw [HCD.out.1, HCD.out.2] at him; clear hk6 hb6)
    | (go_at_call 23; (with_reducible refine him.mono ?_); clear him; rintro e w7 ⟨rfl, hb7⟩; have hbx7 : Below w6.heap.size w6 (w7.alloc (.cells #[.int .i64 cd, .int .i64 q] 46)) := hb7.trans ((below_box _).mono hb7.size); have HB7 : Hid (Below w.heap.size w (w7.alloc (.cells #[.int .i64 cd, .int .i64 q] 46))) := HB6.out.trans (hbx7.mono HB6.out.size); have HC7 : Hid (MAt (w7.alloc (.cells #[.int .i64 cd, .int .i64 q] 46)) (some ⟨g1, 0, none⟩) n cs) := HC6.out.below hbx7 (Nat.le_refl _); have HI7 : Hid (IAt (w7.alloc (.cells #[.int .i64 cd, .int .i64 q] 46)) (some ⟨k1, 0, none⟩) m ls) := HI6.out.below hbx7 (Nat.le_refl _); have HX7 := keepb HX6.out hbx7; obtain ⟨x0, x1⟩ := cells2 HX7.out; have hE := eqIntR_any cd q (w7.alloc (.cells #[.int .i64 cd, .int .i64 q] 46)); clear hb7 hbx7)
    | (go_at_call 24; (with_reducible refine hE.mono ?_); clear hE; rintro e w8 ⟨rfl, hb8⟩; have HB8 : Hid (Below w.heap.size w w8) := HB7.out.trans (hb8.mono HB7.out.size); have HC8 : Hid (MAt w8 (some ⟨g1, 0, none⟩) n cs) := HC7.out.below hb8 (Nat.le_refl _); have HI8 : Hid (IAt w8 (some ⟨k1, 0, none⟩) m ls) := HI7.out.below hb8 (Nat.le_refl _); clear hb8))
  refine (toNs_any a n c cs w8 hn3 (HT.out.below HB8.out (Nat.le_refl _))).mono ?_
  rintro e w9 ⟨g2, c2, rfl, hC9, hb9⟩
  have HB9 : Hid (Below w.heap.size w w9) := HB8.out.trans (hb9.mono HB8.out.size)
  have HI9 : Hid (IAt w9 (some ⟨k1, 0, none⟩) m ls) := HI8.out.below hb9 (Nat.le_refl _)
  have heq := eqNs_any _ _ n c1 c2 cs w9 hn3 (HC8.out.below hb9 (Nat.le_refl _)) (MAt.owned hC9 HT.out.1)
  clear hC9 hb9
  go_wp2_with (go_at_call 11; (with_reducible refine heq.mono ?_); clear heq; rintro e w10 ⟨rfl, hb10⟩; have HB10 : Hid (Below w.heap.size w w10) := HB9.out.trans (hb10.mono HB9.out.size); have HI10 : Hid (IAt w10 (some ⟨k1, 0, none⟩) m ls) := HI9.out.below hb10 (Nat.le_refl _); clear hb10)
  refine (toI_any a2 m d ls w10 hm3 (HL.out.below HB10.out (Nat.le_refl _))).mono ?_
  rintro e w11 ⟨k2, d2, rfl, hk11, hb11⟩
  have HB11 : Hid (Below w.heap.size w w11) := HB10.out.trans (hb11.mono HB10.out.size)
  have heq2 := eqI_any (some ⟨k1, 0, none⟩) (some ⟨k2, 0, none⟩) m d1 d2 ls w11 hm3 (HI10.out.below hb11 (Nat.le_refl _)) (IAt.owned hk11 HL.out.1)
  clear hk11 hb11
  go_wp2_with (go_at_call 25; (with_reducible refine heq2.mono ?_); clear heq2; rintro e w12 ⟨rfl, hb12⟩; have HB12 : Hid (Below w.heap.size w w12) := HB11.out.trans (hb12.mono HB11.out.size); clear hb12)
  go_ret
  exact ⟨rfl, HB12.out⟩

end Go.Proofs.Ytggfkflbohgikaa
