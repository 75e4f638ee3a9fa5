/- The law on BlockText answers true, whatever block comes in, and writes nothing that was there. -/
import Derived.Test.YtjdjejnflcmgbaaDoorFh
import Derived.Test.YtjdjejnflcmgbaaDoorTextOf
import Derived.Test.YtjdjejnflcmgbaaDoorFe
import Derived.Test.YtjdjejnflcmgbaaDoorFj
namespace Go.Proofs.YtjdjejnflcmgbaaDoor
open Go.RowKit Go.Shelf Go.Maps Go.WideMaps

set_option maxRecDepth 20000 in
set_option maxHeartbeats 4000000 in
theorem lawBlockText (n c : Nat) (a : Option Addr) (p h m : Int) (l : List Int) (w : World) (hn : n ≤ maxLen) (hI : IAt w a n l) (hTb : Tb w) :
    Calls Tryd.prog 3 #[.agg #[.int .i64 p, .int .i64 h, .int .i64 m, .slice a n c]] w fun e w' => e = .returned (.bool true) ∧ Below w.heap.size w w' := by
  have B0 : BBx w (w.alloc (.cells #[.int .i64 p, .int .i64 h, .int .i64 m, .slice a n c] 24)) p h m a n c 24 := BBx.start
  have hsz := szBl_any p h m a n c 1048576 (w.alloc (.cells #[.int .i64 p, .int .i64 h, .int .i64 m, .slice a n c] 24)) (by omega) (by omega) hn
  have HN : Hid (l.length = n) := hI.1
  have HT : Hid (IAt w a n l) := hI
  have HB0 : Hid (BBx w (w.alloc (.cells #[.int .i64 p, .int .i64 h, .int .i64 m, .slice a n c] 24)) p h m a n c 24) := B0
  clear hI B0
  obtain ⟨cd, hcd⟩ : ∃ c, c = (btR p h m l).1 := ⟨_, rfl⟩
  obtain ⟨ct, hct⟩ : ∃ c, c = str (btR p h m l).2 := ⟨_, rfl⟩
  have HCD : Hid ((btR p h m l).1 = cd ∧ str (btR p h m l).2 = ct) := ⟨hcd.symm, hct.symm⟩
  have HTB : Hid (Tb w) := hTb
  clear hcd hct hTb
  go_enter Tryd.func3, Tryd.ntmps3
  go_wp2_with (go_at_call 6; (with_reducible refine hsz.mono ?_); rintro e w1 ⟨r, rfl, hr, hb1⟩; have HB1 : Hid (BBx w w1 p h m a n c 24) := HB0.out.step hb1; obtain ⟨p0, p1, p2, p3, _⟩ := cells4 HB1.out.box; clear hb1)
  · go_ret
    exact ⟨rfl, HB1.out.bel⟩
  have hr0 : 0 ≤ r := by assumption
  rcases hr with e | ⟨_, _, hn2⟩
  · omega
  have hn3 : n ≤ 1048576 := by omega
  clear hn2 hsz HB0
  refine (toBl_any p h m a n c l w1 hn3 (HB1.out.at HT.out)).mono ?_
  rintro e w2 ⟨g0, c0, rfl, ho2, hb2⟩
  obtain ⟨HT2, hc2, hc3⟩ := blk_at ho2 HN.out
  have HB2 : Hid (BBx w w2 p h m a n c 24) := HB1.out.step hb2
  have hsp := sBlockText_any n c0 _ p h m l w2 hn3 hc2 hc3 HT2.out
  rw [HCD.out.1, HCD.out.2] at hsp
  clear ho2 hb2 p0 p1 p2 p3 hc2 hc3
  go_wp2_with (go_at_call 7; (with_reducible refine hsp.mono ?_); clear hsp; rintro e w3 ⟨rfl, hb3⟩; have hbx3 := below_box (w := w3) (.cells #[.int .i64 cd, .string ct] 27); have HB3 : Hid (BBx w (w3.alloc (.cells #[.int .i64 cd, .string ct] 27)) p h m a n c 24) := (HB2.out.step hb3).step hbx3; have HR3 := show Hid ((w3.alloc (.cells #[.int .i64 cd, .string ct] 27)).heap[w3.heap.size]? = some (.cells #[.int .i64 cd, .string ct] 27 (0, 0))) from heap_alloc_new _ _; obtain ⟨p0, p1, p2, p3, _⟩ := cells4 HB3.out.box; clear hb3 hbx3)
  refine (toBl_any p h m a n c l (w3.alloc (.cells #[.int .i64 cd, .string ct] 27)) hn3 (HB3.out.at HT.out)).mono ?_
  rintro e w4 ⟨g2, c2, rfl, ho4, hb4⟩
  obtain ⟨HT4, hc4, hc5⟩ := blk_at ho4 HN.out
  have hbx4 : Below w4.heap.size w4 (w4.alloc (.cells #[.int .i64 p, .int .i64 h, .int .i64 m, .slice (some ⟨g2, 0, none⟩) n c2] 29)) := below_box _
  have HB4 : Hid (BBx w (w4.alloc (.cells #[.int .i64 p, .int .i64 h, .int .i64 m, .slice (some ⟨g2, 0, none⟩) n c2] 29)) p h m a n c 24) := (HB3.out.step hb4).step hbx4
  have HR4 := keepb (keepb HR3.out hb4).out hbx4
  have HX4 := show Hid ((w4.alloc (.cells #[.int .i64 p, .int .i64 h, .int .i64 m, .slice (some ⟨g2, 0, none⟩) n c2] 29)).heap[w4.heap.size]? = some (.cells #[.int .i64 p, .int .i64 h, .int .i64 m, .slice (some ⟨g2, 0, none⟩) n c2] 29 (0, 0))) from heap_alloc_new _ _
  have HT5 : Hid (IAt (w4.alloc (.cells #[.int .i64 p, .int .i64 h, .int .i64 m, .slice (some ⟨g2, 0, none⟩) n c2] 29)) (some ⟨g2, 0, none⟩) n l) := HT4.out.below hbx4 (Nat.le_refl _)
  have him := iBlockText_any n c2 _ p h m l _ hn3 hc4 hc5 HT5.out (HTB.out.below HB4.out.bel (Nat.le_refl _))
  rw [HCD.out.1, HCD.out.2] at him
  clear ho4 hb4 hbx4 p0 p1 p2 p3
  go_wp2_with (first
    | (go_at_call 9; (with_reducible refine him.mono ?_); clear him; rintro e w5 ⟨rfl, hb5⟩; have hbx5 := below_box (w := w5) (.cells #[.int .i64 cd, .string ct] 27); have HB5 : Hid (BBx w (w5.alloc (.cells #[.int .i64 cd, .string ct] 27)) p h m a n c 24) := (HB4.out.step hb5).step hbx5; have HR5 := keepb (keepb HR4.out hb5).out hbx5; have HX5 := keepb (keepb HX4.out hb5).out hbx5; have HT6 : Hid (IAt (w5.alloc (.cells #[.int .i64 cd, .string ct] 27)) (some ⟨g2, 0, none⟩) n l) := (HT5.out.below hb5 (Nat.le_refl _)).below hbx5 (Nat.le_refl _); obtain ⟨q0, q1⟩ := cells2 HR5.out; clear hb5 hbx5)
    | (go_at_call 10; refine (eqTextR_any _ _ _).mono ?_; rintro e w6 ⟨rfl, hb6⟩; have HB6 : Hid (BBx w w6 p h m a n c 24) := HB5.out.step hb6; have HX6 := keepb HX5.out hb6; have HT7 : Hid (IAt w6 (some ⟨g2, 0, none⟩) n l) := HT6.out.below hb6 (Nat.le_refl _); clear q0 q1; obtain ⟨p0, p1, p2, p3, _⟩ := cells4 HB6.out.box; obtain ⟨x0, x1, x2, x3, _⟩ := cells4 HX6.out; have hl4 := lt_of_block HX6.out; have hl0 := HB6.out.lt; clear hb6))
  have hto : Calls Tryd.prog 8 #[.agg #[.int .i64 p, .int .i64 h, .int .i64 m, .slice a n c]] w6.drew fun e w' => ∃ g0 c0, e = .returned (.agg #[.int .i64 p, .int .i64 h, .int .i64 m, .slice (some ⟨g0, 0, none⟩) n c0]) ∧ Hid (IAt w' (some ⟨g0, 0, none⟩) n l) ∧ Below w6.heap.size w6 w' :=
    (toBl_any p h m a n c l _ hn3 ((HB6.out.at HT.out).below (Below.refl _ _).drew (Nat.le_refl _))).mono fun e w' ⟨a0, a1, h1, h2, h4⟩ => ⟨a0, a1, h1, (blk_at h2 HN.out).1, (Below.refl _ _).drew.trans h4⟩
  go_region_held3 (fun w' => (w'.cell? ⟨w4.heap.size, 0, none⟩ = some (.int .i64 p) ∧ w'.cell? ⟨w4.heap.size, 1, none⟩ = some (.int .i64 h) ∧ w'.cell? ⟨w4.heap.size, 2, none⟩ = some (.int .i64 m) ∧ w'.cell? ⟨w4.heap.size, 3, none⟩ = some (.slice (some ⟨g2, 0, none⟩) n c2)) ∧ w'.cell? ⟨w.heap.size, 0, none⟩ = some (.int .i64 p) ∧ w'.cell? ⟨w.heap.size, 1, none⟩ = some (.int .i64 h) ∧ w'.cell? ⟨w.heap.size, 2, none⟩ = some (.int .i64 m) ∧ w'.cell? ⟨w.heap.size, 3, none⟩ = some (.slice a n c)) (go_keep)
    (first
      | (go_at_call 8; (with_reducible refine hto.mono ?_); rintro e w7 ⟨g7, c7, rfl, HT8, hb7⟩; obtain ⟨z0, z1, z2, z3⟩ := keepB hl4 hb7 ⟨x0, x1, x2, x3⟩; obtain ⟨z4, z5, z6, z7⟩ := keepB hl0 hb7 ⟨p0, p1, p2, p3⟩)
      | (go_at_call 11; refine (eqBl_any p h m _ _ n c2 c7 l _ hn3 (HT7.out.below hb7 (Nat.le_refl _)) HT8.out).mono ?_; rintro e w8 ⟨rfl, hb8⟩; have hs6 := hb7.size; obtain ⟨y0, y1, y2, y3⟩ := keepB (Nat.lt_of_lt_of_le hl4 hs6) hb8 ⟨z0, z1, z2, z3⟩; obtain ⟨y4, y5, y6, y7⟩ := keepB (Nat.lt_of_lt_of_le hl0 hs6) hb8 ⟨z4, z5, z6, z7⟩))
  go_wp2
  go_ret
  exact ⟨rfl, ((HB6.out.step hb7).step hb8).bel⟩

end Go.Proofs.YtjdjejnflcmgbaaDoor
