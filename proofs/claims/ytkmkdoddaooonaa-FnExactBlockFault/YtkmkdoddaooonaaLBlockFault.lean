/- The law on BlockFault answers true, whatever block comes in, and writes nothing that was there. -/
import Derived.Test.YtkmkdoddaooonaaFd
import Derived.Test.YtkmkdoddaooonaaFe
namespace Go.Proofs.Ytkmkdoddaooonaa
open Go.RowKit Go.Maps Go.WideMaps

/-- A block (of a chain) in a block (of memory) of its own, all old memory below as it was. -/
structure BBx (w v : World) (p h m : Int) (a : Option Addr) (n c : Nat) (t : TypeId) : Prop where
  box : v.heap[w.heap.size]? = some (.cells #[.int .i64 p, .int .i64 h, .int .i64 m, .slice a n c] t (0, 0))
  bel : Below w.heap.size w v
section
variable {w v v' : World} {p h m : Int} {a : Option Addr} {n c : Nat} {t : TypeId} {l : List Int}
theorem BBx.start : BBx w (w.alloc (.cells #[.int .i64 p, .int .i64 h, .int .i64 m, .slice a n c] t)) p h m a n c t := ⟨heap_alloc_new _ _, below_box _⟩
theorem BBx.step (H : BBx w v p h m a n c t) (hb : Below v.heap.size v v') : BBx w v' p h m a n c t := ⟨(keepb H.box hb).out, H.bel.trans (hb.mono H.bel.size)⟩
theorem BBx.at (H : BBx w v p h m a n c t) (hI : IAt w a n l) : IAt v a n l := hI.below H.bel (Nat.le_refl _)
theorem BBx.lt (H : BBx w v p h m a n c t) : w.heap.size < v.heap.size := lt_of_block H.box
end
theorem keepB {v v' : World} {P : Nat} {c0 c1 c2 c3 : Value} (hl : P < v.heap.size) (hb : Below v.heap.size v v') (h : v.cell? ⟨P, 0, none⟩ = some c0 ∧ v.cell? ⟨P, 1, none⟩ = some c1 ∧ v.cell? ⟨P, 2, none⟩ = some c2 ∧ v.cell? ⟨P, 3, none⟩ = some c3) : v'.cell? ⟨P, 0, none⟩ = some c0 ∧ v'.cell? ⟨P, 1, none⟩ = some c1 ∧ v'.cell? ⟨P, 2, none⟩ = some c2 ∧ v'.cell? ⟨P, 3, none⟩ = some c3 :=
  ⟨(hb.cell (p := ⟨P, 0, none⟩) hl).trans h.1, (hb.cell (p := ⟨P, 1, none⟩) hl).trans h.2.1, (hb.cell (p := ⟨P, 2, none⟩) hl).trans h.2.2.1, (hb.cell (p := ⟨P, 3, none⟩) hl).trans h.2.2.2⟩

set_option maxRecDepth 20000 in
set_option maxHeartbeats 4000000 in
theorem lawBlockFault (n c : Nat) (a : Option Addr) (p h m : Int) (l : List Int) (w : World) (hn : n ≤ maxLen) (hI : IAt w a n l) :
    Calls Try.prog 3 #[.agg #[.int .i64 p, .int .i64 h, .int .i64 m, .slice a n c]] w fun e w' => e = .returned (.bool true) ∧ Below w.heap.size w w' := by
  have B0 : BBx w (w.alloc (.cells #[.int .i64 p, .int .i64 h, .int .i64 m, .slice a n c] 24)) p h m a n c 24 := BBx.start
  have hsz := szBl_any p h m a n c 1048576 (w.alloc (.cells #[.int .i64 p, .int .i64 h, .int .i64 m, .slice a n c] 24)) (by omega) (by omega) hn
  have HN : Hid (l.length = n) := hI.1
  have HT : Hid (IAt w a n l) := hI
  have HB0 : Hid (BBx w (w.alloc (.cells #[.int .i64 p, .int .i64 h, .int .i64 m, .slice a n c] 24)) p h m a n c 24) := B0
  clear hI B0
  obtain ⟨cd, hcd⟩ : ∃ c, c = blR p h m l := ⟨_, rfl⟩
  have HCD : Hid (blR p h m l = cd) := hcd.symm
  clear hcd
  go_enter Try.func3, Try.ntmps3
  go_wp2_with (go_at_call 5; (with_reducible refine hsz.mono ?_); rintro e w1 ⟨r, rfl, hr, hb1⟩; have HB1 : Hid (BBx w w1 p h m a n c 24) := HB0.out.step hb1; obtain ⟨p0, p1, p2, p3, _⟩ := cells4 HB1.out.box; clear hb1)
  · go_ret
    exact ⟨rfl, HB1.out.bel⟩
  have hr0 : 0 ≤ r := by assumption
  rcases hr with e | ⟨_, _, hn2⟩
  · omega
  have hn3 : n ≤ 1048576 := by omega
  clear hn2 hsz HB0
  refine (toBl_any p h m a n c l w1 hn3 (HB1.out.at HT.out)).mono ?_
  rintro e w2 ⟨g0, c0, rfl, ho2, hb2⟩
  obtain ⟨HT2, hc2, hc3⟩ := blk_at ho2 HN.out
  have HB2 : Hid (BBx w w2 p h m a n c 24) := HB1.out.step hb2
  have hsp := sBlockFault_any n c0 _ p h m l w2 hn3 hc2 hc3 HT2.out
  rw [HCD.out] at hsp
  clear ho2 hb2 p0 p1 p2 p3 hc2 hc3
  go_wp2_with (go_at_call 6; (with_reducible refine hsp.mono ?_); rintro e w3 ⟨rfl, hb3⟩; have HB3 : Hid (BBx w w3 p h m a n c 24) := HB2.out.step hb3; obtain ⟨p0, p1, p2, p3, _⟩ := cells4 HB3.out.box; clear hb3)
  refine (toBl_any p h m a n c l w3 hn3 (HB3.out.at HT.out)).mono ?_
  rintro e w4 ⟨g2, c2, rfl, ho4, hb4⟩
  obtain ⟨HT4, hc4, hc5⟩ := blk_at ho4 HN.out
  have hbx4 : Below w4.heap.size w4 (w4.alloc (.cells #[.int .i64 p, .int .i64 h, .int .i64 m, .slice (some ⟨g2, 0, none⟩) n c2] 27)) := below_box _
  have HB4 : Hid (BBx w (w4.alloc (.cells #[.int .i64 p, .int .i64 h, .int .i64 m, .slice (some ⟨g2, 0, none⟩) n c2] 27)) p h m a n c 24) := (HB3.out.step hb4).step hbx4
  have HX4 := show Hid ((w4.alloc (.cells #[.int .i64 p, .int .i64 h, .int .i64 m, .slice (some ⟨g2, 0, none⟩) n c2] 27)).heap[w4.heap.size]? = some (.cells #[.int .i64 p, .int .i64 h, .int .i64 m, .slice (some ⟨g2, 0, none⟩) n c2] 27 (0, 0))) from heap_alloc_new _ _
  have HT5 : Hid (IAt (w4.alloc (.cells #[.int .i64 p, .int .i64 h, .int .i64 m, .slice (some ⟨g2, 0, none⟩) n c2] 27)) (some ⟨g2, 0, none⟩) n l) := HT4.out.below hbx4 (Nat.le_refl _)
  have him := iBlockFault_any n c2 _ p h m l _ hn3 hc4 hc5 HT5.out
  rw [HCD.out] at him
  clear ho4 hb4 hbx4 p0 p1 p2 p3
  go_wp2_with (go_at_call 8; (with_reducible refine him.mono ?_); rintro e w5 ⟨rfl, hb5⟩; have HB5 : Hid (BBx w w5 p h m a n c 24) := HB4.out.step hb5; have HX5 := keepb HX4.out hb5; obtain ⟨p0, p1, p2, p3, _⟩ := cells4 HB5.out.box; obtain ⟨x0, x1, x2, x3, _⟩ := cells4 HX5.out; have HT6 : Hid (IAt w5 (some ⟨g2, 0, none⟩) n l) := HT5.out.below hb5 (Nat.le_refl _); have hl4 := lt_of_block HX5.out; have hl0 := HB5.out.lt; clear hb5)
  have hto : Calls Try.prog 7 #[.agg #[.int .i64 p, .int .i64 h, .int .i64 m, .slice a n c]] w5.drew fun e w' => ∃ g0 c0, e = .returned (.agg #[.int .i64 p, .int .i64 h, .int .i64 m, .slice (some ⟨g0, 0, none⟩) n c0]) ∧ Hid (IAt w' (some ⟨g0, 0, none⟩) n l) ∧ Below w5.heap.size w5 w' :=
    (toBl_any p h m a n c l _ hn3 ((HB5.out.at HT.out).below (Below.refl _ _).drew (Nat.le_refl _))).mono fun e w' ⟨a0, a1, h1, h2, h4⟩ => ⟨a0, a1, h1, (blk_at h2 HN.out).1, (Below.refl _ _).drew.trans h4⟩
  go_region_held3 (fun w' => (w'.cell? ⟨w4.heap.size, 0, none⟩ = some (.int .i64 p) ∧ w'.cell? ⟨w4.heap.size, 1, none⟩ = some (.int .i64 h) ∧ w'.cell? ⟨w4.heap.size, 2, none⟩ = some (.int .i64 m) ∧ w'.cell? ⟨w4.heap.size, 3, none⟩ = some (.slice (some ⟨g2, 0, none⟩) n c2)) ∧ w'.cell? ⟨w.heap.size, 0, none⟩ = some (.int .i64 p) ∧ w'.cell? ⟨w.heap.size, 1, none⟩ = some (.int .i64 h) ∧ w'.cell? ⟨w.heap.size, 2, none⟩ = some (.int .i64 m) ∧ w'.cell? ⟨w.heap.size, 3, none⟩ = some (.slice a n c)) (go_keep)
    (first
      | (go_at_call 7; (with_reducible refine hto.mono ?_); rintro e w6 ⟨g6, c6, rfl, HT7, hb6⟩; obtain ⟨z0, z1, z2, z3⟩ := keepB hl4 hb6 ⟨x0, x1, x2, x3⟩; obtain ⟨z4, z5, z6, z7⟩ := keepB hl0 hb6 ⟨p0, p1, p2, p3⟩)
      | (go_at_call 9; refine (eqBl_any p h m _ _ n c2 c6 l _ hn3 (HT6.out.below hb6 (Nat.le_refl _)) HT7.out).mono ?_; rintro e w7 ⟨rfl, hb7⟩; have hs6 := hb6.size; obtain ⟨y0, y1, y2, y3⟩ := keepB (Nat.lt_of_lt_of_le hl4 hs6) hb7 ⟨z0, z1, z2, z3⟩; obtain ⟨y4, y5, y6, y7⟩ := keepB (Nat.lt_of_lt_of_le hl0 hs6) hb7 ⟨z4, z5, z6, z7⟩))
  go_wp2
  go_ret
  exact ⟨rfl, ((HB5.out.step hb6).step hb7).bel⟩

end Go.Proofs.Ytkmkdoddaooonaa
