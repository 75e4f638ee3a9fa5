/- The law on StateFault answers true, whatever state comes in, and writes nothing that was there. -/
import Derived.Test.YtbjgngabdcknnaaHe
import Derived.Test.YtbjgngabdcknnaaHd
namespace Go.Proofs.Ytbjgngabdcknnaa
open Go.RowKit Go.Maps Go.WideMaps

set_option maxRecDepth 20000 in
set_option maxHeartbeats 2000000 in
theorem lawStateFault (n c m d : Nat) (ia oa : Option Addr) (k f : Int) (cs : List Co) (ms : List Mb) (w : World) (hn : n ≤ maxLen) (hm : m ≤ maxLen) (h : StAt w ia n oa m cs ms) :
    Calls Try.prog 6 #[.agg #[.int .i64 k, .int .i64 f, .slice ia n c, .slice oa m d]] w fun e w' => e = .returned (.bool true) ∧ Below w.heap.size w w' := by
  have B0 : SBx w (w.alloc (.cells #[.int .i64 k, .int .i64 f, .slice ia n c, .slice oa m d] 56)) k f ia n c oa m d 56 := SBx.start
  have hsz := szSt_any k f ia oa n m c d cs 1048576 (w.alloc (.cells #[.int .i64 k, .int .i64 f, .slice ia n c, .slice oa m d] 56)) (by omega) (by omega) hn hm (B0.at h).c
  have HN : Hid (ms.length = m) := h.m.1
  have HT : Hid (StAt w ia n oa m cs ms) := h
  have HB0 : Hid (SBx w (w.alloc (.cells #[.int .i64 k, .int .i64 f, .slice ia n c, .slice oa m d] 56)) k f ia n c oa m d 56) := B0
  clear h B0
  obtain ⟨cd, hcd⟩ : ∃ c, c = stR k f cs ms := ⟨_, rfl⟩
  have HCD : Hid (stR k f cs ms = cd) := hcd.symm
  clear hcd
  go_enter Try.func6, Try.ntmps6
  go_wp2_with (go_at_call 29; refine hsz.mono ?_; rintro e w1 ⟨r, rfl, hr, hb1⟩; have HB1 : Hid (SBx w w1 k f ia n c oa m d 56) := HB0.out.step hb1; obtain ⟨p0, p1, p2, p3, _⟩ := cells4 HB1.out.box; clear hb1)
  · go_ret
    exact ⟨rfl, HB1.out.bel⟩
  have hr0 : 0 ≤ r := by assumption
  rcases hr with e | ⟨_, _, hn2, hm2, hk2⟩
  · omega
  have hn3 : n ≤ 1048576 := by omega
  have hm3 : m ≤ 1048576 := by omega
  have HK : Hid (∀ j, j < n → (cs.getD j C0).l.length ≤ 1048576) := fun j hj => by have := hk2 j hj; omega
  clear hn2 hm2 hk2 hsz HB0
  refine (toSt_any k f ia oa n m c d cs ms w1 hn3 hm3 HK.out (HB1.out.at HT.out)).mono ?_
  rintro e w2 ⟨g0, c0, g1, c1, rfl, ho2, hO2, hb2⟩
  have HT2 := OutSt.at ho2.1 hO2 HN.out
  have HB2 : Hid (SBx w w2 k f ia n c oa m d 56) := HB1.out.step hb2
  have hsp := sStateFault_any n c0 m c1 _ _ k f cs ms w2 hn3 hm3 HK.out HT2.out
  rw [HCD.out] at hsp
  clear ho2 hO2 hb2 p0 p1 p2 p3
  go_wp2_with (go_at_call 30; refine hsp.mono ?_; rintro e w3 ⟨rfl, hb3⟩; have HB3 : Hid (SBx w w3 k f ia n c oa m d 56) := HB2.out.step hb3; obtain ⟨p0, p1, p2, p3, _⟩ := cells4 HB3.out.box; clear hb3)
  refine (toSt_any k f ia oa n m c d cs ms w3 hn3 hm3 HK.out (HB3.out.at HT.out)).mono ?_
  rintro e w4 ⟨g2, c2, g3, c3, rfl, ho4, hO4, hb4⟩
  have HT4 := OutSt.at ho4.1 hO4 HN.out
  have hbx4 : Below w4.heap.size w4 (w4.alloc (.cells #[.int .i64 k, .int .i64 f, .slice (some ⟨g2, 0, none⟩) n c2, .slice (some ⟨g3, 0, none⟩) m c3] 61)) := below_box _
  have HB4 : Hid (SBx w (w4.alloc (.cells #[.int .i64 k, .int .i64 f, .slice (some ⟨g2, 0, none⟩) n c2, .slice (some ⟨g3, 0, none⟩) m c3] 61)) k f ia n c oa m d 56) := (HB3.out.step hb4).step hbx4
  have HX4 := show Hid ((w4.alloc (.cells #[.int .i64 k, .int .i64 f, .slice (some ⟨g2, 0, none⟩) n c2, .slice (some ⟨g3, 0, none⟩) m c3] 61)).heap[w4.heap.size]? = some (.cells #[.int .i64 k, .int .i64 f, .slice (some ⟨g2, 0, none⟩) n c2, .slice (some ⟨g3, 0, none⟩) m c3] 61 (0, 0))) from heap_alloc_new _ _
  have HT5 : Hid (StAt (w4.alloc (.cells #[.int .i64 k, .int .i64 f, .slice (some ⟨g2, 0, none⟩) n c2, .slice (some ⟨g3, 0, none⟩) m c3] 61)) (some ⟨g2, 0, none⟩) n (some ⟨g3, 0, none⟩) m cs ms) := HT4.out.below hbx4 (Nat.le_refl _)
  have him := iStateFault_any n c2 m c3 _ _ k f cs ms _ hn3 hm3 HK.out HT5.out
  rw [HCD.out] at him
  clear ho4 hO4 hb4 hbx4 p0 p1 p2 p3
  go_wp2_with (go_at_call 32; refine him.mono ?_; rintro e w5 ⟨rfl, hb5⟩; have HB5 : Hid (SBx w w5 k f ia n c oa m d 56) := HB4.out.step hb5; have HX5 := keepb HX4.out hb5; obtain ⟨p0, p1, p2, p3, _⟩ := cells4 HB5.out.box; obtain ⟨x0, x1, x2, x3, _⟩ := cells4 HX5.out; have HT6 : Hid (StAt w5 (some ⟨g2, 0, none⟩) n (some ⟨g3, 0, none⟩) m cs ms) := HT5.out.below hb5 (Nat.le_refl _); have hl4 := lt_of_block HX5.out; have hl0 := HB5.out.lt; clear hb5)
  have hto : Calls Try.prog 31 #[.agg #[.int .i64 k, .int .i64 f, .slice ia n c, .slice oa m d]] w5.drew fun e w' => ∃ g0 c0 g1 c1, e = .returned (.agg #[.int .i64 k, .int .i64 f, .slice (some ⟨g0, 0, none⟩) n c0, .slice (some ⟨g1, 0, none⟩) m c1]) ∧ Hid (StAt w' (some ⟨g0, 0, none⟩) n (some ⟨g1, 0, none⟩) m cs ms) ∧ Below w5.heap.size w5 w' :=
    (toSt_any k f ia oa n m c d cs ms _ hn3 hm3 HK.out ((HB5.out.at HT.out).below (Below.refl _ _).drew (Nat.le_refl _))).mono fun e w' ⟨a0, a1, a2, a3, h1, h2, h3, h4⟩ => ⟨a0, a1, a2, a3, h1, OutSt.at h2.1 h3 HN.out, (Below.refl _ _).drew.trans h4⟩
  go_region_held3 (fun w' => (w'.cell? ⟨w4.heap.size, 0, none⟩ = some (.int .i64 k) ∧ w'.cell? ⟨w4.heap.size, 1, none⟩ = some (.int .i64 f) ∧ w'.cell? ⟨w4.heap.size, 2, none⟩ = some (.slice (some ⟨g2, 0, none⟩) n c2) ∧ w'.cell? ⟨w4.heap.size, 3, none⟩ = some (.slice (some ⟨g3, 0, none⟩) m c3)) ∧ w'.cell? ⟨w.heap.size, 0, none⟩ = some (.int .i64 k) ∧ w'.cell? ⟨w.heap.size, 1, none⟩ = some (.int .i64 f) ∧ w'.cell? ⟨w.heap.size, 2, none⟩ = some (.slice ia n c) ∧ w'.cell? ⟨w.heap.size, 3, none⟩ = some (.slice oa m d)) (go_keep)
    (first
      | (go_at_call 31; refine hto.mono ?_; rintro e w6 ⟨g6, c6, g7, c7, rfl, HT7, hb6⟩; obtain ⟨z0, z1, z2, z3⟩ := keepSt hl4 hb6 ⟨x0, x1, x2, x3⟩; obtain ⟨z4, z5, z6, z7⟩ := keepSt hl0 hb6 ⟨p0, p1, p2, p3⟩)
      | (go_at_call 33; refine (eqSt_any k f _ _ _ _ n m c2 c6 c3 c7 cs ms _ hn3 hm3 HK.out (HT6.out.below hb6 (Nat.le_refl _)) HT7.out).mono ?_; rintro e w7 ⟨rfl, hb7⟩; have hs6 := hb6.size; obtain ⟨y0, y1, y2, y3⟩ := keepSt (Nat.lt_of_lt_of_le hl4 hs6) hb7 ⟨z0, z1, z2, z3⟩; obtain ⟨y4, y5, y6, y7⟩ := keepSt (Nat.lt_of_lt_of_le hl0 hs6) hb7 ⟨z4, z5, z6, z7⟩))
  go_wp2
  go_ret
  exact ⟨rfl, ((HB5.out.step hb6).step hb7).bel⟩

end Go.Proofs.Ytbjgngabdcknnaa
