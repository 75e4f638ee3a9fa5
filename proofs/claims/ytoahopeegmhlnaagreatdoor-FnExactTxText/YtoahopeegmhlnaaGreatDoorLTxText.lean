/- The law on TxText answers true, whatever transaction comes in, and writes nothing that was there: where the program's TxText keeps its contract. -/
import Derived.Test.YtoahopeegmhlnaaGreatDoorTtU
namespace Go.Proofs.YtoahopeegmhlnaaGreatDoor
open Go.RowKit Go.Shelf Go.Maps Go.WideMaps

set_option maxRecDepth 20000 in
set_option maxHeartbeats 2000000 in
theorem lawTxText (hi : ITxText) (n c m d : Nat) (ia oa : Option Addr) (k f : Int) (rs : List (Int × Int)) (os : List Ou) (w : World) (hn : n ≤ maxLen) (hm : m ≤ maxLen) (hwk : (Lit.int .i64 k).wf = true) (hwf : (Lit.int .i64 f).wf = true) (hfr : FineR rs) (hfo : FineO os) (h : TxAt w ia n oa m rs os) (hev : Ev w) :
    Calls Tryz.prog 3 #[.agg #[.int .i64 k, .int .i64 f, .slice ia n c, .slice oa m d]] w fun e w' => e = .returned (.bool true) ∧ Below w.heap.size w w' := by
  have B0 : TBx w (w.alloc (.cells #[.int .i64 k, .int .i64 f, .slice ia n c, .slice oa m d] 25)) k f ia n c oa m d 25 := TBx.start
  have hsz := szTx_any k f ia oa n m c d os 1048576 (w.alloc (.cells #[.int .i64 k, .int .i64 f, .slice ia n c, .slice oa m d] 25)) (by omega) (by omega) hn hm (B0.at h).o
  have HI : Hid ITxText := hi
  have HEV : Hid (Ev w) := hev
  have HN : Hid (rs.length = n) := h.r.1
  have HT : Hid (TxAt w ia n oa m rs os) := h
  have HW : Hid ((Lit.int .i64 k).wf = true ∧ (Lit.int .i64 f).wf = true ∧ FineR rs ∧ FineO os) := ⟨hwk, hwf, hfr, hfo⟩
  have HB0 : Hid (TBx w (w.alloc (.cells #[.int .i64 k, .int .i64 f, .slice ia n c, .slice oa m d] 25)) k f ia n c oa m d 25) := B0
  clear h B0 hi hwk hwf hfr hfo hev
  obtain ⟨r1, h1⟩ : ∃ c, c = (ttR k f rs os).1 := ⟨_, rfl⟩
  obtain ⟨r2, h2⟩ : ∃ c, c = str (ttR k f rs os).2 := ⟨_, rfl⟩
  have HC1 : Hid ((ttR k f rs os).1 = r1) := h1.symm
  have HC2 : Hid (str (ttR k f rs os).2 = r2) := h2.symm
  clear h1 h2
  go_enter Tryz.func3, Tryz.ntmps3
  go_wp2_with (go_at_call 4; refine hsz.mono ?_; rintro e w1 ⟨r, rfl, hr, hb1⟩; have HB1 : Hid (TBx w w1 k f ia n c oa m d 25) := HB0.out.step hb1; obtain ⟨p0, p1, p2, p3, _⟩ := cells4 HB1.out.box; clear hb1)
  · go_ret
    exact ⟨rfl, HB1.out.bel⟩
  have hr0 : 0 ≤ r := by assumption
  rcases hr with e | ⟨_, _, hn2, hm2, hk2⟩
  · omega
  have hn3 : n ≤ 1048576 := by omega
  have hm3 : m ≤ 1048576 := by omega
  have HK : Hid (∀ j, j < m → (os.getD j O0).l.length ≤ 1048576) := fun j hj => by have := hk2 j hj; omega
  clear hn2 hm2 hk2 hsz HB0
  refine (toTx_any k f ia oa n m c d rs os w1 hn3 hm3 HK.out (HB1.out.at HT.out)).mono ?_
  rintro e w2 ⟨g0, c0, g1, c1, rfl, ho2, hO2, hb2⟩
  obtain ⟨HT2, hc2, hc3⟩ := OutTx.at ho2 hO2 HN.out
  have HB2 : Hid (TBx w w2 k f ia n c oa m d 25) := HB1.out.step hb2
  have hsp := sTxText_any n c0 m c1 _ _ k f rs os w2 hn3 hm3 hc2 hc3 HK.out HT2.out
  rw [HC1.out, HC2.out] at hsp
  clear ho2 hO2 hb2 p0 p1 p2 p3 hc2 hc3
  go_wp2_with (go_at_call 5; refine hsp.mono ?_; rintro e w3 ⟨rfl, hb3⟩; have HB3 : Hid (TBx w (w3.alloc (.cells #[.int .i64 r1, .string r2] 28)) k f ia n c oa m d 25) := (HB2.out.step hb3).step (below_box _); have HW3 := show Hid ((w3.alloc (.cells #[.int .i64 r1, .string r2] 28)).heap[w3.heap.size]? = some (.cells #[.int .i64 r1, .string r2] 28 (0, 0))) from heap_alloc_new _ _; obtain ⟨p0, p1, p2, p3, _⟩ := cells4 HB3.out.box; clear hb3)
  refine (toTx_any k f ia oa n m c d rs os _ hn3 hm3 HK.out (HB3.out.at HT.out)).mono ?_
  rintro e w4 ⟨g2, c2, g3, c3, rfl, ho4, hO4, hb4⟩
  obtain ⟨HT4, hc4, hc5⟩ := OutTx.at ho4 hO4 HN.out
  have hbx4 : Below w4.heap.size w4 (w4.alloc (.cells #[.int .i64 k, .int .i64 f, .slice (some ⟨g2, 0, none⟩) n c2, .slice (some ⟨g3, 0, none⟩) m c3] 33)) := below_box _
  have HB4 : Hid (TBx w (w4.alloc (.cells #[.int .i64 k, .int .i64 f, .slice (some ⟨g2, 0, none⟩) n c2, .slice (some ⟨g3, 0, none⟩) m c3] 33)) k f ia n c oa m d 25) := (HB3.out.step hb4).step hbx4
  have HX4 := show Hid ((w4.alloc (.cells #[.int .i64 k, .int .i64 f, .slice (some ⟨g2, 0, none⟩) n c2, .slice (some ⟨g3, 0, none⟩) m c3] 33)).heap[w4.heap.size]? = some (.cells #[.int .i64 k, .int .i64 f, .slice (some ⟨g2, 0, none⟩) n c2, .slice (some ⟨g3, 0, none⟩) m c3] 33 (0, 0))) from heap_alloc_new _ _
  have HT5 : Hid (TxAt (w4.alloc (.cells #[.int .i64 k, .int .i64 f, .slice (some ⟨g2, 0, none⟩) n c2, .slice (some ⟨g3, 0, none⟩) m c3] 33)) (some ⟨g2, 0, none⟩) n (some ⟨g3, 0, none⟩) m rs os) := HT4.out.below hbx4 (Nat.le_refl _)
  have him := HI.out n c2 m c3 _ _ k f rs os _ hn3 hm3 hc4 hc5 HK.out HW.out.1 HW.out.2.1 HW.out.2.2.1 HW.out.2.2.2 HT5.out (HEV.out.below HB4.out.bel (Nat.le_refl _))
  rw [HC1.out, HC2.out] at him
  have HW4 := keepb (keepb HW3.out hb4).out hbx4
  clear ho4 hO4 hb4 hbx4 p0 p1 p2 p3
  go_wp2_with (first
    | (go_at_call 7; refine him.mono ?_; rintro e w5 ⟨rfl, hb5⟩; have HBA : Hid (TBx w (w5.alloc (.cells #[.int .i64 r1, .string r2] 28)) k f ia n c oa m d 25) := (HB4.out.step hb5).step (below_box _); have HXA := keepb (keepb HX4.out hb5).out (below_box (.cells #[.int .i64 r1, .string r2] 28)); have HWA := keepb (keepb HW4.out hb5).out (below_box (.cells #[.int .i64 r1, .string r2] 28)); have HTA : Hid (TxAt (w5.alloc (.cells #[.int .i64 r1, .string r2] 28)) (some ⟨g2, 0, none⟩) n (some ⟨g3, 0, none⟩) m rs os) := (HT5.out.below hb5 (Nat.le_refl _)).below (below_box _) (Nat.le_refl _); obtain ⟨u0, u1⟩ := cells2 HWA.out; clear hb5)
    | (go_at_call 8; refine (eqTextR_any _ _ _).mono ?_; rintro e w5b ⟨rfl, hb5⟩; have HB5 : Hid (TBx w w5b k f ia n c oa m d 25) := HBA.out.step hb5; have HX5 := keepb HXA.out hb5; obtain ⟨p0, p1, p2, p3, _⟩ := cells4 HB5.out.box; obtain ⟨x0, x1, x2, x3, _⟩ := cells4 HX5.out; have HT6 : Hid (TxAt w5b (some ⟨g2, 0, none⟩) n (some ⟨g3, 0, none⟩) m rs os) := HTA.out.below hb5 (Nat.le_refl _); have hl4 := lt_of_block HX5.out; have hl0 := HB5.out.lt; clear hb5 u0 u1))
  have hto : Calls Tryz.prog 6 #[.agg #[.int .i64 k, .int .i64 f, .slice ia n c, .slice oa m d]] w5b.drew fun e w' => ∃ g0 c0 g1 c1, e = .returned (.agg #[.int .i64 k, .int .i64 f, .slice (some ⟨g0, 0, none⟩) n c0, .slice (some ⟨g1, 0, none⟩) m c1]) ∧ Hid (TxAt w' (some ⟨g0, 0, none⟩) n (some ⟨g1, 0, none⟩) m rs os) ∧ Below w5b.heap.size w5b w' :=
    (toTx_any k f ia oa n m c d rs os _ hn3 hm3 HK.out ((HB5.out.at HT.out).below (Below.refl _ _).drew (Nat.le_refl _))).mono fun e w' ⟨a0, a1, a2, a3, h1, h2, h3, h4⟩ => ⟨a0, a1, a2, a3, h1, (OutTx.at h2 h3 HN.out).1, (Below.refl _ _).drew.trans h4⟩
  go_region_held3 (fun w' => (w'.cell? ⟨w4.heap.size, 0, none⟩ = some (.int .i64 k) ∧ w'.cell? ⟨w4.heap.size, 1, none⟩ = some (.int .i64 f) ∧ w'.cell? ⟨w4.heap.size, 2, none⟩ = some (.slice (some ⟨g2, 0, none⟩) n c2) ∧ w'.cell? ⟨w4.heap.size, 3, none⟩ = some (.slice (some ⟨g3, 0, none⟩) m c3)) ∧ w'.cell? ⟨w.heap.size, 0, none⟩ = some (.int .i64 k) ∧ w'.cell? ⟨w.heap.size, 1, none⟩ = some (.int .i64 f) ∧ w'.cell? ⟨w.heap.size, 2, none⟩ = some (.slice ia n c) ∧ w'.cell? ⟨w.heap.size, 3, none⟩ = some (.slice oa m d)) (go_keep)
    (first
      | (go_at_call 6; refine hto.mono ?_; rintro e w6 ⟨g6, c6, g7, c7, rfl, HT7, hb6⟩; obtain ⟨z0, z1, z2, z3⟩ := keep4 hl4 hb6 ⟨x0, x1, x2, x3⟩; obtain ⟨z4, z5, z6, z7⟩ := keep4 hl0 hb6 ⟨p0, p1, p2, p3⟩)
      | (go_at_call 9; refine (eqTx_any k f _ _ _ _ n m c2 c6 c3 c7 rs os _ hn3 hm3 HK.out (HT6.out.below hb6 (Nat.le_refl _)) HT7.out).mono ?_; rintro e w7 ⟨rfl, hb7⟩; have hs6 := hb6.size; obtain ⟨y0, y1, y2, y3⟩ := keep4 (Nat.lt_of_lt_of_le hl4 hs6) hb7 ⟨z0, z1, z2, z3⟩; obtain ⟨y4, y5, y6, y7⟩ := keep4 (Nat.lt_of_lt_of_le hl0 hs6) hb7 ⟨z4, z5, z6, z7⟩))
  go_wp2
  go_ret
  exact ⟨rfl, ((HB5.out.step hb6).step hb7).bel⟩

end Go.Proofs.YtoahopeegmhlnaaGreatDoor
