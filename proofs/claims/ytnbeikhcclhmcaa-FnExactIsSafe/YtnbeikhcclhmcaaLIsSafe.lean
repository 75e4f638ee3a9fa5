/- The law on IsSafe answers true, whatever quorum and numbers come in, and writes nothing that was there. -/
import Derived.Test.YtnbeikhcclhmcaaLQuorumFault
import Derived.Test.YtnbeikhcclhmcaaXg
namespace Go.Proofs.Ytnbeikhcclhmcaa
open Go.RowKit Go.Maps Go.WideMaps

set_option maxRecDepth 20000 in
set_option maxHeartbeats 4000000 in
theorem lawIsSafe (n cap m cb : Nat) (a b : Option Addr) (l t : List Int) (x : Int) (w : World) (hn : n ≤ maxLen) (hm : m ≤ maxLen) (hI : IAt w a n l) (hJ : IAt w b m t) :
    Calls Try.prog 6 #[.agg #[.slice a n cap, .int .i64 x], .slice b m cb] w fun e w' => e = .returned (.bool true) ∧ Below w.heap.size w w' := by
  have B0 : QBx w (w.alloc (.cells #[.slice a n cap, .int .i64 x] 24)) a n cap x 24 := QBx.start
  have hsz := szQu_any a n cap x 1048576 (w.alloc (.cells #[.slice a n cap, .int .i64 x] 24)) (by omega) (by omega) hn
  have HN : Hid (l.length = n) := hI.1
  have HM : Hid (t.length = m) := hJ.1
  have HI : Hid (IAt w a n l) := hI
  have HJ : Hid (IAt w b m t) := hJ
  have HB0 : Hid (QBx w (w.alloc (.cells #[.slice a n cap, .int .i64 x] 24)) a n cap x 24) := B0
  clear hI hJ B0
  obtain ⟨cd, hcd⟩ : ∃ c, c = safeR l x t := ⟨_, rfl⟩
  have HCD : Hid (safeR l x t = cd) := hcd.symm
  clear hcd
  by_cases hbig : 1048576 < m
  · have hbi : (1048576 : Int) < (m : Int) := by omega
    go_enter Try.func6, Try.ntmps6
    go_wp2
    go_ret
    exact ⟨rfl, HB0.out.bel⟩
  have hm3 : m ≤ 1048576 := by omega
  have hbi : (m : Int) ≤ 1048576 := by omega
  clear hbig
  go_enter Try.func6, Try.ntmps6
  go_wp2_with (go_at_call 9; refine hsz.mono ?_; rintro e w1 ⟨r, rfl, hr, hb1⟩; have HB1 : Hid (QBx w w1 a n cap x 24) := HB0.out.step hb1; obtain ⟨p0, p1⟩ := cells2 HB1.out.box; clear hb1)
  · go_ret
    exact ⟨rfl, HB1.out.bel⟩
  have hr0 : 0 ≤ r := by assumption
  rcases hr with e | ⟨_, _, hn2⟩
  · omega
  have hn3 : n ≤ 1048576 := by omega
  clear hn2 hsz HB0
  refine (toQu_any a n cap l x w1 hn3 (HB1.out.ints HI.out)).mono ?_
  rintro e w2 ⟨g0, k0, rfl, ho2, hb2⟩
  have HB2 : Hid (QBx w w2 a n cap x 24) := HB1.out.step hb2
  have HI2 : Hid (IAt w2 (some ⟨g0, 0, none⟩) n l) := IAt.owned ho2 HN.out
  have hti := toI_any b m cb t w2 hm3 (HJ.out.below HB2.out.bel (Nat.le_refl _))
  clear ho2 hb2 p0 p1
  go_wp2_with (first
    | (go_at_call 20; (with_reducible refine hti.mono ?_); clear hti; rintro e w3 ⟨g1, k1, rfl, ho3, hb3⟩; have HB3 : Hid (QBx w w3 a n cap x 24) := HB2.out.step hb3; have hsp := sIsSafe_any n k0 m k1 _ _ l t x w3 hn3 hm (HI2.out.below hb3 (Nat.le_refl _)) (IAt.owned ho3 HM.out); rw [HCD.out] at hsp; clear ho3 hb3)
    | (go_at_call 19; (with_reducible refine hsp.mono ?_); clear hsp; rintro e w4 ⟨rfl, hb4⟩; have HB4 : Hid (QBx w w4 a n cap x 24) := HB3.out.step hb4; obtain ⟨p0, p1⟩ := cells2 HB4.out.box; clear hb4))
  refine (toQu_any a n cap l x w4 hn3 (HB4.out.ints HI.out)).mono ?_
  rintro e w5 ⟨g2, k2, rfl, ho5, hb5⟩
  obtain ⟨W5, hW5⟩ : ∃ W, W = w5.alloc (.cells #[.slice (some ⟨g2, 0, none⟩) n k2, .int .i64 x] 27) := ⟨_, rfl⟩
  have hbx5 : Below w5.heap.size w5 W5 := by rw [hW5]; exact below_box _
  have HX5 : Hid (W5.heap[w5.heap.size]? = some (.cells #[.slice (some ⟨g2, 0, none⟩) n k2, .int .i64 x] 27 (0, 0))) := by show _ = _; rw [hW5]; exact heap_alloc_new _ _
  have HB5 : Hid (QBx w W5 a n cap x 24) := (HB4.out.step hb5).step hbx5
  have HI5 : Hid (IAt W5 (some ⟨g2, 0, none⟩) n l) := (IAt.owned ho5 HN.out).below hbx5 (Nat.le_refl _)
  have hti := toI_any b m cb t W5 hm3 (HJ.out.below HB5.out.bel (Nat.le_refl _))
  have HW5 : Hid (W5 = w5.alloc (.cells #[.slice (some ⟨g2, 0, none⟩) n k2, .int .i64 x] 27)) := hW5
  rw [hW5] at hti
  clear ho5 hb5 hbx5 hW5 p0 p1
  go_wp2_with (first
    | (go_at_call 20; (with_reducible refine hti.mono ?_); clear hti; rintro e w6 ⟨g3, k3, rfl, ho6, hb6⟩; rw [← HW5.out] at ho6 hb6; have HB6 : Hid (QBx w w6 a n cap x 24) := HB5.out.step hb6; have HX6 : Hid (w6.heap[w5.heap.size]? = some (.cells #[.slice (some ⟨g2, 0, none⟩) n k2, .int .i64 x] 27 (0, 0))) := keepb HX5.out hb6; have HI6 : Hid (IAt w6 (some ⟨g2, 0, none⟩) n l) := HI5.out.below hb6 (Nat.le_refl _); have HJ6 : Hid (IAt w6 (some ⟨g3, 0, none⟩) m t) := IAt.owned ho6 HM.out; have him := iIsSafe_any n k2 m k3 _ _ l t x w6 hn3 hm HI6.out HJ6.out; rw [HCD.out] at him; obtain ⟨x0, x1⟩ := cells2 HX6.out; clear ho6 hb6)
    | (go_at_call 21; (with_reducible refine him.mono ?_); clear him; rintro e w7 ⟨rfl, hb7⟩; have HB7 : Hid (QBx w w7 a n cap x 24) := HB6.out.step hb7; obtain ⟨p0, p1⟩ := cells2 HB7.out.box; obtain ⟨x0, x1⟩ := cells2 (keepb HX6.out hb7).out; have HI7 : Hid (IAt w7 (some ⟨g2, 0, none⟩) n l) := HI6.out.below hb7 (Nat.le_refl _); have HJ7 : Hid (IAt w7 (some ⟨g3, 0, none⟩) m t) := HJ6.out.below hb7 (Nat.le_refl _); have hl4 := lt_of_block (keepb HX6.out hb7).out; have hl0 := HB7.out.lt; clear hb7))
  have hto : ∀ j, Calls Try.prog 11 #[.agg #[.slice a n cap, .int .i64 x]] (w7.drewN j) fun e w' => ∃ g c, e = .returned (.agg #[.slice (some ⟨g, 0, none⟩) n c, .int .i64 x]) ∧ Hid (IAt w' (some ⟨g, 0, none⟩) n l) ∧ Below w7.heap.size w7 w' := fun j =>
    (toQu_any a n cap l x _ hn3 ((HB7.out.ints HI.out).below (Joins.below_draws _ w7 j) (Nat.le_refl _))).mono fun _ _ ⟨g, c, h1, h2, h3⟩ => ⟨g, c, h1, IAt.owned h2 HN.out, (Joins.below_draws _ w7 j).trans h3⟩
  go_region_held3 (fun w' => w'.cell? ⟨w5.heap.size, 0, none⟩ = some (.slice (some ⟨g2, 0, none⟩) n k2) ∧ w'.cell? ⟨w5.heap.size, 1, none⟩ = some (.int .i64 x) ∧ w'.cell? ⟨w.heap.size, 0, none⟩ = some (.slice a n cap) ∧ w'.cell? ⟨w.heap.size, 1, none⟩ = some (.int .i64 x)) (go_keep)
    (first
      | (go_at_call 11; refine (hto 1).mono ?_; rintro e w8 ⟨g8, k8, rfl, HI8, hb8⟩; obtain ⟨z0, z1⟩ := keep2 hl4 hb8 ⟨x0, x1⟩; obtain ⟨z3, z4⟩ := keep2 hl0 hb8 ⟨p0, p1⟩)
      | (go_at_call 13; refine (eqQu_any _ _ n k2 k8 l x _ hn3 (HI7.out.below hb8 (Nat.le_refl _)) HI8.out).mono ?_; rintro e w9 ⟨rfl, hb9⟩; have hs8 := hb8.size; obtain ⟨y0, y1⟩ := keep2 (Nat.lt_of_lt_of_le hl4 hs8) hb9 ⟨z0, z1⟩; obtain ⟨y3, y4⟩ := keep2 (Nat.lt_of_lt_of_le hl0 hs8) hb9 ⟨z3, z4⟩))
  have HB9 : Hid (QBx w w9 a n cap x 24) := (HB7.out.step hb8).step hb9
  have HJ9 : Hid (IAt w9 (some ⟨g3, 0, none⟩) m t) := (HJ7.out.below hb8 (Nat.le_refl _)).below hb9 (Nat.le_refl _)
  have hti := toI_any b m cb t w9 hm3 (HJ.out.below HB9.out.bel (Nat.le_refl _))
  clear z0 z1 z3 z4 hto
  go_wp2_with (first
    | (go_at_call 20; (with_reducible refine hti.mono ?_); clear hti; rintro e wa ⟨ga, ka, rfl, hoa, hba⟩; have HBa : Hid (QBx w wa a n cap x 24) := HB9.out.step hba; have heq := eqI_any _ _ m k3 ka t wa hm3 (HJ9.out.below hba (Nat.le_refl _)) (IAt.owned hoa HM.out); clear hoa hba)
    | (go_at_call 22; (with_reducible refine heq.mono ?_); clear heq; rintro e wb ⟨rfl, hbb⟩; have HBb : Hid (QBx w wb a n cap x 24) := HBa.out.step hbb; clear hbb))
  go_ret
  exact ⟨rfl, HBb.out.bel⟩

end Go.Proofs.Ytnbeikhcclhmcaa
