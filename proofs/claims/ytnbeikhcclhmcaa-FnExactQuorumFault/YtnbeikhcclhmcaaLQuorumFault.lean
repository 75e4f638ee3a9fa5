/- The law on QuorumFault answers true, whatever quorum comes in, and writes nothing that was there. -/
import Derived.Test.YtnbeikhcclhmcaaXd
namespace Go.Proofs.Ytnbeikhcclhmcaa
open Go.RowKit Go.Maps Go.WideMaps

/-- What is known behind a call of a block of two cells. -/
theorem keep2 {v v' : World} {P : Nat} {c0 c1 : Value} (hl : P < v.heap.size) (hb : Below v.heap.size v v') (h : v.cell? ⟨P, 0, none⟩ = some c0 ∧ v.cell? ⟨P, 1, none⟩ = some c1) : v'.cell? ⟨P, 0, none⟩ = some c0 ∧ v'.cell? ⟨P, 1, none⟩ = some c1 :=
  ⟨(hb.cell (p := ⟨P, 0, none⟩) hl).trans h.1, (hb.cell (p := ⟨P, 1, none⟩) hl).trans h.2⟩

set_option maxRecDepth 20000 in
set_option maxHeartbeats 2000000 in
theorem lawQuorumFault (n cap : Nat) (a : Option Addr) (l : List Int) (x : Int) (w : World) (hn : n ≤ maxLen) (hI : IAt w a n l) :
    Calls Try.prog 3 #[.agg #[.slice a n cap, .int .i64 x]] w fun e w' => e = .returned (.bool true) ∧ Below w.heap.size w w' := by
  have B0 : QBx w (w.alloc (.cells #[.slice a n cap, .int .i64 x] 24)) a n cap x 24 := QBx.start
  have hsz := szQu_any a n cap x 1048576 (w.alloc (.cells #[.slice a n cap, .int .i64 x] 24)) (by omega) (by omega) hn
  have HN : Hid (l.length = n) := hI.1
  have HI : Hid (IAt w a n l) := hI
  have HB0 : Hid (QBx w (w.alloc (.cells #[.slice a n cap, .int .i64 x] 24)) a n cap x 24) := B0
  clear hI B0
  obtain ⟨cd, hcd⟩ : ∃ c, c = quoR l x := ⟨_, rfl⟩
  have HCD : Hid (quoR l x = cd) := hcd.symm
  clear hcd
  go_enter Try.func3, Try.ntmps3
  go_wp2_with (go_at_call 9; refine hsz.mono ?_; rintro e w1 ⟨r, rfl, hr, hb1⟩; have HB1 : Hid (QBx w w1 a n cap x 24) := HB0.out.step hb1; obtain ⟨p0, p1⟩ := cells2 HB1.out.box; clear hb1)
  · go_ret
    exact ⟨rfl, HB1.out.bel⟩
  have hr0 : 0 ≤ r := by assumption
  rcases hr with e | ⟨_, _, hn2⟩
  · omega
  have hn3 : n ≤ 1048576 := by omega
  clear hn2 hsz HB0
  refine (toQu_any a n cap l x w1 hn3 (HB1.out.ints HI.out)).mono ?_
  rintro e w2 ⟨g0, k0, rfl, ho2, hb2⟩
  have HB2 : Hid (QBx w w2 a n cap x 24) := HB1.out.step hb2
  have hsp := sQuorumFault_any n k0 _ l x w2 hn3 (IAt.owned ho2 HN.out)
  rw [HCD.out] at hsp
  clear ho2 hb2 p0 p1
  go_wp2_with (go_at_call 10; refine hsp.mono ?_; rintro e w3 ⟨rfl, hb3⟩; have HB3 : Hid (QBx w w3 a n cap x 24) := HB2.out.step hb3; obtain ⟨p0, p1⟩ := cells2 HB3.out.box; clear hb3)
  refine (toQu_any a n cap l x w3 hn3 (HB3.out.ints HI.out)).mono ?_
  rintro e w4 ⟨g1, k1, rfl, ho4, hb4⟩
  have hbx4 : Below w4.heap.size w4 (w4.alloc (.cells #[.slice (some ⟨g1, 0, none⟩) n k1, .int .i64 x] 27)) := below_box _
  have HB4 : Hid (QBx w (w4.alloc (.cells #[.slice (some ⟨g1, 0, none⟩) n k1, .int .i64 x] 27)) a n cap x 24) := (HB3.out.step hb4).step hbx4
  have hx4 := heap_alloc_new w4 (.cells #[.slice (some ⟨g1, 0, none⟩) n k1, .int .i64 x] 27)
  have hI4 : IAt (w4.alloc (.cells #[.slice (some ⟨g1, 0, none⟩) n k1, .int .i64 x] 27)) (some ⟨g1, 0, none⟩) n l := (IAt.owned ho4 HN.out).below hbx4 (Nat.le_refl _)
  have him := iQuorumFault_any n k1 _ l x _ hn3 hI4
  rw [HCD.out] at him
  have HX4 : Hid _ := hx4
  have HI4 := show Hid (IAt (w4.alloc (.cells #[.slice (some ⟨g1, 0, none⟩) n k1, .int .i64 x] 27)) (some ⟨g1, 0, none⟩) n l) from hI4
  clear ho4 hb4 hbx4 hx4 hI4 p0 p1
  go_wp2_with (go_at_call 12; refine him.mono ?_; rintro e w5 ⟨rfl, hb5⟩; have HB5 : Hid (QBx w w5 a n cap x 24) := HB4.out.step hb5; obtain ⟨p0, p1⟩ := cells2 HB5.out.box; obtain ⟨x0, x1⟩ := cells2 (keepb HX4.out hb5).out; have HI5 : Hid (IAt w5 (some ⟨g1, 0, none⟩) n l) := HI4.out.below hb5 (Nat.le_refl _); have hl4 := lt_of_block (keepb HX4.out hb5).out; have hl0 := HB5.out.lt; clear hb5)
  have hto : ∀ j, Calls Try.prog 11 #[.agg #[.slice a n cap, .int .i64 x]] (w5.drewN j) fun e w' => ∃ g c, e = .returned (.agg #[.slice (some ⟨g, 0, none⟩) n c, .int .i64 x]) ∧ Hid (IAt w' (some ⟨g, 0, none⟩) n l) ∧ Below w5.heap.size w5 w' := fun j =>
    (toQu_any a n cap l x _ hn3 ((HB5.out.ints HI.out).below (Joins.below_draws _ w5 j) (Nat.le_refl _))).mono fun _ _ ⟨g, c, h1, h2, h3⟩ => ⟨g, c, h1, IAt.owned h2 HN.out, (Joins.below_draws _ w5 j).trans h3⟩
  go_region_held3 (fun w' => w'.cell? ⟨w4.heap.size, 0, none⟩ = some (.slice (some ⟨g1, 0, none⟩) n k1) ∧ w'.cell? ⟨w4.heap.size, 1, none⟩ = some (.int .i64 x) ∧ w'.cell? ⟨w.heap.size, 0, none⟩ = some (.slice a n cap) ∧ w'.cell? ⟨w.heap.size, 1, none⟩ = some (.int .i64 x)) (go_keep)
    (first
      | (go_at_call 11; refine (hto 1).mono ?_; rintro e w6 ⟨g6, k6, rfl, HI6, hb6⟩; obtain ⟨z0, z1⟩ := keep2 hl4 hb6 ⟨x0, x1⟩; obtain ⟨z3, z4⟩ := keep2 hl0 hb6 ⟨p0, p1⟩)
      | (go_at_call 13; refine (eqQu_any _ _ n k1 k6 l x _ hn3 (HI5.out.below hb6 (Nat.le_refl _)) HI6.out).mono ?_; rintro e w7 ⟨rfl, hb7⟩; have hs6 := hb6.size; obtain ⟨y0, y1⟩ := keep2 (Nat.lt_of_lt_of_le hl4 hs6) hb7 ⟨z0, z1⟩; obtain ⟨y3, y4⟩ := keep2 (Nat.lt_of_lt_of_le hl0 hs6) hb7 ⟨z3, z4⟩))
  go_wp2
  go_ret
  exact ⟨rfl, ((HB5.out.step hb6).step hb7).bel⟩

end Go.Proofs.Ytnbeikhcclhmcaa
