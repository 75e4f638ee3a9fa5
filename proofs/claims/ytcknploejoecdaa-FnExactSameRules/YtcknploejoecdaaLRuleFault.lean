/- The law on RuleFault answers true, whatever rule comes in, and writes nothing that was there. -/
import Derived.Test.YtcknploejoecdaaIRf
namespace Go.Proofs.Ytcknploejoecdaa
open Go.RowKit Go.Maps Go.WideMaps

/-- What is known behind a call of a block of three cells. -/
theorem keep3 {v v' : World} {P : Nat} {c0 c1 c2 : Value} (hl : P < v.heap.size) (hb : Below v.heap.size v v') (h : v.cell? ⟨P, 0, none⟩ = some c0 ∧ v.cell? ⟨P, 1, none⟩ = some c1 ∧ v.cell? ⟨P, 2, none⟩ = some c2) : v'.cell? ⟨P, 0, none⟩ = some c0 ∧ v'.cell? ⟨P, 1, none⟩ = some c1 ∧ v'.cell? ⟨P, 2, none⟩ = some c2 :=
  ⟨(hb.cell (p := ⟨P, 0, none⟩) hl).trans h.1, (hb.cell (p := ⟨P, 1, none⟩) hl).trans h.2.1, (hb.cell (p := ⟨P, 2, none⟩) hl).trans h.2.2⟩

set_option maxRecDepth 20000 in
set_option maxHeartbeats 2000000 in
theorem lawRuleFault (n cap : Nat) (a : Option Addr) (l : List Int) (x y : Int) (w : World) (hn : n ≤ maxLen) (hI : IAt w a n l) :
    Calls Try.prog 12 #[.agg #[.slice a n cap, .int .i64 x, .int .i64 y]] w fun e w' => e = .returned (.bool true) ∧ Below w.heap.size w w' := by
  have B0 : RBx w (w.alloc (.cells #[.slice a n cap, .int .i64 x, .int .i64 y] 67)) a n cap x y 67 := RBx.start
  have hsz := szRu_any a n cap x y 1048576 (w.alloc (.cells #[.slice a n cap, .int .i64 x, .int .i64 y] 67)) (by omega) (by omega) hn
  have HN : Hid (l.length = n) := hI.1
  have HI : Hid (IAt w a n l) := hI
  have HB0 : Hid (RBx w (w.alloc (.cells #[.slice a n cap, .int .i64 x, .int .i64 y] 67)) a n cap x y 67) := B0
  clear hI B0
  obtain ⟨cd, hcd⟩ : ∃ c, c = ruleR l x y := ⟨_, rfl⟩
  have HCD : Hid (ruleR l x y = cd) := hcd.symm
  clear hcd
  go_enter Try.func12, Try.ntmps12
  go_wp2_with (go_at_call 45; refine hsz.mono ?_; rintro e w1 ⟨r, rfl, hr, hb1⟩; have HB1 : Hid (RBx w w1 a n cap x y 67) := HB0.out.step hb1; obtain ⟨p0, p1, p2⟩ := cells3 HB1.out.box; clear hb1)
  · go_ret
    exact ⟨rfl, HB1.out.bel⟩
  have hr0 : 0 ≤ r := by assumption
  rcases hr with e | ⟨_, _, hn2⟩
  · omega
  have hn3 : n ≤ 1048576 := by omega
  clear hn2 hsz HB0
  refine (toRu_any a n cap l x y w1 hn3 (HB1.out.ints HI.out)).mono ?_
  rintro e w2 ⟨g0, k0, rfl, ho2, hb2⟩
  have HB2 : Hid (RBx w w2 a n cap x y 67) := HB1.out.step hb2
  have hsp := sRuleFault_any n k0 _ l x y w2 hn3 (IAt.owned ho2 HN.out)
  rw [HCD.out] at hsp
  clear ho2 hb2 p0 p1 p2
  go_wp2_with (go_at_call 46; refine hsp.mono ?_; rintro e w3 ⟨rfl, hb3⟩; have HB3 : Hid (RBx w w3 a n cap x y 67) := HB2.out.step hb3; obtain ⟨p0, p1, p2⟩ := cells3 HB3.out.box; clear hb3)
  refine (toRu_any a n cap l x y w3 hn3 (HB3.out.ints HI.out)).mono ?_
  rintro e w4 ⟨g1, k1, rfl, ho4, hb4⟩
  have hbx4 : Below w4.heap.size w4 (w4.alloc (.cells #[.slice (some ⟨g1, 0, none⟩) n k1, .int .i64 x, .int .i64 y] 70)) := below_box _
  have HB4 : Hid (RBx w (w4.alloc (.cells #[.slice (some ⟨g1, 0, none⟩) n k1, .int .i64 x, .int .i64 y] 70)) a n cap x y 67) := (HB3.out.step hb4).step hbx4
  have hx4 := heap_alloc_new w4 (.cells #[.slice (some ⟨g1, 0, none⟩) n k1, .int .i64 x, .int .i64 y] 70)
  have hI4 : IAt (w4.alloc (.cells #[.slice (some ⟨g1, 0, none⟩) n k1, .int .i64 x, .int .i64 y] 70)) (some ⟨g1, 0, none⟩) n l := (IAt.owned ho4 HN.out).below hbx4 (Nat.le_refl _)
  have him := iRuleFault_any n k1 _ l x y _ hn3 hI4
  rw [HCD.out] at him
  have HX4 : Hid _ := hx4
  have HI4 := show Hid (IAt (w4.alloc (.cells #[.slice (some ⟨g1, 0, none⟩) n k1, .int .i64 x, .int .i64 y] 70)) (some ⟨g1, 0, none⟩) n l) from hI4
  clear ho4 hb4 hbx4 hx4 hI4 p0 p1 p2
  go_wp2_with (go_at_call 48; refine him.mono ?_; rintro e w5 ⟨rfl, hb5⟩; have HB5 : Hid (RBx w w5 a n cap x y 67) := HB4.out.step hb5; obtain ⟨p0, p1, p2⟩ := cells3 HB5.out.box; obtain ⟨x0, x1, x2⟩ := cells3 (keepb HX4.out hb5).out; have HI5 : Hid (IAt w5 (some ⟨g1, 0, none⟩) n l) := HI4.out.below hb5 (Nat.le_refl _); have hl4 := lt_of_block (keepb HX4.out hb5).out; have hl0 := HB5.out.lt; clear hb5)
  have hto : ∀ j, Calls Try.prog 47 #[.agg #[.slice a n cap, .int .i64 x, .int .i64 y]] (w5.drewN j) fun e w' => ∃ g c, e = .returned (.agg #[.slice (some ⟨g, 0, none⟩) n c, .int .i64 x, .int .i64 y]) ∧ Hid (IAt w' (some ⟨g, 0, none⟩) n l) ∧ Below w5.heap.size w5 w' := fun j =>
    (toRu_any a n cap l x y _ hn3 ((HB5.out.ints HI.out).below (Joins.below_draws _ w5 j) (Nat.le_refl _))).mono fun e w' ⟨g, c, h1, h2, h3⟩ => ⟨g, c, h1, IAt.owned h2 HN.out, (Joins.below_draws _ w5 j).trans h3⟩
  go_region_held3 (fun w' => w'.cell? ⟨w4.heap.size, 0, none⟩ = some (.slice (some ⟨g1, 0, none⟩) n k1) ∧ w'.cell? ⟨w4.heap.size, 1, none⟩ = some (.int .i64 x) ∧ w'.cell? ⟨w4.heap.size, 2, none⟩ = some (.int .i64 y) ∧ w'.cell? ⟨w.heap.size, 0, none⟩ = some (.slice a n cap) ∧ w'.cell? ⟨w.heap.size, 1, none⟩ = some (.int .i64 x) ∧ w'.cell? ⟨w.heap.size, 2, none⟩ = some (.int .i64 y)) (go_keep)
    (first
      | (go_at_call 47; refine (hto 1).mono ?_; rintro e w6 ⟨g6, k6, rfl, HI6, hb6⟩; obtain ⟨z0, z1, z2⟩ := keep3 hl4 hb6 ⟨x0, x1, x2⟩; obtain ⟨z3, z4, z5⟩ := keep3 hl0 hb6 ⟨p0, p1, p2⟩)
      | (go_at_call 49; refine (eqRu_any _ _ n k1 k6 l x y _ hn3 (HI5.out.below hb6 (Nat.le_refl _)) HI6.out).mono ?_; rintro e w7 ⟨rfl, hb7⟩; have hs6 := hb6.size; obtain ⟨y0, y1, y2⟩ := keep3 (Nat.lt_of_lt_of_le hl4 hs6) hb7 ⟨z0, z1, z2⟩; obtain ⟨y3, y4, y5⟩ := keep3 (Nat.lt_of_lt_of_le hl0 hs6) hb7 ⟨z3, z4, z5⟩))
  go_wp2
  go_ret
  exact ⟨rfl, ((HB5.out.step hb6).step hb7).bel⟩

end Go.Proofs.Ytcknploejoecdaa
