/- The law on RuleText answers true, whatever rule comes in, and writes nothing that was there. -/
import Derived.Test.YtpllpncplncaiaaDoorRtU
import Derived.Test.YtpllpncplncaiaaDoorTextOf
namespace Go.Proofs.YtpllpncplncaiaaDoor
open Go.RowKit Go.Shelf Go.Maps Go.WideMaps

/-- What is known behind a call of a block of three cells. -/
theorem keep3T {v v' : World} {P : Nat} {c0 c1 c2 : Value} (hl : P < v.heap.size) (hb : Below v.heap.size v v') (h : v.cell? ⟨P, 0, none⟩ = some c0 ∧ v.cell? ⟨P, 1, none⟩ = some c1 ∧ v.cell? ⟨P, 2, none⟩ = some c2) : v'.cell? ⟨P, 0, none⟩ = some c0 ∧ v'.cell? ⟨P, 1, none⟩ = some c1 ∧ v'.cell? ⟨P, 2, none⟩ = some c2 :=
  ⟨(hb.cell (p := ⟨P, 0, none⟩) hl).trans h.1, (hb.cell (p := ⟨P, 1, none⟩) hl).trans h.2.1, (hb.cell (p := ⟨P, 2, none⟩) hl).trans h.2.2⟩

set_option maxRecDepth 20000 in
set_option maxHeartbeats 2000000 in
theorem lawRuleText (n cap : Nat) (a : Option Addr) (l : List Int) (x y : Int) (w : World) (hn : n ≤ maxLen) (hI : IAt w a n l) (hTb : Tb w) :
    Calls Tryd.prog 3 #[.agg #[.slice a n cap, .int .i64 x, .int .i64 y]] w fun e w' => e = .returned (.bool true) ∧ Below w.heap.size w w' := by
  have B0 : RBx w (w.alloc (.cells #[.slice a n cap, .int .i64 x, .int .i64 y] 24)) a n cap x y 24 := RBx.start
  have hsz := szRu_any a n cap x y 1048576 (w.alloc (.cells #[.slice a n cap, .int .i64 x, .int .i64 y] 24)) (by omega) (by omega) hn
  have HN : Hid (l.length = n) := hI.1
  have HI : Hid (IAt w a n l) := hI
  have HTB : Hid (Tb w) := hTb
  have HB0 : Hid (RBx w (w.alloc (.cells #[.slice a n cap, .int .i64 x, .int .i64 y] 24)) a n cap x y 24) := B0
  clear hI B0 hTb
  obtain ⟨cd, hcd⟩ : ∃ c, c = (rtR l x y).1 := ⟨_, rfl⟩
  obtain ⟨ct, hct⟩ : ∃ c, c = str (rtR l x y).2 := ⟨_, rfl⟩
  have HCD : Hid ((rtR l x y).1 = cd ∧ str (rtR l x y).2 = ct) := ⟨hcd.symm, hct.symm⟩
  clear hcd hct
  go_enter Tryd.func3, Tryd.ntmps3
  go_wp2_with (go_at_call 6; refine hsz.mono ?_; rintro e w1 ⟨r, rfl, hr, hb1⟩; have HB1 : Hid (RBx w w1 a n cap x y 24) := HB0.out.step hb1; obtain ⟨p0, p1, p2⟩ := cells3 HB1.out.box; clear hb1)
  · go_ret
    exact ⟨rfl, HB1.out.bel⟩
  have hr0 : 0 ≤ r := by assumption
  rcases hr with e | ⟨_, _, hn2⟩
  · omega
  have hn3 : n ≤ 1048576 := by omega
  clear hn2 hsz HB0
  refine (toRu_any a n cap l x y w1 hn3 (HB1.out.ints HI.out)).mono ?_
  rintro e w2 ⟨g0, k0, rfl, ho2, hb2⟩
  have HB2 : Hid (RBx w w2 a n cap x y 24) := HB1.out.step hb2
  have hsp := sRuleText_any n k0 _ l x y w2 hn3 (IAt.owned ho2 HN.out)
  rw [HCD.out.1, HCD.out.2] at hsp
  clear ho2 hb2 p0 p1 p2
  go_wp2_with (go_at_call 7; refine hsp.mono ?_; rintro e w3 ⟨rfl, hb3⟩; have hbx3 := below_box (w := w3) (.cells #[.int .i64 cd, .string ct] 27); have HB3 : Hid (RBx w (w3.alloc (.cells #[.int .i64 cd, .string ct] 27)) a n cap x y 24) := (HB2.out.step hb3).step hbx3; have HR3 := show Hid ((w3.alloc (.cells #[.int .i64 cd, .string ct] 27)).heap[w3.heap.size]? = some (.cells #[.int .i64 cd, .string ct] 27 (0, 0))) from heap_alloc_new _ _; obtain ⟨p0, p1, p2⟩ := cells3 HB3.out.box; clear hb3 hbx3)
  refine (toRu_any a n cap l x y (w3.alloc (.cells #[.int .i64 cd, .string ct] 27)) hn3 (HB3.out.ints HI.out)).mono ?_
  rintro e w4 ⟨g1, k1, rfl, ho4, hb4⟩
  have hbx4 : Below w4.heap.size w4 (w4.alloc (.cells #[.slice (some ⟨g1, 0, none⟩) n k1, .int .i64 x, .int .i64 y] 29)) := below_box _
  have HB4 : Hid (RBx w (w4.alloc (.cells #[.slice (some ⟨g1, 0, none⟩) n k1, .int .i64 x, .int .i64 y] 29)) a n cap x y 24) := (HB3.out.step hb4).step hbx4
  have HR4 := keepb (keepb HR3.out hb4).out hbx4
  have hx4 := heap_alloc_new w4 (.cells #[.slice (some ⟨g1, 0, none⟩) n k1, .int .i64 x, .int .i64 y] 29)
  have hI4 : IAt (w4.alloc (.cells #[.slice (some ⟨g1, 0, none⟩) n k1, .int .i64 x, .int .i64 y] 29)) (some ⟨g1, 0, none⟩) n l := (IAt.owned ho4 HN.out).below hbx4 (Nat.le_refl _)
  have him := iRuleText_any n k1 _ l x y _ hn3 hI4 (HTB.out.below HB4.out.bel (Nat.le_refl _))
  rw [HCD.out.1, HCD.out.2] at him
  have HX4 : Hid _ := hx4
  have HI4 := show Hid (IAt (w4.alloc (.cells #[.slice (some ⟨g1, 0, none⟩) n k1, .int .i64 x, .int .i64 y] 29)) (some ⟨g1, 0, none⟩) n l) from hI4
  clear ho4 hb4 hbx4 hx4 hI4 p0 p1 p2
  go_wp2_with (first
    | (go_at_call 9; refine him.mono ?_; clear him; rintro e w5 ⟨rfl, hb5⟩; have hbx5 := below_box (w := w5) (.cells #[.int .i64 cd, .string ct] 27); have HB5 : Hid (RBx w (w5.alloc (.cells #[.int .i64 cd, .string ct] 27)) a n cap x y 24) := (HB4.out.step hb5).step hbx5; have HR5 := keepb (keepb HR4.out hb5).out hbx5; have HX5 := keepb (keepb HX4.out hb5).out hbx5; have HI5 : Hid (IAt (w5.alloc (.cells #[.int .i64 cd, .string ct] 27)) (some ⟨g1, 0, none⟩) n l) := (HI4.out.below hb5 (Nat.le_refl _)).below hbx5 (Nat.le_refl _); obtain ⟨q0, q1⟩ := cells2 HR5.out; clear hb5 hbx5)
    | (go_at_call 10; refine (eqTextR_any _ _ _).mono ?_; rintro e w6 ⟨rfl, hb6⟩; have HB6 : Hid (RBx w w6 a n cap x y 24) := HB5.out.step hb6; have HX6 := keepb HX5.out hb6; have HI6 : Hid (IAt w6 (some ⟨g1, 0, none⟩) n l) := HI5.out.below hb6 (Nat.le_refl _); clear q0 q1; obtain ⟨p0, p1, p2⟩ := cells3 HB6.out.box; obtain ⟨x0, x1, x2⟩ := cells3 HX6.out; have hl4 := lt_of_block HX6.out; have hl0 := HB6.out.lt; clear hb6))
  have hto : Calls Tryd.prog 8 #[.agg #[.slice a n cap, .int .i64 x, .int .i64 y]] w6.drew fun e w' => ∃ g c, e = .returned (.agg #[.slice (some ⟨g, 0, none⟩) n c, .int .i64 x, .int .i64 y]) ∧ Hid (IAt w' (some ⟨g, 0, none⟩) n l) ∧ Below w6.heap.size w6 w' :=
    (toRu_any a n cap l x y _ hn3 ((HB6.out.ints HI.out).below (Below.refl _ _).drew (Nat.le_refl _))).mono fun e w' ⟨g, c, h1, h2, h3⟩ => ⟨g, c, h1, IAt.owned h2 HN.out, (Below.refl _ _).drew.trans h3⟩
  go_region_held3 (fun w' => w'.cell? ⟨w4.heap.size, 0, none⟩ = some (.slice (some ⟨g1, 0, none⟩) n k1) ∧ w'.cell? ⟨w4.heap.size, 1, none⟩ = some (.int .i64 x) ∧ w'.cell? ⟨w4.heap.size, 2, none⟩ = some (.int .i64 y) ∧ w'.cell? ⟨w.heap.size, 0, none⟩ = some (.slice a n cap) ∧ w'.cell? ⟨w.heap.size, 1, none⟩ = some (.int .i64 x) ∧ w'.cell? ⟨w.heap.size, 2, none⟩ = some (.int .i64 y)) (go_keep)
    (first
      | (go_at_call 8; refine hto.mono ?_; rintro e w7 ⟨g7, k7, rfl, HI7, hb7⟩; obtain ⟨z0, z1, z2⟩ := keep3T hl4 hb7 ⟨x0, x1, x2⟩; obtain ⟨z3, z4, z5⟩ := keep3T hl0 hb7 ⟨p0, p1, p2⟩)
      | (go_at_call 11; refine (eqRu_any _ _ n k1 k7 l x y _ hn3 (HI6.out.below hb7 (Nat.le_refl _)) HI7.out).mono ?_; rintro e w8 ⟨rfl, hb8⟩; have hs7 := hb7.size; obtain ⟨y0, y1, y2⟩ := keep3T (Nat.lt_of_lt_of_le hl4 hs7) hb8 ⟨z0, z1, z2⟩; obtain ⟨y3, y4, y5⟩ := keep3T (Nat.lt_of_lt_of_le hl0 hs7) hb8 ⟨z3, z4, z5⟩))
  go_wp2
  go_ret
  exact ⟨rfl, ((HB6.out.step hb7).step hb8).bel⟩

end Go.Proofs.YtpllpncplncaiaaDoor
