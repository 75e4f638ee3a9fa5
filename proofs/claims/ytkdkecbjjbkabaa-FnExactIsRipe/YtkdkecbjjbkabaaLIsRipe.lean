/- The law's walk of IsRipe. -/
import Derived.Test.YtkdkecbjjbkabaaRi
namespace Go.Proofs.Ytkdkecbjjbkabaa
open Go.RowKit Go.Maps Go.WideMaps

structure CBx (w v : World) (a : Option Addr) (n cap : Nat) (p q v0 x y h : Int) (m : Bool) (t : TypeId) : Prop where
  box : v.heap[w.heap.size]? = some (.cells #[.int .i64 p, .int .i64 q, .int .i64 v0, .slice a n cap, .int .i64 x, .int .i64 y, .int .i64 h, .bool m] t (0, 0))
  bel : Below w.heap.size w v
theorem CBx.step {w v v' : World} {a : Option Addr} {n cap : Nat} {p q v0 x y h : Int} {m : Bool} {t : TypeId} (H : CBx w v a n cap p q v0 x y h m t) (hb : Below v.heap.size v v') : CBx w v' a n cap p q v0 x y h m t := ⟨(keepb H.box hb).out, H.bel.trans (hb.mono H.bel.size)⟩
theorem keep8 {v v' : World} {P : Nat} {c0 c1 c2 c3 c4 c5 c6 c7 : Value} (hl : P < v.heap.size) (hb : Below v.heap.size v v') (h : v.cell? ⟨P, 0, none⟩ = some c0 ∧ v.cell? ⟨P, 1, none⟩ = some c1 ∧ v.cell? ⟨P, 2, none⟩ = some c2 ∧ v.cell? ⟨P, 3, none⟩ = some c3 ∧ v.cell? ⟨P, 4, none⟩ = some c4 ∧ v.cell? ⟨P, 5, none⟩ = some c5 ∧ v.cell? ⟨P, 6, none⟩ = some c6 ∧ v.cell? ⟨P, 7, none⟩ = some c7) :
    v'.cell? ⟨P, 0, none⟩ = some c0 ∧ v'.cell? ⟨P, 1, none⟩ = some c1 ∧ v'.cell? ⟨P, 2, none⟩ = some c2 ∧ v'.cell? ⟨P, 3, none⟩ = some c3 ∧ v'.cell? ⟨P, 4, none⟩ = some c4 ∧ v'.cell? ⟨P, 5, none⟩ = some c5 ∧ v'.cell? ⟨P, 6, none⟩ = some c6 ∧ v'.cell? ⟨P, 7, none⟩ = some c7 := by
  have k : ∀ i, v'.cell? ⟨P, i, none⟩ = v.cell? ⟨P, i, none⟩ := fun i => hb.cell (p := ⟨P, i, none⟩) hl
  rw [k 0, k 1, k 2, k 3, k 4, k 5, k 6, k 7]
  exact h

set_option maxRecDepth 20000 in
set_option maxHeartbeats 4000000 in
theorem lawIsRipe (n cap : Nat) (a : Option Addr) (l : List Int) (p q v x y h : Int) (m : Bool) (t : Int) (w : World) (hn : n ≤ maxLen) (hI : IAt w a n l) :
    Calls Try.prog 3 #[.agg #[.int .i64 p, .int .i64 q, .int .i64 v, .slice a n cap, .int .i64 x, .int .i64 y, .int .i64 h, .bool m], .int .i64 t] w fun e w' => e = .returned (.bool true) ∧ Below w.heap.size w w' := by
  have B0 : CBx w (w.alloc (.cells #[.int .i64 p, .int .i64 q, .int .i64 v, .slice a n cap, .int .i64 x, .int .i64 y, .int .i64 h, .bool m] 30)) a n cap p q v x y h m 30 := ⟨heap_alloc_new _ _, below_box _⟩
  have hsz := szCoin_any p q v a n cap x y h m 1048576 (w.alloc (.cells #[.int .i64 p, .int .i64 q, .int .i64 v, .slice a n cap, .int .i64 x, .int .i64 y, .int .i64 h, .bool m] 30)) (by omega) (by omega) hn
  have HN : Hid (l.length = n) := hI.1
  have HI : Hid (IAt w a n l) := hI
  have HB0 : Hid (CBx w (w.alloc (.cells #[.int .i64 p, .int .i64 q, .int .i64 v, .slice a n cap, .int .i64 x, .int .i64 y, .int .i64 h, .bool m] 30)) a n cap p q v x y h m 30) := B0
  clear hI B0
  obtain ⟨cd, hcd⟩ : ∃ c, c = ripeB h m t := ⟨_, rfl⟩
  have HCD : Hid (ripeB h m t = cd) := hcd.symm
  clear hcd
  go_enter Try.func3, Try.ntmps3
  go_wp2_with (go_at_call 6; (with_reducible refine hsz.mono ?_); rintro e w1 ⟨r, rfl, hr, hb1⟩; have HB1 : Hid (CBx w w1 a n cap p q v x y h m 30) := HB0.out.step hb1; obtain ⟨⟨p0, p1, p2, p3, p4, p5, p6, p7⟩, _⟩ := cells8 HB1.out.box; clear hb1)
  · go_ret
    exact ⟨rfl, HB1.out.bel⟩
  have hr0 : 0 ≤ r := by assumption
  have hn3 : n ≤ 1048576 := by
    rcases hr with e | ⟨_, _, hn2⟩ <;> omega
  clear hr hsz HB0
  have hto1 := toCoin_any p q v a n cap l x y h m w1 hn3 (HI.out.below HB1.out.bel (Nat.le_refl _))
  refine hto1.mono ?_
  clear hto1
  rintro e w2 ⟨g0, k0, rfl, ho2, hb2⟩
  have HB2 : Hid (CBx w w2 a n cap p q v x y h m 30) := HB1.out.step hb2
  have hsp := sIsRipe_any p q v (some ⟨g0, 0, none⟩) n k0 x y h t m w2
  rw [HCD.out] at hsp
  clear ho2 hb2 p0 p1 p2 p3 p4 p5 p6 p7
  go_wp2_with (go_at_call 7; (with_reducible refine hsp.mono ?_); clear hsp; rintro e w3 ⟨rfl, hb3⟩; have HB3 : Hid (CBx w w3 a n cap p q v x y h m 30) := HB2.out.step hb3; obtain ⟨⟨p0, p1, p2, p3, p4, p5, p6, p7⟩, _⟩ := cells8 HB3.out.box; clear hb3)
  have hto2 := toCoin_any p q v a n cap l x y h m w3 hn3 (HI.out.below HB3.out.bel (Nat.le_refl _))
  refine hto2.mono ?_
  clear hto2
  rintro e w4 ⟨g1, k1, rfl, ho4, hb4⟩
  have hbx4 : Below w4.heap.size w4 (w4.alloc (.cells #[.int .i64 p, .int .i64 q, .int .i64 v, .slice (some ⟨g1, 0, none⟩) n k1, .int .i64 x, .int .i64 y, .int .i64 h, .bool m] 38)) := below_box _
  have HB4 : Hid (CBx w (w4.alloc (.cells #[.int .i64 p, .int .i64 q, .int .i64 v, .slice (some ⟨g1, 0, none⟩) n k1, .int .i64 x, .int .i64 y, .int .i64 h, .bool m] 38)) a n cap p q v x y h m 30) := (HB3.out.step hb4).step hbx4
  have hx4 := heap_alloc_new w4 (.cells #[.int .i64 p, .int .i64 q, .int .i64 v, .slice (some ⟨g1, 0, none⟩) n k1, .int .i64 x, .int .i64 y, .int .i64 h, .bool m] 38)
  have hI4 : IAt (w4.alloc (.cells #[.int .i64 p, .int .i64 q, .int .i64 v, .slice (some ⟨g1, 0, none⟩) n k1, .int .i64 x, .int .i64 y, .int .i64 h, .bool m] 38)) (some ⟨g1, 0, none⟩) n l := (IAt.owned ho4 HN.out).below hbx4 (Nat.le_refl _)
  have him := iIsRipe_any p q v (some ⟨g1, 0, none⟩) n k1 x y h t m (w4.alloc (.cells #[.int .i64 p, .int .i64 q, .int .i64 v, .slice (some ⟨g1, 0, none⟩) n k1, .int .i64 x, .int .i64 y, .int .i64 h, .bool m] 38))
  rw [HCD.out] at him
  have HX4 : Hid ((w4.alloc (.cells #[.int .i64 p, .int .i64 q, .int .i64 v, .slice (some ⟨g1, 0, none⟩) n k1, .int .i64 x, .int .i64 y, .int .i64 h, .bool m] 38)).heap[w4.heap.size]? = some (.cells #[.int .i64 p, .int .i64 q, .int .i64 v, .slice (some ⟨g1, 0, none⟩) n k1, .int .i64 x, .int .i64 y, .int .i64 h, .bool m] 38 (0, 0))) := hx4
  have HI4 : Hid (IAt (w4.alloc (.cells #[.int .i64 p, .int .i64 q, .int .i64 v, .slice (some ⟨g1, 0, none⟩) n k1, .int .i64 x, .int .i64 y, .int .i64 h, .bool m] 38)) (some ⟨g1, 0, none⟩) n l) := hI4
  clear ho4 hb4 hbx4 hx4 hI4 p0 p1 p2 p3 p4 p5 p6 p7
  go_wp2_with (go_at_call 9; (with_reducible refine him.mono ?_); clear him; rintro e w5 ⟨rfl, hb5⟩; have HB5 : Hid (CBx w w5 a n cap p q v x y h m 30) := HB4.out.step hb5; obtain ⟨P8, _⟩ := cells8 HB5.out.box; have HX5 := keepb HX4.out hb5; obtain ⟨X8, _⟩ := cells8 HX5.out; have HI5 : Hid (IAt w5 (some ⟨g1, 0, none⟩) n l) := HI4.out.below hb5 (Nat.le_refl _); have hl4 := lt_of_block HX5.out; have hl0 := lt_of_block HB5.out.box; have HP8 : Hid _ := P8; have HX8 : Hid _ := X8; obtain ⟨p0, p1, p2, p3, p4, p5, p6, p7⟩ := P8; obtain ⟨x0, x1, x2, x3, x4, x5, x6, x7⟩ := X8; clear hb5)
  have hto : ∀ j, Calls Try.prog 8 #[.agg #[.int .i64 p, .int .i64 q, .int .i64 v, .slice a n cap, .int .i64 x, .int .i64 y, .int .i64 h, .bool m]] (w5.drewN j) fun e w' => ∃ g c, e = .returned (.agg #[.int .i64 p, .int .i64 q, .int .i64 v, .slice (some ⟨g, 0, none⟩) n c, .int .i64 x, .int .i64 y, .int .i64 h, .bool m]) ∧ Hid (IAt w' (some ⟨g, 0, none⟩) n l) ∧ Below w5.heap.size w5 w' := fun j =>
    (toCoin_any p q v a n cap l x y h m _ hn3 ((HI.out.below HB5.out.bel (Nat.le_refl _)).below (Joins.below_draws _ w5 j) (Nat.le_refl _))).mono fun e w' ⟨g, c, h1, h2, h3⟩ => ⟨g, c, h1, IAt.owned h2 HN.out, (Joins.below_draws _ w5 j).trans h3⟩
  go_region_held3 (fun w' => w'.cell? ⟨w4.heap.size, 0, none⟩ = some (.int .i64 p) ∧ w'.cell? ⟨w4.heap.size, 1, none⟩ = some (.int .i64 q) ∧ w'.cell? ⟨w4.heap.size, 2, none⟩ = some (.int .i64 v) ∧ w'.cell? ⟨w4.heap.size, 3, none⟩ = some (.slice (some ⟨g1, 0, none⟩) n k1) ∧ w'.cell? ⟨w4.heap.size, 4, none⟩ = some (.int .i64 x) ∧ w'.cell? ⟨w4.heap.size, 5, none⟩ = some (.int .i64 y) ∧ w'.cell? ⟨w4.heap.size, 6, none⟩ = some (.int .i64 h) ∧ w'.cell? ⟨w4.heap.size, 7, none⟩ = some (.bool m) ∧ w'.cell? ⟨w.heap.size, 0, none⟩ = some (.int .i64 p) ∧ w'.cell? ⟨w.heap.size, 1, none⟩ = some (.int .i64 q) ∧ w'.cell? ⟨w.heap.size, 2, none⟩ = some (.int .i64 v) ∧ w'.cell? ⟨w.heap.size, 3, none⟩ = some (.slice a n cap) ∧ w'.cell? ⟨w.heap.size, 4, none⟩ = some (.int .i64 x) ∧ w'.cell? ⟨w.heap.size, 5, none⟩ = some (.int .i64 y) ∧ w'.cell? ⟨w.heap.size, 6, none⟩ = some (.int .i64 h) ∧ w'.cell? ⟨w.heap.size, 7, none⟩ = some (.bool m)) (go_keep)
    (first
      | (go_at_call 8; refine (hto 1).mono ?_; rintro e w6 ⟨g6, k6, rfl, HI6, hb6⟩; have Z := keep8 hl4 hb6 HX8.out; have HZ : Hid _ := Z; have Z' := keep8 hl0 hb6 HP8.out; have HZ' : Hid _ := Z'; obtain ⟨z0, z1, z2, z3, z4, z5, z6, z7⟩ := Z; obtain ⟨u0, u1, u2, u3, u4, u5, u6, u7⟩ := Z')
      | (go_at_call 10; (with_reducible refine (eqCoin_any p q v _ _ n k1 k6 l x y h m _ hn3 (HI5.out.below hb6 (Nat.le_refl _)) HI6.out).mono ?_); rintro e w7 ⟨rfl, hb7⟩; have hs6 := hb6.size; obtain ⟨y0, y1, y2, y3, y4, y5, y6, y7⟩ := keep8 (Nat.lt_of_lt_of_le hl4 hs6) hb7 HZ.out; obtain ⟨t0, t1, t2, t3, t4, t5, t6, t7⟩ := keep8 (Nat.lt_of_lt_of_le hl0 hs6) hb7 HZ'.out))
  go_wp2
  go_ret
  exact ⟨rfl, ((HB5.out.step hb6).step hb7).bel⟩

end Go.Proofs.Ytkdkecbjjbkabaa
