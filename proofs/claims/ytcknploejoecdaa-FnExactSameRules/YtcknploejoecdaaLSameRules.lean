/- The law on SameRules answers true, whatever two rules come in, and writes nothing that was there. -/
import Derived.Test.YtcknploejoecdaaSrC
import Derived.Test.YtcknploejoecdaaLRuleFault
namespace Go.Proofs.Ytcknploejoecdaa
open Go.RowKit Go.Maps Go.WideMaps

/-- Two rules that came in, boxed side by side. -/
structure R2 (w v : World) (a b : Option Addr) (n c1 : Nat) (x y : Int) (m c2 : Nat) (x' y' : Int) : Prop where
  p : v.heap[w.heap.size]? = some (.cells #[.slice a n c1, .int .i64 x, .int .i64 y] 67 (0, 0))
  q : v.heap[w.heap.size + 1]? = some (.cells #[.slice b m c2, .int .i64 x', .int .i64 y'] 67 (0, 0))
  bel : Below w.heap.size w v
section
variable {w v v' : World} {a b : Option Addr} {n c1 : Nat} {x y : Int} {m c2 : Nat} {x' y' : Int}
theorem R2.start : R2 w ((w.alloc (.cells #[.slice a n c1, .int .i64 x, .int .i64 y] 67)).alloc (.cells #[.slice b m c2, .int .i64 x', .int .i64 y'] 67)) a b n c1 x y m c2 x' y' := ⟨block_at2, heap_alloc_at _ _ _ (by simp), below_box2 _ _⟩
theorem R2.step (h : R2 w v a b n c1 x y m c2 x' y') (hb : Below v.heap.size v v') : R2 w v' a b n c1 x y m c2 x' y' := ⟨(keepb h.p hb).out, (keepb h.q hb).out, h.bel.trans (hb.mono h.bel.size)⟩
theorem R2.cells (h : R2 w v a b n c1 x y m c2 x' y') : (v.cell? ⟨w.heap.size, 0, none⟩ = some (.slice a n c1) ∧ v.cell? ⟨w.heap.size, 1, none⟩ = some (.int .i64 x) ∧ v.cell? ⟨w.heap.size, 2, none⟩ = some (.int .i64 y)) ∧
    (v.cell? ⟨w.heap.size + 1, 0, none⟩ = some (.slice b m c2) ∧ v.cell? ⟨w.heap.size + 1, 1, none⟩ = some (.int .i64 x') ∧ v.cell? ⟨w.heap.size + 1, 2, none⟩ = some (.int .i64 y')) := ⟨cells3 h.p, cells3 h.q⟩
end

/-- A rule's copy whose keys lie in new memory is a rule that can be read. -/
theorem OutRu.ints {w v : World} {g n c : Nat} {l : List Int} (h : v.ownsRow w.heap.size 2 1 (.slice (some ⟨g, 0, none⟩) n c) n (ints l)) (hn : l.length = n) : IAt v (some ⟨g, 0, none⟩) n l := IAt.owned h hn

set_option maxRecDepth 20000 in
set_option maxHeartbeats 2000000 in
theorem lawSameRules (n m c1 c2 : Nat) (a b : Option Addr) (l l' : List Int) (x y x' y' : Int) (w : World) (hn : n ≤ maxLen) (hm : m ≤ maxLen) (ha : IAt w a n l) (hb : IAt w b m l') :
    Calls Try.prog 14 #[.agg #[.slice a n c1, .int .i64 x, .int .i64 y], .agg #[.slice b m c2, .int .i64 x', .int .i64 y']] w fun e w' => e = .returned (.bool true) ∧ Below w.heap.size w w' := by
  have B0 : R2 w ((w.alloc (.cells #[.slice a n c1, .int .i64 x, .int .i64 y] 67)).alloc (.cells #[.slice b m c2, .int .i64 x', .int .i64 y'] 67)) a b n c1 x y m c2 x' y' := R2.start
  have hsz := szRu_any a n c1 x y 1048576 ((w.alloc (.cells #[.slice a n c1, .int .i64 x, .int .i64 y] 67)).alloc (.cells #[.slice b m c2, .int .i64 x', .int .i64 y'] 67)) (by omega) (by omega) hn
  have HN : Hid (l.length = n) := ha.1
  have HM : Hid (l'.length = m) := hb.1
  have HA : Hid (IAt w a n l) := ha
  have HB : Hid (IAt w b m l') := hb
  have HBS : Hid (R2 w ((w.alloc (.cells #[.slice a n c1, .int .i64 x, .int .i64 y] 67)).alloc (.cells #[.slice b m c2, .int .i64 x', .int .i64 y'] 67)) a b n c1 x y m c2 x' y') := B0
  have HMX : Hid (m ≤ maxLen) := hm
  clear ha hb B0 hm
  go_enter Try.func14, Try.ntmps14
  go_wp2_with (go_at_call 45; refine hsz.mono ?_; clear hsz; rintro e w1 ⟨r, rfl, hr, hb1⟩; have HB1 : Hid (R2 w w1 a b n c1 x y m c2 x' y') := HBS.out.step hb1; obtain ⟨⟨p0, p1, p2⟩, q0, q1, q2⟩ := HB1.out.cells; clear hb1)
  · go_ret
    exact ⟨rfl, HB1.out.bel⟩
  have hr0 : 0 ≤ r := by assumption
  rcases hr with e | ⟨_, hrle, hn2⟩
  · omega
  have hn3 : n ≤ 1048576 := by omega
  clear hn2
  go_wp2_with (go_at_call 45; refine (szRu_any b m c2 x' y' r w1 hr0 (by omega) HMX.out).mono ?_; rintro e w2 ⟨r2, rfl, hr2, hb2⟩; have HB2 : Hid (R2 w w2 a b n c1 x y m c2 x' y') := HB1.out.step hb2; clear p0 p1 p2 q0 q1 q2; obtain ⟨⟨p0, p1, p2⟩, q0, q1, q2⟩ := HB2.out.cells; clear hb2)
  · go_ret
    exact ⟨rfl, HB2.out.bel⟩
  have hr20 : 0 ≤ r2 := by assumption
  rcases hr2 with e | ⟨_, _, hm2⟩
  · omega
  have hm3 : m ≤ 1048576 := by omega
  clear hm2 HB1
  have htoA : ∀ v, R2 w v a b n c1 x y m c2 x' y' → Calls Try.prog 47 #[.agg #[.slice a n c1, .int .i64 x, .int .i64 y]] v fun e w' => ∃ g c, e = .returned (.agg #[.slice (some ⟨g, 0, none⟩) n c, .int .i64 x, .int .i64 y]) ∧ Hid (IAt w' (some ⟨g, 0, none⟩) n l) ∧ Hid (R2 w w' a b n c1 x y m c2 x' y') ∧ Hid (Below v.heap.size v w') := fun v hv =>
    (toRu_any a n c1 l x y v hn3 (HA.out.below hv.bel (Nat.le_refl _))).mono fun e w' ⟨g, c, h1, h2, h3⟩ => ⟨g, c, h1, IAt.owned h2 HN.out, hv.step h3, h3⟩
  have htoB : ∀ v, R2 w v a b n c1 x y m c2 x' y' → Calls Try.prog 47 #[.agg #[.slice b m c2, .int .i64 x', .int .i64 y']] v fun e w' => ∃ g c, e = .returned (.agg #[.slice (some ⟨g, 0, none⟩) m c, .int .i64 x', .int .i64 y']) ∧ Hid (IAt w' (some ⟨g, 0, none⟩) m l') ∧ Hid (R2 w w' a b n c1 x y m c2 x' y') ∧ Hid (Below v.heap.size v w') := fun v hv =>
    (toRu_any b m c2 l' x' y' v hm3 (HB.out.below hv.bel (Nat.le_refl _))).mono fun e w' ⟨g, c, h1, h2, h3⟩ => ⟨g, c, h1, IAt.owned h2 HM.out, hv.step h3, h3⟩
  have HTA : Hid (∀ v, R2 w v a b n c1 x y m c2 x' y' → Calls Try.prog 47 #[.agg #[.slice a n c1, .int .i64 x, .int .i64 y]] v fun e w' => ∃ g c, e = .returned (.agg #[.slice (some ⟨g, 0, none⟩) n c, .int .i64 x, .int .i64 y]) ∧ Hid (IAt w' (some ⟨g, 0, none⟩) n l) ∧ Hid (R2 w w' a b n c1 x y m c2 x' y') ∧ Hid (Below v.heap.size v w')) := htoA
  have HTB : Hid (∀ v, R2 w v a b n c1 x y m c2 x' y' → Calls Try.prog 47 #[.agg #[.slice b m c2, .int .i64 x', .int .i64 y']] v fun e w' => ∃ g c, e = .returned (.agg #[.slice (some ⟨g, 0, none⟩) m c, .int .i64 x', .int .i64 y']) ∧ Hid (IAt w' (some ⟨g, 0, none⟩) m l') ∧ Hid (R2 w w' a b n c1 x y m c2 x' y') ∧ Hid (Below v.heap.size v w')) := htoB
  clear htoA htoB
  have HR0 : Hid (R2 w w2.drew a b n c1 x y m c2 x' y') := HB2.out.step (Below.refl _ _).drew
  obtain ⟨sm, hsm⟩ : ∃ r, r = sameR l l' x x' y y' := ⟨_, rfl⟩
  have HSM : Hid (sameR l l' x x' y y' = sm) := hsm.symm
  clear hsm
  have hA0 := HTA.out _ HR0.out
  have hB0 := HTB.out _ HR0.out
  go_region_held3 (fun w' => w'.cell? ⟨w.heap.size, 0, none⟩ = some (.slice a n c1) ∧ w'.cell? ⟨w.heap.size, 1, none⟩ = some (.int .i64 x) ∧ w'.cell? ⟨w.heap.size, 2, none⟩ = some (.int .i64 y) ∧ w'.cell? ⟨w.heap.size + 1, 0, none⟩ = some (.slice b m c2) ∧ w'.cell? ⟨w.heap.size + 1, 1, none⟩ = some (.int .i64 x') ∧ w'.cell? ⟨w.heap.size + 1, 2, none⟩ = some (.int .i64 y')) (go_keep)
    (first
      | (go_at_call 47; (first
          | ((with_reducible refine hA0.mono ?_); clear hA0; rintro e wA ⟨gA, kA, rfl, HIA, HRA, HBA⟩; obtain ⟨⟨r0, r1, r2⟩, r3, r4, r5⟩ := HRA.out.cells; (first | (have HIB2 : Hid (IAt wA (some ⟨gB, 0, none⟩) m l') := HIB.out.below HBA.out (Nat.le_refl _); have hsp := sSameRules_any _ _ n m kA kB l l' x x' y y' wA hn3 hm3 HIA.out HIB2.out; rw [HSM.out] at hsp; have HRL : Hid (R2 w wA a b n c1 x y m c2 x' y') := HRA) | (clear hB0; have hB0 := HTB.out _ HRA.out)))
          | ((with_reducible refine hB0.mono ?_); clear hB0; rintro e wB ⟨gB, kB, rfl, HIB, HRB, HBB⟩; obtain ⟨⟨t0, t1, t2⟩, t3, t4, t5⟩ := HRB.out.cells; (first | (have HIA2 : Hid (IAt wB (some ⟨gA, 0, none⟩) n l) := HIA.out.below HBB.out (Nat.le_refl _); have hsp := sSameRules_any _ _ n m kA kB l l' x x' y y' wB hn3 hm3 HIA2.out HIB.out; rw [HSM.out] at hsp; have HRL : Hid (R2 w wB a b n c1 x y m c2 x' y') := HRB) | (clear hA0; have hA0 := HTA.out _ HRB.out)))))
      | (go_at_call 52; refine hsp.mono ?_; rintro e w3 ⟨rfl, hb3⟩; have HB3 : Hid (R2 w w3 a b n c1 x y m c2 x' y') := HRL.out.step hb3; obtain ⟨⟨u0, u1, u2⟩, u3, u4, u5⟩ := HB3.out.cells))
  all_goals
    clear hsp
    go_wp2_with fail
    refine (HTA.out _ HB3.out).mono ?_
    rintro e w4 ⟨g4, k4, rfl, HI4, HR4, HB4⟩
    have HX4 : Hid ((w4.alloc (.cells #[.slice (some ⟨g4, 0, none⟩) n k4, .int .i64 x, .int .i64 y] 70)).heap[w4.heap.size]? = some (.cells #[.slice (some ⟨g4, 0, none⟩) n k4, .int .i64 x, .int .i64 y] 70 (0, 0))) := heap_alloc_new _ _
    have HR5 : Hid (R2 w (w4.alloc (.cells #[.slice (some ⟨g4, 0, none⟩) n k4, .int .i64 x, .int .i64 y] 70)) a b n c1 x y m c2 x' y') := HR4.out.step (below_box _)
    have HI5 : Hid (IAt (w4.alloc (.cells #[.slice (some ⟨g4, 0, none⟩) n k4, .int .i64 x, .int .i64 y] 70)) (some ⟨g4, 0, none⟩) n l) := HI4.out.below (below_box _) (Nat.le_refl _)
    obtain ⟨⟨o0, o1, o2⟩, o3, o4, o5⟩ := HR5.out.cells
    go_wp2_with fail
    refine (HTB.out _ HR5.out).mono ?_
    rintro e w5 ⟨g5, k5, rfl, HJ5, HR6, HB5⟩
    have HX5 : Hid ((w5.alloc (.cells #[.slice (some ⟨g5, 0, none⟩) m k5, .int .i64 x', .int .i64 y'] 70)).heap[w5.heap.size]? = some (.cells #[.slice (some ⟨g5, 0, none⟩) m k5, .int .i64 x', .int .i64 y'] 70 (0, 0))) := heap_alloc_new _ _
    have HY5 : Hid ((w5.alloc (.cells #[.slice (some ⟨g5, 0, none⟩) m k5, .int .i64 x', .int .i64 y'] 70)).heap[w4.heap.size]? = some (.cells #[.slice (some ⟨g4, 0, none⟩) n k4, .int .i64 x, .int .i64 y] 70 (0, 0))) := (keepb (keepb HX4.out HB5.out).out (below_box _)).out
    have HR7 : Hid (R2 w (w5.alloc (.cells #[.slice (some ⟨g5, 0, none⟩) m k5, .int .i64 x', .int .i64 y'] 70)) a b n c1 x y m c2 x' y') := HR6.out.step (below_box _)
    have HI7 : Hid (IAt (w5.alloc (.cells #[.slice (some ⟨g5, 0, none⟩) m k5, .int .i64 x', .int .i64 y'] 70)) (some ⟨g4, 0, none⟩) n l) := (HI5.out.below HB5.out (Nat.le_refl _)).below (below_box _) (Nat.le_refl _)
    have HJ7 : Hid (IAt (w5.alloc (.cells #[.slice (some ⟨g5, 0, none⟩) m k5, .int .i64 x', .int .i64 y'] 70)) (some ⟨g5, 0, none⟩) m l') := HJ5.out.below (below_box _) (Nat.le_refl _)
    have him := iSameRules_any _ _ n m k4 k5 l l' x x' y y' _ hn3 hm3 HI7.out HJ7.out
    rw [HSM.out] at him
    obtain ⟨i0, i1, i2⟩ := cells3 HY5.out
    obtain ⟨j0, j1, j2⟩ := cells3 HX5.out
    go_wp2_with (go_at_call 53; refine him.mono ?_; rintro e w6 ⟨rfl, hb6⟩; have HR8 : Hid (R2 w w6 a b n c1 x y m c2 x' y') := HR7.out.step hb6; have HX8 := keepb HX5.out hb6; have HY8 := keepb HY5.out hb6; have HI8 : Hid (IAt w6 (some ⟨g4, 0, none⟩) n l) := HI7.out.below hb6 (Nat.le_refl _); have HJ8 : Hid (IAt w6 (some ⟨g5, 0, none⟩) m l') := HJ7.out.below hb6 (Nat.le_refl _); obtain ⟨⟨v0, v1, v2⟩, v3, v4, v5⟩ := HR8.out.cells; obtain ⟨f0, f1, f2⟩ := cells3 HY8.out; obtain ⟨h0, h1, h2⟩ := cells3 HX8.out; clear hb6)
    have hl4 := lt_of_block HY8.out
    have hl5 := lt_of_block HX8.out
    have hl0 := lt_of_block HR8.out.p
    have hl1 := lt_of_block HR8.out.q
    have hto := HTA.out _ (HR8.out.step (Below.refl _ _).drew)
    go_region_held3 (fun w' => (w'.cell? ⟨w.heap.size, 0, none⟩ = some (.slice a n c1) ∧ w'.cell? ⟨w.heap.size, 1, none⟩ = some (.int .i64 x) ∧ w'.cell? ⟨w.heap.size, 2, none⟩ = some (.int .i64 y)) ∧ w'.cell? ⟨w4.heap.size, 0, none⟩ = some (.slice (some ⟨g4, 0, none⟩) n k4) ∧ w'.cell? ⟨w4.heap.size, 1, none⟩ = some (.int .i64 x) ∧ w'.cell? ⟨w4.heap.size, 2, none⟩ = some (.int .i64 y)) (go_keep)
      (first
        | (go_at_call 47; refine hto.mono ?_; clear hto; rintro e w7 ⟨g7, k7, rfl, HI9, HR9, HB9⟩; have hb7 : Below w6.heap.size w6 w7 := (Below.refl _ _).drew.trans HB9.out; obtain ⟨⟨z0, z1, z2⟩, _⟩ := HR9.out.cells; obtain ⟨z3, z4, z5⟩ := keep3 hl4 hb7 ⟨f0, f1, f2⟩)
        | (go_at_call 49; refine (eqRu_any _ _ n k4 k7 l x y _ hn3 (HI8.out.below hb7 (Nat.le_refl _)) HI9.out).mono ?_; rintro e w8 ⟨rfl, hb8⟩; have HR10 : Hid (R2 w w8 a b n c1 x y m c2 x' y') := HR9.out.step hb8; obtain ⟨⟨y0, y1, y2⟩, y3, y4, y5⟩ := HR10.out.cells; obtain ⟨y6, y7, y8⟩ := keep3 (Nat.lt_of_lt_of_le hl4 hb7.size) hb8 ⟨z3, z4, z5⟩))
    have HX10 := keepb (keepb HX8.out hb7).out hb8
    obtain ⟨d0, d1, d2⟩ := cells3 HX10.out
    have HJ10 : Hid (IAt w8 (some ⟨g5, 0, none⟩) m l') := (HJ8.out.below hb7 (Nat.le_refl _)).below hb8 (Nat.le_refl _)
    have hl5' := lt_of_block HX10.out
    have hto2 := HTB.out _ (HR10.out.step (Below.refl _ _).drew)
    go_wp2_with fail
    go_region_held3 (fun w' => (w'.cell? ⟨w.heap.size + 1, 0, none⟩ = some (.slice b m c2) ∧ w'.cell? ⟨w.heap.size + 1, 1, none⟩ = some (.int .i64 x') ∧ w'.cell? ⟨w.heap.size + 1, 2, none⟩ = some (.int .i64 y')) ∧ w'.cell? ⟨w5.heap.size, 0, none⟩ = some (.slice (some ⟨g5, 0, none⟩) m k5) ∧ w'.cell? ⟨w5.heap.size, 1, none⟩ = some (.int .i64 x') ∧ w'.cell? ⟨w5.heap.size, 2, none⟩ = some (.int .i64 y')) (go_keep)
      (first
        | (go_at_call 47; refine hto2.mono ?_; clear hto2; rintro e w9 ⟨g9, k9, rfl, HI11, HR11, HB11⟩; have hb9 : Below w8.heap.size w8 w9 := (Below.refl _ _).drew.trans HB11.out; obtain ⟨_, z6, z7, z8⟩ := HR11.out.cells; obtain ⟨z9, z10, z11⟩ := keep3 hl5' hb9 ⟨d0, d1, d2⟩)
        | (go_at_call 49; refine (eqRu_any _ _ m k5 k9 l' x' y' _ hm3 (HJ10.out.below hb9 (Nat.le_refl _)) HI11.out).mono ?_; rintro e w10 ⟨rfl, hb10⟩; have HR12 : Hid (R2 w w10 a b n c1 x y m c2 x' y') := HR11.out.step hb10; obtain ⟨_, y9, y10, y11⟩ := HR12.out.cells; obtain ⟨y12, y13, y14⟩ := keep3 (Nat.lt_of_lt_of_le hl5' hb9.size) hb10 ⟨z9, z10, z11⟩))
    go_wp2
    go_ret
    exact ⟨rfl, HR12.out.bel⟩

end Go.Proofs.Ytcknploejoecdaa
