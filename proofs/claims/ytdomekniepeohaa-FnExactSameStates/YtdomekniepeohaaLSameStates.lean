/- The law on SameStates answers true, whatever two states come in, and writes nothing that was there. -/
import Derived.Test.YtdomekniepeohaaHc
import Derived.Test.YtdomekniepeohaaHd
namespace Go.Proofs.Ytdomekniepeohaa
open Go.RowKit Go.Maps Go.WideMaps

set_option maxRecDepth 20000 in
set_option maxHeartbeats 4000000 in
theorem lawSameStates (n c m d n' c' m' d' : Nat) (ia oa ib ob : Option Addr) (k f k' f' : Int) (cs cs' : List Co) (ms ms' : List Mb) (w : World) (hn : n ≤ maxLen) (hm : m ≤ maxLen) (h : StAt w ia n oa m cs ms)
    (hn' : n' ≤ maxLen) (hm' : m' ≤ maxLen) (h' : StAt w ib n' ob m' cs' ms') :
    Calls Try.prog 4 #[.agg #[.int .i64 k, .int .i64 f, .slice ia n c, .slice oa m d], .agg #[.int .i64 k', .int .i64 f', .slice ib n' c', .slice ob m' d']] w fun e w' => e = .returned (.bool true) ∧ Below w.heap.size w w' := by
  have B0 : S2 w ((w.alloc (.cells #[.int .i64 k, .int .i64 f, .slice ia n c, .slice oa m d] 30)).alloc (.cells #[.int .i64 k', .int .i64 f', .slice ib n' c', .slice ob m' d'] 30)) k f ia n c oa m d k' f' ib n' c' ob m' d' := S2.start
  have hsz := szSt_any k f ia oa n m c d cs 1048576 _ (by omega) (by omega) hn hm (h.c.below B0.bel (Nat.le_refl _))
  have HN : Hid (ms.length = m) := h.m.1
  have HN' : Hid (ms'.length = m') := h'.m.1
  have HA : Hid (StAt w ia n oa m cs ms) := h
  have HB : Hid (StAt w ib n' ob m' cs' ms') := h'
  have HX : Hid (n' ≤ maxLen ∧ m' ≤ maxLen) := ⟨hn', hm'⟩
  have HBS := show Hid (S2 w ((w.alloc (.cells #[.int .i64 k, .int .i64 f, .slice ia n c, .slice oa m d] 30)).alloc (.cells #[.int .i64 k', .int .i64 f', .slice ib n' c', .slice ob m' d'] 30)) k f ia n c oa m d k' f' ib n' c' ob m' d') from B0
  clear h h' hn' hm' B0
  go_enter Try.func4, Try.ntmps4
  go_wp2_with (go_at_call 9; refine hsz.mono ?_; clear hsz; rintro e w1 ⟨r, rfl, hr, hb1⟩; have HB1 : Hid (S2 w w1 k f ia n c oa m d k' f' ib n' c' ob m' d') := HBS.out.step hb1; obtain ⟨⟨p0, p1, p2, p3⟩, q0, q1, q2, q3⟩ := HB1.out.cells; clear hb1)
  · go_ret
    exact ⟨rfl, HB1.out.bel⟩
  have hr0 : 0 ≤ r := by assumption
  rcases hr with e | ⟨_, hrle, hn2, hm2, hk2⟩
  · omega
  have hn3 : n ≤ 1048576 := by omega
  have hm3 : m ≤ 1048576 := by omega
  have HK : Hid (∀ j, j < n → (cs.getD j C0).l.length ≤ 1048576) := fun j hj => by have := hk2 j hj; omega
  clear hn2 hm2 hk2
  go_wp2_with (go_at_call 9; refine (szSt_any k' f' ib ob n' m' c' d' cs' r w1 hr0 (by omega) HX.out.1 HX.out.2 (HB.out.c.below HB1.out.bel (Nat.le_refl _))).mono ?_; rintro e w2 ⟨r2, rfl, hr2, hb2⟩; have HB2 : Hid (S2 w w2 k f ia n c oa m d k' f' ib n' c' ob m' d') := HB1.out.step hb2; clear p0 p1 p2 p3 q0 q1 q2 q3; obtain ⟨⟨p0, p1, p2, p3⟩, q0, q1, q2, q3⟩ := HB2.out.cells; clear hb2)
  · go_ret
    exact ⟨rfl, HB2.out.bel⟩
  have hr20 : 0 ≤ r2 := by assumption
  rcases hr2 with e | ⟨_, _, hn2, hm2, hk2⟩
  · omega
  have hn4 : n' ≤ 1048576 := by omega
  have hm4 : m' ≤ 1048576 := by omega
  have HK' : Hid (∀ j, j < n' → (cs'.getD j C0).l.length ≤ 1048576) := fun j hj => by have := hk2 j hj; omega
  clear hn2 hm2 hk2 HB1
  have htoA : ∀ v, S2 w v k f ia n c oa m d k' f' ib n' c' ob m' d' → Calls Try.prog 11 #[.agg #[.int .i64 k, .int .i64 f, .slice ia n c, .slice oa m d]] v fun e w' => ∃ g0 c0 g1 c1, e = .returned (.agg #[.int .i64 k, .int .i64 f, .slice (some ⟨g0, 0, none⟩) n c0, .slice (some ⟨g1, 0, none⟩) m c1]) ∧ Hid (StAt w' (some ⟨g0, 0, none⟩) n (some ⟨g1, 0, none⟩) m cs ms) ∧ ((n : Nat) ≤ c0 ∧ c0 ≤ maxLen) ∧ Hid (S2 w w' k f ia n c oa m d k' f' ib n' c' ob m' d') ∧ Hid (Below v.heap.size v w') := fun v hv =>
    (toSt_any k f ia oa n m c d cs ms v hn3 hm3 HK.out (HA.out.below hv.bel (Nat.le_refl _))).mono fun e w' ⟨a0, a1, a2, a3, e1, e2, e3, e4⟩ => ⟨a0, a1, a2, a3, e1, OutSt.at e2.1 e3 HN.out, e2.2, hv.step e4, e4⟩
  have htoB : ∀ v, S2 w v k f ia n c oa m d k' f' ib n' c' ob m' d' → Calls Try.prog 11 #[.agg #[.int .i64 k', .int .i64 f', .slice ib n' c', .slice ob m' d']] v fun e w' => ∃ g0 c0 g1 c1, e = .returned (.agg #[.int .i64 k', .int .i64 f', .slice (some ⟨g0, 0, none⟩) n' c0, .slice (some ⟨g1, 0, none⟩) m' c1]) ∧ Hid (StAt w' (some ⟨g0, 0, none⟩) n' (some ⟨g1, 0, none⟩) m' cs' ms') ∧ ((n' : Nat) ≤ c0 ∧ c0 ≤ maxLen) ∧ Hid (S2 w w' k f ia n c oa m d k' f' ib n' c' ob m' d') ∧ Hid (Below v.heap.size v w') := fun v hv =>
    (toSt_any k' f' ib ob n' m' c' d' cs' ms' v hn4 hm4 HK'.out (HB.out.below hv.bel (Nat.le_refl _))).mono fun e w' ⟨a0, a1, a2, a3, e1, e2, e3, e4⟩ => ⟨a0, a1, a2, a3, e1, OutSt.at e2.1 e3 HN'.out, e2.2, hv.step e4, e4⟩
  have HTA : Hid (∀ v, S2 w v k f ia n c oa m d k' f' ib n' c' ob m' d' → Calls Try.prog 11 #[.agg #[.int .i64 k, .int .i64 f, .slice ia n c, .slice oa m d]] v fun e w' => ∃ g0 c0 g1 c1, e = .returned (.agg #[.int .i64 k, .int .i64 f, .slice (some ⟨g0, 0, none⟩) n c0, .slice (some ⟨g1, 0, none⟩) m c1]) ∧ Hid (StAt w' (some ⟨g0, 0, none⟩) n (some ⟨g1, 0, none⟩) m cs ms) ∧ ((n : Nat) ≤ c0 ∧ c0 ≤ maxLen) ∧ Hid (S2 w w' k f ia n c oa m d k' f' ib n' c' ob m' d') ∧ Hid (Below v.heap.size v w')) := htoA
  have HTB : Hid (∀ v, S2 w v k f ia n c oa m d k' f' ib n' c' ob m' d' → Calls Try.prog 11 #[.agg #[.int .i64 k', .int .i64 f', .slice ib n' c', .slice ob m' d']] v fun e w' => ∃ g0 c0 g1 c1, e = .returned (.agg #[.int .i64 k', .int .i64 f', .slice (some ⟨g0, 0, none⟩) n' c0, .slice (some ⟨g1, 0, none⟩) m' c1]) ∧ Hid (StAt w' (some ⟨g0, 0, none⟩) n' (some ⟨g1, 0, none⟩) m' cs' ms') ∧ ((n' : Nat) ≤ c0 ∧ c0 ≤ maxLen) ∧ Hid (S2 w w' k f ia n c oa m d k' f' ib n' c' ob m' d') ∧ Hid (Below v.heap.size v w')) := htoB
  clear htoA htoB
  have HR0 : Hid (S2 w w2.drew k f ia n c oa m d k' f' ib n' c' ob m' d') := HB2.out.step (Below.refl _ _).drew
  obtain ⟨sm, hsm⟩ : ∃ r, r = sameSt k f cs ms k' f' cs' ms' := ⟨_, rfl⟩
  have HSM : Hid (sameSt k f cs ms k' f' cs' ms' = sm) := hsm.symm
  clear hsm
  have hA0 := HTA.out _ HR0.out
  have hB0 := HTB.out _ HR0.out
  go_region_held3 (fun w' => (w'.cell? ⟨w.heap.size, 0, none⟩ = some (.int .i64 k) ∧ w'.cell? ⟨w.heap.size, 1, none⟩ = some (.int .i64 f) ∧ w'.cell? ⟨w.heap.size, 2, none⟩ = some (.slice ia n c) ∧ w'.cell? ⟨w.heap.size, 3, none⟩ = some (.slice oa m d)) ∧ (w'.cell? ⟨w.heap.size + 1, 0, none⟩ = some (.int .i64 k') ∧ w'.cell? ⟨w.heap.size + 1, 1, none⟩ = some (.int .i64 f') ∧ w'.cell? ⟨w.heap.size + 1, 2, none⟩ = some (.slice ib n' c') ∧ w'.cell? ⟨w.heap.size + 1, 3, none⟩ = some (.slice ob m' d'))) (go_keep)
    (first
      | (go_at_call 11; (first
          | ((with_reducible refine hA0.mono ?_); clear hA0; rintro e wA ⟨gA, kA, jA, lA, rfl, HIA, hcA, HRA, HBA⟩; obtain ⟨⟨r0, r1, r2, r3⟩, r4, r5, r6, r7⟩ := HRA.out.cells; (first | (have HIB2 : Hid (StAt wA (some ⟨gB, 0, none⟩) n' (some ⟨jB, 0, none⟩) m' cs' ms') := HIB.out.below HBA.out (Nat.le_refl _); have hsp := sSameSt_any n kA m lA n' kB m' lB _ _ _ _ k f k' f' cs cs' ms ms' wA hn3 hm3 HK.out HIA.out hn4 hm4 HK'.out HIB2.out; rw [HSM.out] at hsp; have HRL : Hid (S2 w wA k f ia n c oa m d k' f' ib n' c' ob m' d') := HRA) | (clear hB0; have hB0 := HTB.out _ HRA.out)))
          | ((with_reducible refine hB0.mono ?_); clear hB0; rintro e wB ⟨gB, kB, jB, lB, rfl, HIB, hcB, HRB, HBB⟩; obtain ⟨⟨t0, t1, t2, t3⟩, t4, t5, t6, t7⟩ := HRB.out.cells; (first | (have HIA2 : Hid (StAt wB (some ⟨gA, 0, none⟩) n (some ⟨jA, 0, none⟩) m cs ms) := HIA.out.below HBB.out (Nat.le_refl _); have hsp := sSameSt_any n kA m lA n' kB m' lB _ _ _ _ k f k' f' cs cs' ms ms' wB hn3 hm3 HK.out HIA2.out hn4 hm4 HK'.out HIB.out; rw [HSM.out] at hsp; have HRL : Hid (S2 w wB k f ia n c oa m d k' f' ib n' c' ob m' d') := HRB) | (clear hA0; have hA0 := HTA.out _ HRB.out)))))
      | (go_at_call 10; refine hsp.mono ?_; rintro e w3 ⟨rfl, hb3⟩; have HB3 : Hid (S2 w w3 k f ia n c oa m d k' f' ib n' c' ob m' d') := HRL.out.step hb3; obtain ⟨⟨u0, u1, u2, u3⟩, u4, u5, u6, u7⟩ := HB3.out.cells))
  all_goals
    clear hsp
    go_wp2_with fail
    refine (HTA.out _ HB3.out).mono ?_
    rintro e w4 ⟨g4, k4, j4, l4, rfl, HI4, hc4, HR4, HB4⟩
    have HX4 := show Hid ((w4.alloc (.cells #[.int .i64 k, .int .i64 f, .slice (some ⟨g4, 0, none⟩) n k4, .slice (some ⟨j4, 0, none⟩) m l4] 36)).heap[w4.heap.size]? = some (.cells #[.int .i64 k, .int .i64 f, .slice (some ⟨g4, 0, none⟩) n k4, .slice (some ⟨j4, 0, none⟩) m l4] 36 (0, 0))) from heap_alloc_new _ _
    have HR5 : Hid (S2 w (w4.alloc (.cells #[.int .i64 k, .int .i64 f, .slice (some ⟨g4, 0, none⟩) n k4, .slice (some ⟨j4, 0, none⟩) m l4] 36)) k f ia n c oa m d k' f' ib n' c' ob m' d') := HR4.out.step (below_box _)
    have HI5 : Hid (StAt (w4.alloc (.cells #[.int .i64 k, .int .i64 f, .slice (some ⟨g4, 0, none⟩) n k4, .slice (some ⟨j4, 0, none⟩) m l4] 36)) (some ⟨g4, 0, none⟩) n (some ⟨j4, 0, none⟩) m cs ms) := HI4.out.below (below_box _) (Nat.le_refl _)
    obtain ⟨⟨o0, o1, o2, o3⟩, o4, o5, o6, o7⟩ := HR5.out.cells
    go_wp2_with fail
    refine (HTB.out _ HR5.out).mono ?_
    rintro e w5 ⟨g5, k5, j5, l5, rfl, HJ5, hc5, HR6, HB5⟩
    have HX5 := show Hid ((w5.alloc (.cells #[.int .i64 k', .int .i64 f', .slice (some ⟨g5, 0, none⟩) n' k5, .slice (some ⟨j5, 0, none⟩) m' l5] 36)).heap[w5.heap.size]? = some (.cells #[.int .i64 k', .int .i64 f', .slice (some ⟨g5, 0, none⟩) n' k5, .slice (some ⟨j5, 0, none⟩) m' l5] 36 (0, 0))) from heap_alloc_new _ _
    have HY5 := show Hid ((w5.alloc (.cells #[.int .i64 k', .int .i64 f', .slice (some ⟨g5, 0, none⟩) n' k5, .slice (some ⟨j5, 0, none⟩) m' l5] 36)).heap[w4.heap.size]? = some (.cells #[.int .i64 k, .int .i64 f, .slice (some ⟨g4, 0, none⟩) n k4, .slice (some ⟨j4, 0, none⟩) m l4] 36 (0, 0))) from (keepb (keepb HX4.out HB5.out).out (below_box _)).out
    have HR7 : Hid (S2 w (w5.alloc (.cells #[.int .i64 k', .int .i64 f', .slice (some ⟨g5, 0, none⟩) n' k5, .slice (some ⟨j5, 0, none⟩) m' l5] 36)) k f ia n c oa m d k' f' ib n' c' ob m' d') := HR6.out.step (below_box _)
    have HI7 : Hid (StAt (w5.alloc (.cells #[.int .i64 k', .int .i64 f', .slice (some ⟨g5, 0, none⟩) n' k5, .slice (some ⟨j5, 0, none⟩) m' l5] 36)) (some ⟨g4, 0, none⟩) n (some ⟨j4, 0, none⟩) m cs ms) := (HI5.out.below HB5.out (Nat.le_refl _)).below (below_box _) (Nat.le_refl _)
    have HJ7 : Hid (StAt (w5.alloc (.cells #[.int .i64 k', .int .i64 f', .slice (some ⟨g5, 0, none⟩) n' k5, .slice (some ⟨j5, 0, none⟩) m' l5] 36)) (some ⟨g5, 0, none⟩) n' (some ⟨j5, 0, none⟩) m' cs' ms') := HJ5.out.below (below_box _) (Nat.le_refl _)
    have him := iSameSt_any n k4 m l4 n' k5 m' l5 _ _ _ _ k f k' f' cs cs' ms ms' _ hn3 hm3 HK.out HI7.out hn4 hm4 HK'.out HJ7.out
    rw [HSM.out] at him
    obtain ⟨i0, i1, i2, i3, _⟩ := cells4 HY5.out
    obtain ⟨j0, j1, j2, j3, _⟩ := cells4 HX5.out
    go_wp2_with (go_at_call 12; refine him.mono ?_; rintro e w6 ⟨rfl, hb6⟩; have HR8 : Hid (S2 w w6 k f ia n c oa m d k' f' ib n' c' ob m' d') := HR7.out.step hb6; have HX8 := keepb HX5.out hb6; have HY8 := keepb HY5.out hb6; have HI8 : Hid (StAt w6 (some ⟨g4, 0, none⟩) n (some ⟨j4, 0, none⟩) m cs ms) := HI7.out.below hb6 (Nat.le_refl _); have HJ8 : Hid (StAt w6 (some ⟨g5, 0, none⟩) n' (some ⟨j5, 0, none⟩) m' cs' ms') := HJ7.out.below hb6 (Nat.le_refl _); obtain ⟨⟨v0, v1, v2, v3⟩, v4, v5, v6, v7⟩ := HR8.out.cells; obtain ⟨f0, f1, f2, f3, _⟩ := cells4 HY8.out; obtain ⟨h0, h1, h2, h3, _⟩ := cells4 HX8.out; clear hb6)
    have hl4 := lt_of_block HY8.out
    have hto := HTA.out _ (HR8.out.step (Below.refl _ _).drew)
    go_region_held3 (fun w' => (w'.cell? ⟨w.heap.size, 0, none⟩ = some (.int .i64 k) ∧ w'.cell? ⟨w.heap.size, 1, none⟩ = some (.int .i64 f) ∧ w'.cell? ⟨w.heap.size, 2, none⟩ = some (.slice ia n c) ∧ w'.cell? ⟨w.heap.size, 3, none⟩ = some (.slice oa m d)) ∧ (w'.cell? ⟨w4.heap.size, 0, none⟩ = some (.int .i64 k) ∧ w'.cell? ⟨w4.heap.size, 1, none⟩ = some (.int .i64 f) ∧ w'.cell? ⟨w4.heap.size, 2, none⟩ = some (.slice (some ⟨g4, 0, none⟩) n k4) ∧ w'.cell? ⟨w4.heap.size, 3, none⟩ = some (.slice (some ⟨j4, 0, none⟩) m l4))) (go_keep)
      (first
        | (go_at_call 11; refine hto.mono ?_; clear hto; rintro e w7 ⟨g7, k7, j7, l7, rfl, HI9, _, HR9, HB9⟩; have hb7 : Below w6.heap.size w6 w7 := (Below.refl _ _).drew.trans HB9.out; obtain ⟨⟨z0, z1, z2, z3⟩, _⟩ := HR9.out.cells; obtain ⟨z4, z5, z6, z7⟩ := keepSt hl4 hb7 ⟨f0, f1, f2, f3⟩)
        | (go_at_call 13; refine (eqSt_any k f _ _ _ _ n m k4 k7 l4 l7 cs ms _ hn3 hm3 HK.out (HI8.out.below hb7 (Nat.le_refl _)) HI9.out).mono ?_; rintro e w8 ⟨rfl, hb8⟩; have HR10 : Hid (S2 w w8 k f ia n c oa m d k' f' ib n' c' ob m' d') := HR9.out.step hb8; obtain ⟨⟨y0, y1, y2, y3⟩, y4, y5, y6, y7⟩ := HR10.out.cells; obtain ⟨y8, y9, y10, y11⟩ := keepSt (Nat.lt_of_lt_of_le hl4 hb7.size) hb8 ⟨z4, z5, z6, z7⟩))
    have HX10 := keepb (keepb HX8.out hb7).out hb8
    obtain ⟨d0, d1, d2, d3, _⟩ := cells4 HX10.out
    have HJ10 : Hid (StAt w8 (some ⟨g5, 0, none⟩) n' (some ⟨j5, 0, none⟩) m' cs' ms') := (HJ8.out.below hb7 (Nat.le_refl _)).below hb8 (Nat.le_refl _)
    have hl5 := lt_of_block HX10.out
    have hto2 := HTB.out _ (HR10.out.step (Below.refl _ _).drew)
    go_wp2_with fail
    go_region_held3 (fun w' => (w'.cell? ⟨w.heap.size + 1, 0, none⟩ = some (.int .i64 k') ∧ w'.cell? ⟨w.heap.size + 1, 1, none⟩ = some (.int .i64 f') ∧ w'.cell? ⟨w.heap.size + 1, 2, none⟩ = some (.slice ib n' c') ∧ w'.cell? ⟨w.heap.size + 1, 3, none⟩ = some (.slice ob m' d')) ∧ (w'.cell? ⟨w5.heap.size, 0, none⟩ = some (.int .i64 k') ∧ w'.cell? ⟨w5.heap.size, 1, none⟩ = some (.int .i64 f') ∧ w'.cell? ⟨w5.heap.size, 2, none⟩ = some (.slice (some ⟨g5, 0, none⟩) n' k5) ∧ w'.cell? ⟨w5.heap.size, 3, none⟩ = some (.slice (some ⟨j5, 0, none⟩) m' l5))) (go_keep)
      (first
        | (go_at_call 11; refine hto2.mono ?_; clear hto2; rintro e w9 ⟨g9, k9, j9, l9, rfl, HI11, _, HR11, HB11⟩; have hb9 : Below w8.heap.size w8 w9 := (Below.refl _ _).drew.trans HB11.out; obtain ⟨_, a0, a1, a2, a3⟩ := HR11.out.cells; obtain ⟨a4, a5, a6, a7⟩ := keepSt hl5 hb9 ⟨d0, d1, d2, d3⟩)
        | (go_at_call 13; refine (eqSt_any k' f' _ _ _ _ n' m' k5 k9 l5 l9 cs' ms' _ hn4 hm4 HK'.out (HJ10.out.below hb9 (Nat.le_refl _)) HI11.out).mono ?_; rintro e w10 ⟨rfl, hb10⟩; have HR12 : Hid (S2 w w10 k f ia n c oa m d k' f' ib n' c' ob m' d') := HR11.out.step hb10; obtain ⟨_, b0, b1, b2, b3⟩ := HR12.out.cells; obtain ⟨b4, b5, b6, b7⟩ := keepSt (Nat.lt_of_lt_of_le hl5 hb9.size) hb10 ⟨a4, a5, a6, a7⟩))
    go_wp2
    go_ret
    exact ⟨rfl, HR12.out.bel⟩

end Go.Proofs.Ytdomekniepeohaa
