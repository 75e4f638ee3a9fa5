/- The law on VoterFault answers true, whatever voter comes in, and writes nothing that was there. -/
import Derived.Test.YtdnjckeajfbmfaaZd
import Derived.Test.YtdnjckeajfbmfaaZe
namespace Go.Proofs.Ytdnjckeajfbmfaa
open Go.RowKit Go.Maps Go.WideMaps

set_option maxRecDepth 20000 in
set_option maxHeartbeats 2000000 in
theorem lawVoterFault (n cap : Nat) (a : Option Addr) (ms : List Mb) (k l : Int) (w : World) (hn : n ≤ maxLen) (hI : MAt w a n ms) :
    Calls Try.prog 3 #[.agg #[.int .i64 k, .int .i64 l, .slice a n cap]] w fun e w' => e = .returned (.bool true) ∧ Below w.heap.size w w' := by
  have B0 : BxC w (w.alloc (.cells #[.int .i64 k, .int .i64 l, .slice a n cap] 24)) #[.int .i64 k, .int .i64 l, .slice a n cap] 24 := BxC.start
  have hsz := szVt_any k l a n cap 1048576 (w.alloc (.cells #[.int .i64 k, .int .i64 l, .slice a n cap] 24)) (by omega) (by omega) hn
  have HN : Hid (ms.length = n) := hI.1
  have HI : Hid (MAt w a n ms) := hI
  have HB0 : Hid (BxC w (w.alloc (.cells #[.int .i64 k, .int .i64 l, .slice a n cap] 24)) #[.int .i64 k, .int .i64 l, .slice a n cap] 24) := B0
  clear hI B0
  obtain ⟨cd, hcd⟩ : ∃ c, c = voterR k l ms := ⟨_, rfl⟩
  have HCD : Hid (voterR k l ms = cd) := hcd.symm
  clear hcd
  go_enter Try.func3, Try.ntmps3
  go_wp2_with (go_at_call 7; refine hsz.mono ?_; rintro e w1 ⟨r, rfl, hr, hb1⟩; have HB1 : Hid (BxC w w1 #[.int .i64 k, .int .i64 l, .slice a n cap] 24) := HB0.out.step hb1; obtain ⟨p0, p1, p2⟩ := cells3 HB1.out.box; clear hb1)
  · go_ret
    exact ⟨rfl, HB1.out.bel⟩
  have hr0 : 0 ≤ r := by assumption
  rcases hr with e | ⟨_, _, hn2⟩
  · omega
  have hn3 : n ≤ 1048576 := by omega
  clear hn2 hsz HB0
  refine (toVt_any k l a n cap ms w1 hn3 (HI.out.below HB1.out.bel (Nat.le_refl _))).mono ?_
  rintro e w2 ⟨g0, k0, rfl, ho2, hb2⟩
  have HCP0 : Hid (n ≤ k0 ∧ k0 ≤ maxLen) := row_capsV ho2
  have HB2 : Hid (BxC w w2 #[.int .i64 k, .int .i64 l, .slice a n cap] 24) := HB1.out.step hb2
  have hsp := sVoterFault_any n k0 _ ms k l w2 (Nat.le_trans HCP0.out.1 HCP0.out.2) (MAt.owned ho2 HN.out)
  rw [HCD.out] at hsp
  clear ho2 hb2 p0 p1 p2
  go_wp2_with (go_at_call 8; refine hsp.mono ?_; rintro e w3 ⟨rfl, hb3⟩; have HB3 : Hid (BxC w w3 #[.int .i64 k, .int .i64 l, .slice a n cap] 24) := HB2.out.step hb3; obtain ⟨p0, p1, p2⟩ := cells3 HB3.out.box; clear hb3)
  refine (toVt_any k l a n cap ms w3 hn3 (HI.out.below HB3.out.bel (Nat.le_refl _))).mono ?_
  rintro e w4 ⟨g1, k1, rfl, ho4, hb4⟩
  have HCP1 : Hid (n ≤ k1 ∧ k1 ≤ maxLen) := row_capsV ho4
  have hbx4 : Below w4.heap.size w4 (w4.alloc (.cells #[.int .i64 k, .int .i64 l, .slice (some ⟨g1, 0, none⟩) n k1] 29)) := below_box _
  have HB4 : Hid (BxC w (w4.alloc (.cells #[.int .i64 k, .int .i64 l, .slice (some ⟨g1, 0, none⟩) n k1] 29)) #[.int .i64 k, .int .i64 l, .slice a n cap] 24) := (HB3.out.step hb4).step hbx4
  have hx4 := heap_alloc_new w4 (.cells #[.int .i64 k, .int .i64 l, .slice (some ⟨g1, 0, none⟩) n k1] 29)
  have hI4 : MAt (w4.alloc (.cells #[.int .i64 k, .int .i64 l, .slice (some ⟨g1, 0, none⟩) n k1] 29)) (some ⟨g1, 0, none⟩) n ms := (MAt.owned ho4 HN.out).below hbx4 (Nat.le_refl _)
  have him := iVoterFault_any n k1 _ ms k l _ HCP1.out.1 (Nat.le_trans HCP1.out.1 HCP1.out.2) hI4
  rw [HCD.out] at him
  have HX4 : Hid _ := hx4
  have HI4 := show Hid (MAt (w4.alloc (.cells #[.int .i64 k, .int .i64 l, .slice (some ⟨g1, 0, none⟩) n k1] 29)) (some ⟨g1, 0, none⟩) n ms) from hI4
  clear ho4 hb4 hbx4 hx4 hI4 p0 p1 p2
  go_wp2_with (go_at_call 10; refine him.mono ?_; rintro e w5 ⟨rfl, hb5⟩; have HB5 : Hid (BxC w w5 #[.int .i64 k, .int .i64 l, .slice a n cap] 24) := HB4.out.step hb5; obtain ⟨p0, p1, p2⟩ := cells3 HB5.out.box; obtain ⟨x0, x1, x2⟩ := cells3 (keepb HX4.out hb5).out; have HI5 : Hid (MAt w5 (some ⟨g1, 0, none⟩) n ms) := HI4.out.below hb5 (Nat.le_refl _); have hl4 := lt_of_block (keepb HX4.out hb5).out; have hl0 := HB5.out.lt; clear hb5)
  have hto : ∀ j, Calls Try.prog 9 #[.agg #[.int .i64 k, .int .i64 l, .slice a n cap]] (w5.drewN j) fun e w' => ∃ g c, e = .returned (.agg #[.int .i64 k, .int .i64 l, .slice (some ⟨g, 0, none⟩) n c]) ∧ Hid (MAt w' (some ⟨g, 0, none⟩) n ms) ∧ Below w5.heap.size w5 w' := fun j =>
    (toVt_any k l a n cap ms _ hn3 ((HI.out.below HB5.out.bel (Nat.le_refl _)).below (Joins.below_draws _ w5 j) (Nat.le_refl _))).mono fun _ _ ⟨g, c, h1, h2, h3⟩ => ⟨g, c, h1, MAt.owned h2 HN.out, (Joins.below_draws _ w5 j).trans h3⟩
  go_region_held3 (fun w' => w'.cell? ⟨w4.heap.size, 0, none⟩ = some (.int .i64 k) ∧ w'.cell? ⟨w4.heap.size, 1, none⟩ = some (.int .i64 l) ∧ w'.cell? ⟨w4.heap.size, 2, none⟩ = some (.slice (some ⟨g1, 0, none⟩) n k1) ∧ w'.cell? ⟨w.heap.size, 0, none⟩ = some (.int .i64 k) ∧ w'.cell? ⟨w.heap.size, 1, none⟩ = some (.int .i64 l) ∧ w'.cell? ⟨w.heap.size, 2, none⟩ = some (.slice a n cap)) (go_keep)
    (first
      | (go_at_call 9; refine (hto 1).mono ?_; rintro e w6 ⟨g6, k6, rfl, HI6, hb6⟩; obtain ⟨z0, z1, z2⟩ := keep3V hl4 hb6 ⟨x0, x1, x2⟩; obtain ⟨z3, z4, z5⟩ := keep3V hl0 hb6 ⟨p0, p1, p2⟩)
      | (go_at_call 11; refine (eqVt_any k l _ _ n k1 k6 ms _ hn3 (HI5.out.below hb6 (Nat.le_refl _)) HI6.out).mono ?_; rintro e w7 ⟨rfl, hb7⟩; have hs6 := hb6.size; obtain ⟨y0, y1, y2⟩ := keep3V (Nat.lt_of_lt_of_le hl4 hs6) hb7 ⟨z0, z1, z2⟩; obtain ⟨y3, y4, y5⟩ := keep3V (Nat.lt_of_lt_of_le hl0 hs6) hb7 ⟨z3, z4, z5⟩))
  go_wp2
  go_ret
  exact ⟨rfl, ((HB5.out.step hb6).step hb7).bel⟩

end Go.Proofs.Ytdnjckeajfbmfaa
