/- The law on TextOf answers true, whatever ledger and number come in, and writes nothing that was there. -/
import Derived.Test.YtdomekniepeohaaTextOf
namespace Go.Proofs.Ytdomekniepeohaa
open Go.RowKit Go.Maps Go.WideMaps

set_option maxHeartbeats 1000000 in
theorem lawTextOf (n m tc gc : Nat) (ta ga : Option Addr) (ss : List ByteArray) (gs : List (Int × Int)) (x : Int) (w : World) (_ : (Lit.int .i64 x).wf = true) (hn : n ≤ maxLen) (hm : m ≤ maxLen) (hf : Fine ss gs) (h : LedAt w ta n ga m ss gs) :
    Calls Try.prog 5 #[.agg #[.slice ta n tc, .slice ga m gc], .int .i64 x] w fun e w' => e = .returned (.bool true) ∧ Below w.heap.size w w' := by
  have B0 := Bx.start w ta n tc ga m gc
  have hsz := szL_any n m tc gc ta ga ss gs _ hn hm hf (B0.led h)
  have HN : Hid (ss.length = n) := h.s.1
  have HM : Hid (gs.length = m) := h.g.1
  go_enter Try.func5, Try.ntmps5
  go_wp2_with (first
    | (go_at_call 14; refine hsz.mono ?_; rintro e w1 ⟨r, rfl, hr, hb1⟩; have B1 := B0.step hb1; have b10 := B1.c0; have b11 := B1.c1))
  · go_ret
    exact ⟨rfl, B1.bel⟩
  · have hr0 : 0 ≤ r := by assumption
    obtain ⟨hn2, hm2⟩ := hr.le hr0
    have HF : Hid (Fine ss gs) := hf
    have HL : Hid (LedAt w ta n ga m ss gs) := h
    clear hf h hr hsz hb1 b10 b11 B0
    obtain ⟨⟨ra, rb⟩, hres⟩ : ∃ q, q = textR ss gs x := ⟨_, rfl⟩
    refine (toL_any ta ga n m tc gc ss gs w1 hn2 hm2 (B1.led HL.out)).mono ?_
    rintro e w2 ⟨g0, k0, g1, k1, rfl, ho2, hb2⟩
    have B2 := B1.step hb2
    have hcp := ho2.caps
    have hsp := sTextOf_any n m k0 k1 _ _ ss gs x w2 hcp.1 hcp.2.1 hcp.2.2.1 hcp.2.2.2 HF.out (ho2.led HN.out HM.out)
    rw [← hres] at hsp
    clear B1 hb2 ho2 hcp
    go_wp2_with (first
      | (go_at_call 15; refine hsp.mono ?_; rintro e w3 ⟨rfl, hb3⟩; have B3 := (B2.step hb3).step (below_box (.cells #[.int .i64 ra, .string rb] 45)); have b30 := B3.c0; have b31 := B3.c1; have HW0 : Hid ((w3.alloc (.cells #[.int .i64 ra, .string rb] 45)).heap[w3.heap.size]? = some (.cells #[.int .i64 ra, .string rb] 45 (0, 0))) := heap_alloc_new _ _; clear B2 hb3 hsp))
    refine (toL_any ta ga n m tc gc ss gs _ hn2 hm2 (B3.led HL.out)).mono ?_
    rintro e w4 ⟨g2, k2, g3, k3, rfl, ho4, hb4⟩
    have B4 := (B3.step hb4).step (below_box (.cells #[.slice (some ⟨g2, 0, none⟩) n k2, .slice (some ⟨g3, 0, none⟩) m k3] 49))
    have HW1 := keepb (keepb HW0.out hb4).out (below_box (.cells #[.slice (some ⟨g2, 0, none⟩) n k2, .slice (some ⟨g3, 0, none⟩) m k3] 49))
    have L4 := (ho4.led HN.out HM.out).below (below_box (.cells #[.slice (some ⟨g2, 0, none⟩) n k2, .slice (some ⟨g3, 0, none⟩) m k3] 49)) (Nat.le_refl _)
    have HX4 : Hid ((w4.alloc (.cells #[.slice (some ⟨g2, 0, none⟩) n k2, .slice (some ⟨g3, 0, none⟩) m k3] 49)).heap[w4.heap.size]? = some (.cells #[.slice (some ⟨g2, 0, none⟩) n k2, .slice (some ⟨g3, 0, none⟩) m k3] 49 (0, 0))) := heap_alloc_new _ _
    have him := iTextOf_any n m k2 k3 _ _ ss gs x _ HF.out L4
    rw [← hres] at him
    clear b30 b31 B3 hb4 ho4 HW0
    go_wp2_with (first
      | (go_at_call 17; refine him.mono ?_; rintro e w5 ⟨rfl, hb5⟩; have B5 := (B4.step hb5).step (below_box (.cells #[.int .i64 ra, .string rb] 45)); have HW2 := keepb (keepb HW1.out hb5).out (below_box (.cells #[.int .i64 ra, .string rb] 45)); have HX5 := keepb (keepb HX4.out hb5).out (below_box (.cells #[.int .i64 ra, .string rb] 45)); obtain ⟨z0, z1⟩ := cells2 HW2.out; have L5 := (L4.below hb5 (Nat.le_refl _)).below (below_box (.cells #[.int .i64 ra, .string rb] 45)) (Nat.le_refl _); clear B4 L4 HX4 hb5 HW1 him)
      | (go_at_call 18; refine (eqTextR_any _ _ _).mono ?_; rintro e w6 ⟨rfl, hb6⟩; have B6 := B5.step hb6; have HX6 := keepb HX5.out hb6; have L6 := L5.below hb6 (Nat.le_refl _); have b60 := B6.c0; have b61 := B6.c1; obtain ⟨x0, x1⟩ := cells2 HX6.out; clear B5 L5 HX5 hb6 HW2 z0 z1))
    have hto : ∀ j, Calls Try.prog 16 #[.agg #[.slice ta n tc, .slice ga m gc]] (w6.drewN j) fun e w' => ∃ g0 k0 g1 k1, e = .returned (.agg #[.slice (some ⟨g0, 0, none⟩) n k0, .slice (some ⟨g1, 0, none⟩) m k1]) ∧ OwnL w' w6.heap.size n m ss gs g0 k0 g1 k1 ∧ Below w6.heap.size w6 w' := fun j =>
      (toL_any ta ga n m tc gc ss gs _ hn2 hm2 ((B6.draws j).led HL.out)).mono fun e w' ⟨a, b, c, d, h1, h2, h3⟩ => ⟨a, b, c, d, h1, h2, (Joins.below_draws _ w6 j).trans h3⟩
    have hl1 : w4.heap.size < w6.heap.size := lt_of_block HX6.out
    have hl2 : w.heap.size < w6.heap.size := lt_of_block B6.box
    go_region_held3 (fun w' => w'.cell? ⟨w4.heap.size, 0, none⟩ = some (.slice (some ⟨g2, 0, none⟩) n k2) ∧ w'.cell? ⟨w4.heap.size, 1, none⟩ = some (.slice (some ⟨g3, 0, none⟩) m k3) ∧ w'.cell? ⟨w.heap.size, 0, none⟩ = some (.slice ta n tc) ∧ w'.cell? ⟨w.heap.size, 1, none⟩ = some (.slice ga m gc)) (go_keep)
      (first | (go_at_call 16; refine (hto 1).mono ?_; rintro e w7 ⟨g6, k6, g7, k7, rfl, ho7, hb7⟩; have z0 := (hb7.cell (p := ⟨w4.heap.size, 0, none⟩) hl1).trans x0; have z1 := (hb7.cell (p := ⟨w4.heap.size, 1, none⟩) hl1).trans x1; have z2 := (hb7.cell (p := ⟨w.heap.size, 0, none⟩) hl2).trans b60; have z3 := (hb7.cell (p := ⟨w.heap.size, 1, none⟩) hl2).trans b61) | (go_at_call 19; refine (eqL_any _ _ _ _ n m k2 k6 k3 k7 ss gs _ hn2 hm2 (L6.below hb7 (Nat.le_refl _)) (ho7.led HN.out HM.out)).mono ?_; rintro e w8 ⟨rfl, hb8⟩; have hs7 := hb7.size; have y0 := (hb8.cell (p := ⟨w4.heap.size, 0, none⟩) (Nat.lt_of_lt_of_le hl1 hs7)).trans z0; have y1 := (hb8.cell (p := ⟨w4.heap.size, 1, none⟩) (Nat.lt_of_lt_of_le hl1 hs7)).trans z1; have y2 := (hb8.cell (p := ⟨w.heap.size, 0, none⟩) (Nat.lt_of_lt_of_le hl2 hs7)).trans z2; have y3 := (hb8.cell (p := ⟨w.heap.size, 1, none⟩) (Nat.lt_of_lt_of_le hl2 hs7)).trans z3))
    go_wp2
    go_ret
    exact ⟨rfl, ((B6.step hb7).step hb8).bel⟩

end Go.Proofs.Ytdomekniepeohaa
