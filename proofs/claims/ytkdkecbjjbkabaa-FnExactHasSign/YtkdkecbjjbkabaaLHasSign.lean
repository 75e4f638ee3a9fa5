/- The law on HasSign answers true, whatever ledger, key and number come in, and writes nothing that was there. -/
import Derived.Test.YtkdkecbjjbkabaaHasSign
namespace Go.Proofs.Ytkdkecbjjbkabaa
open Go.RowKit Go.Maps Go.WideMaps

set_option maxHeartbeats 1000000 in
theorem lawHasSign (n m tc gc : Nat) (ta ga : Option Addr) (ss : List ByteArray) (gs : List (Int × Int)) (a b : Int) (w : World) (ha : (Lit.int .i64 a).wf = true) (hb : (Lit.int .i64 b).wf = true) (hn : n ≤ maxLen) (hm : m ≤ maxLen) (hf : Fine ss gs) (h : LedAt w ta n ga m ss gs) :
    Calls Try.prog 4 #[.agg #[.slice ta n tc, .slice ga m gc], .int .i64 a, .int .i64 b] w fun e w' => e = .returned (.bool true) ∧ Below w.heap.size w w' := by
  have B0 := Bx.start w ta n tc ga m gc
  have hsz := szL_any n m tc gc ta ga ss gs _ hn hm hf (B0.led h)
  have HN : Hid (ss.length = n) := h.s.1
  have HM : Hid (gs.length = m) := h.g.1
  have HA : Hid ((Lit.int .i64 a).wf = true ∧ (Lit.int .i64 b).wf = true) := ⟨ha, hb⟩
  obtain ⟨rr, hres⟩ : ∃ q, q = hasR ss gs a b := ⟨_, rfl⟩
  have HRES : Hid (rr = hasR ss gs a b) := hres
  clear ha hb hres
  go_enter Try.func4, Try.ntmps4
  go_wp2_with (first
    | (go_at_call 11; refine hsz.mono ?_; rintro e w1 ⟨r, rfl, hr, hb1⟩; have B1 := B0.step hb1; have b10 := B1.c0; have b11 := B1.c1))
  · go_ret
    exact ⟨rfl, B1.bel⟩
  · have hr0 : 0 ≤ r := by assumption
    obtain ⟨hn2, hm2⟩ := hr.le hr0
    have HF : Hid (Fine ss gs) := hf
    have HL : Hid (LedAt w ta n ga m ss gs) := h
    clear hf h hr hsz hb1 b10 b11 B0
    refine (toL_any ta ga n m tc gc ss gs w1 hn2 hm2 (B1.led HL.out)).mono ?_
    rintro e w2 ⟨g0, k0, g1, k1, rfl, ho2, hb2⟩
    have B2 := B1.step hb2
    have hcp := ho2.caps
    go_wp2_with (first
      | (go_at_call 12; have hsp := sHasSign_any n m k0 k1 _ _ ss gs a b _ hcp.1 hcp.2.1 hcp.2.2.1 hcp.2.2.2 HF.out (ho2.led HN.out HM.out); rw [← HRES.out] at hsp; refine hsp.mono ?_; clear hsp; rintro e w3 ⟨rfl, hb3⟩; have B3 := B2.step hb3; have b30 := B3.c0; have b31 := B3.c1; clear B2 B1 hb2 hb3 ho2 hcp))
    refine (toL_any ta ga n m tc gc ss gs w3 hn2 hm2 (B3.led HL.out)).mono ?_
    rintro e w4 ⟨g2, k2, g3, k3, rfl, ho4, hb4⟩
    have B4 := (B3.step hb4).step (below_box (.cells #[.slice (some ⟨g2, 0, none⟩) n k2, .slice (some ⟨g3, 0, none⟩) m k3] 50))
    have L4 := (ho4.led HN.out HM.out).below (below_box (.cells #[.slice (some ⟨g2, 0, none⟩) n k2, .slice (some ⟨g3, 0, none⟩) m k3] 50)) (Nat.le_refl _)
    have hx4 : (w4.alloc (.cells #[.slice (some ⟨g2, 0, none⟩) n k2, .slice (some ⟨g3, 0, none⟩) m k3] 50)).heap[w4.heap.size]? = some (.cells #[.slice (some ⟨g2, 0, none⟩) n k2, .slice (some ⟨g3, 0, none⟩) m k3] 50 (0, 0)) := heap_alloc_new _ _
    have hx4l : w4.heap.size < (w4.alloc (.cells #[.slice (some ⟨g2, 0, none⟩) n k2, .slice (some ⟨g3, 0, none⟩) m k3] 50)).heap.size := by simp
    clear b30 b31 B3 hb4 ho4
    go_wp2_with (first
      | (go_at_call 14; have him := iHasSign_any n m k2 k3 _ _ ss gs a b _ HA.out.1 HA.out.2 HF.out L4; rw [← HRES.out] at him; refine him.mono ?_; clear him; rintro e w5 ⟨rfl, hb5⟩; have B5 := B4.step hb5; have b50 := B5.c0; have b51 := B5.c1; obtain ⟨x0, x1, x2, x3, HX⟩ := res_cells hx4 hb5 hx4l; have L5 := L4.below hb5 (Nat.le_refl _); clear B4 L4 hx4 hb5 hx4l))
    have hto : ∀ j, Calls Try.prog 13 #[.agg #[.slice ta n tc, .slice ga m gc]] (w5.drewN j) fun e w' => ∃ g0 k0 g1 k1, e = .returned (.agg #[.slice (some ⟨g0, 0, none⟩) n k0, .slice (some ⟨g1, 0, none⟩) m k1]) ∧ OwnL w' w5.heap.size n m ss gs g0 k0 g1 k1 ∧ Below w5.heap.size w5 w' := fun j =>
      (toL_any ta ga n m tc gc ss gs _ hn2 hm2 ((B5.draws j).led HL.out)).mono fun e w' ⟨a, b, c, d, h1, h2, h3⟩ => ⟨a, b, c, d, h1, h2, (Joins.below_draws _ w5 j).trans h3⟩
    have hl1 : w4.heap.size < w5.heap.size := lt_of_block HX.out
    have hl2 : w.heap.size < w5.heap.size := lt_of_block B5.box
    go_region_held3 (fun w' => w'.cell? ⟨w4.heap.size, 0, none⟩ = some (.slice (some ⟨g2, 0, none⟩) n k2) ∧ w'.cell? ⟨w4.heap.size, 1, none⟩ = some (.slice (some ⟨g3, 0, none⟩) m k3) ∧ w'.cell? ⟨w.heap.size, 0, none⟩ = some (.slice ta n tc) ∧ w'.cell? ⟨w.heap.size, 1, none⟩ = some (.slice ga m gc)) (go_keep)
      (first | (go_at_call 13; refine (hto 1).mono ?_; rintro e w6 ⟨g6, k6, g7, k7, rfl, ho6, hb6⟩; have z0 := (hb6.cell (p := ⟨w4.heap.size, 0, none⟩) hl1).trans x0; have z1 := (hb6.cell (p := ⟨w4.heap.size, 1, none⟩) hl1).trans x1; have z2 := (hb6.cell (p := ⟨w.heap.size, 0, none⟩) hl2).trans b50; have z3 := (hb6.cell (p := ⟨w.heap.size, 1, none⟩) hl2).trans b51) | (go_at_call 15; refine (eqL_any _ _ _ _ n m k2 k6 k3 k7 ss gs _ hn2 hm2 (L5.below hb6 (Nat.le_refl _)) (ho6.led HN.out HM.out)).mono ?_; rintro e w7 ⟨rfl, hb7⟩; have hs6 := hb6.size; have y0 := (hb7.cell (p := ⟨w4.heap.size, 0, none⟩) (Nat.lt_of_lt_of_le hl1 hs6)).trans z0; have y1 := (hb7.cell (p := ⟨w4.heap.size, 1, none⟩) (Nat.lt_of_lt_of_le hl1 hs6)).trans z1; have y2 := (hb7.cell (p := ⟨w.heap.size, 0, none⟩) (Nat.lt_of_lt_of_le hl2 hs6)).trans z2; have y3 := (hb7.cell (p := ⟨w.heap.size, 1, none⟩) (Nat.lt_of_lt_of_le hl2 hs6)).trans z3))
    go_wp2
    go_ret
    exact ⟨rfl, ((B5.step hb6).step hb7).bel⟩

end Go.Proofs.Ytkdkecbjjbkabaa
