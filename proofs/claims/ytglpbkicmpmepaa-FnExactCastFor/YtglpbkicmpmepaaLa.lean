/- Nodes that come in: their size is told, they are copied into new memory, two lists are compared. -/
import Derived.Test.YtglpbkicmpmepaaEa
namespace Go.Proofs.Ytglpbkicmpmepaa
open Go.RowKit Go.Maps Go.WideMaps

theorem Try.infoNd : (Try.prog.info? 53).map (fun i => (i.zero, i.size, i.bytes)) = some (some (.agg #[.int .i64 0, .int .i64 0, .int .i64 0]), 3, 24) := by kernel_rfl

theorem szNs_any (a : Option Addr) (n cap : Nat) (left : Int) (w : World) (h0 : 0 ≤ left) (h1 : left ≤ 1048576) (hl : n ≤ maxLen) :
    Calls Try.prog 4 #[.slice a n cap, .int .i64 left] w fun e w' => ∃ r : Int, e = .returned (.int .i64 r) ∧ w' = w ∧ SzG n left r := by
  unfold maxLen at hl
  by_cases hn : left < n
  · go_enter Try.func4, Try.ntmps4
    go_wp2
    go_ret
    exact ⟨_, rfl, rfl, Or.inl rfl⟩
  · go_enter Try.func4, Try.ntmps4
    go_wp2
    go_ret
    exact ⟨_, rfl, rfl, Or.inr ⟨by omega, by omega, by omega⟩⟩

set_option maxHeartbeats 400000 in
theorem toNd_any (k p q : Int) (w : World) : Calls Try.prog 21 #[.agg #[.int .i64 k, .int .i64 p, .int .i64 q]] w fun e w' => e = .returned (.agg #[.int .i64 k, .int .i64 p, .int .i64 q]) ∧ Below w.heap.size w w' := by
  obtain ⟨_, t1, _, _⟩ := three_blocks w (.cells #[.int .i64 k, .int .i64 p, .int .i64 q] 55) (.cells #[.int .i64 k, .int .i64 p, .int .i64 q] 53) (.cells #[.int .i64 k, .int .i64 p, .int .i64 q] 53)
  obtain ⟨c0, c1, c2⟩ := cells3 t1
  clear t1
  go_enter Try.func21, Try.ntmps21
  go_wp2
  exact bodyPost_ret (v := .agg #[.int .i64 k, .int .i64 p, .int .i64 q]) (by simp [results, Try.results21, go_sem, c0, c1, c2]) rfl ⟨rfl, below_box3 _ _ _⟩

theorem toNs_round {wr w2 : World} {B n k : Nat} {ms : List Mb} {g1 g2 g3 : Int} (hg : (g1, g2, g3) = ms.getD k Z3) (hlt : k < n)
    (h : ∃ xs, wr.ownsRow B 53 3 (.slice (some ⟨B, 0, none⟩) n n) n xs ∧ ∀ j, j < k → xs[j * 3]? = some (.int .i64 (ms.getD j Z3).1) ∧ xs[j * 3 + 1]? = some (.int .i64 (ms.getD j Z3).2.1) ∧ xs[j * 3 + 2]? = some (.int .i64 (ms.getD j Z3).2.2)) (hb : Below wr.heap.size wr w2) :
    ∃ u0 u1 u2, w2.cell? ⟨B, k * 3, none⟩ = some u0 ∧ w2.cell? ⟨B, k * 3 + 1, none⟩ = some u1 ∧ w2.cell? ⟨B, k * 3 + 2, none⟩ = some u2 ∧ w2.frozen? ⟨B, k * 3, none⟩ = false ∧ w2.frozen? ⟨B, k * 3 + 1, none⟩ = false ∧ w2.frozen? ⟨B, k * 3 + 2, none⟩ = false ∧
      Hid (∃ xs, (((w2.setCell ⟨B, k * 3, none⟩ (.int .i64 g1)).setCell ⟨B, k * 3 + 1, none⟩ (.int .i64 g2)).setCell ⟨B, k * 3 + 2, none⟩ (.int .i64 g3)).ownsRow B 53 3 (.slice (some ⟨B, 0, none⟩) n n) n xs ∧ ∀ j, j < k + 1 → xs[j * 3]? = some (.int .i64 (ms.getD j Z3).1) ∧ xs[j * 3 + 1]? = some (.int .i64 (ms.getD j Z3).2.1) ∧ xs[j * 3 + 2]? = some (.int .i64 (ms.getD j Z3).2.2)) := by
  obtain ⟨xs, hown0, hxs⟩ := h
  have hown := hown0.kept (w' := w2) (row := none) ⟨hb.os, hb.tape, hb.output, hb.size, fun k hk _ => hb.block k hk⟩ (by simp [Value.ownBlock])
  have hxl := hown.1
  have r1 := (hown.stored (k * 3) (.int .i64 g1)).1
  have r2 := (r1.stored (k * 3 + 1) (.int .i64 g2)).1
  have r3 := (r2.stored (k * 3 + 2) (.int .i64 g3)).1
  refine ⟨_, _, _, (hown.cellAt (k * 3) (by omega)).trans (List.getElem?_eq_getElem (by omega)), (hown.cellAt (k * 3 + 1) (by omega)).trans (List.getElem?_eq_getElem (by omega)), (hown.cellAt (k * 3 + 2) (by omega)).trans (List.getElem?_eq_getElem (by omega)), hown.frozenAt _, hown.frozenAt _, hown.frozenAt _, _, r3, fun j hj => ?_⟩
  by_cases e : k = j
  · subst e
    rw [← hg]
    refine ⟨?_, ?_, ?_⟩
    · rw [List.getElem?_set_ne (by omega), List.getElem?_set_ne (by omega), List.getElem?_set_self (by omega)]
    · rw [List.getElem?_set_ne (by omega), List.getElem?_set_self (by simp; omega)]
    · rw [List.getElem?_set_self (by simp; omega)]
  · have := hxs j (by omega)
    refine ⟨?_, ?_, ?_⟩
    · rw [List.getElem?_set_ne (by omega), List.getElem?_set_ne (by omega), List.getElem?_set_ne (by omega)]; exact this.1
    · rw [List.getElem?_set_ne (by omega), List.getElem?_set_ne (by omega), List.getElem?_set_ne (by omega)]; exact this.2.1
    · rw [List.getElem?_set_ne (by omega), List.getElem?_set_ne (by omega), List.getElem?_set_ne (by omega)]; exact this.2.2

set_option maxHeartbeats 400000 in
theorem toNs_any (a : Option Addr) (n cap : Nat) (ms : List Mb) (w : World) (hl : n ≤ 1048576) (hs : MAt w a n ms) :
    Calls Try.prog 7 #[.slice a n cap] w fun e w' => ∃ g c, e = .returned (.slice (some ⟨g, 0, none⟩) n c) ∧ w'.ownsRow w.heap.size 53 3 (.slice (some ⟨g, 0, none⟩) n c) n (mcells ms) ∧ Below w.heap.size w w' := by
  have HN : Hid (ms.length = n) := hs.1
  have HSS : Hid (MAt w a n ms) := hs
  clear hs
  obtain ⟨i0, hi, hz0, hz1, hz2⟩ := info_parts Try.infoNd
  have hml : n ≤ maxLen := by unfold maxLen; omega
  go_enter Try.func7, Try.ntmps7
  go_wp2_with (first | (at_make; refine wpList_make_full _ rfl _ _ 38 rfl w.heap.size 53 i0 (.agg #[.int .i64 0, .int .i64 0, .int .i64 0]) 3 Try.underlying38 hi hz0 hz1 _ _ _ _ n rfl rfl (by omega) (by omega) (by rw [hz2]; omega) hml (Nat.le_refl _) ?_; intro w1 ho1 hg1))
  have hb1 : Below w.heap.size w w1 := (Below.refl _ _).grown hg1 (Nat.le_refl _) (fun k h => by cases h)
  go_loopw [4] (fun i wr => ∃ k : Nat, k ≤ n ∧ i = .int .i64 k ∧ Below w.heap.size w wr ∧ Hid (∃ xs, wr.ownsRow w.heap.size 53 3 (.slice (some ⟨w.heap.size, 0, none⟩) n n) n xs ∧ ∀ j, j < k → xs[j * 3]? = some (.int .i64 (ms.getD j Z3).1) ∧ xs[j * 3 + 1]? = some (.int .i64 (ms.getD j Z3).2.1) ∧ xs[j * 3 + 2]? = some (.int .i64 (ms.getD j Z3).2.2))) (fun i _ => n - (intOf i).toNat)
  case atStart => exact ⟨0, Nat.zero_le _, rfl, hb1, _, ho1, fun j hj => by omega⟩
  case round =>
    obtain ⟨k, hk, rfl, hbel, HX⟩ := hrel
    clear ho1 hg1 hb1
    by_cases hlt : k < n
    · rcases HSS.out.2 with h0 | ⟨b, off, ha, hb, hc⟩
      · omega
      subst ha
      obtain ⟨g, hg⟩ : ∃ g, g = ms.getD k Z3 := ⟨_, rfl⟩
      have hcx := hc k hlt
      rw [← hg] at hcx
      obtain ⟨g1, g2, g3⟩ := g
      have c0 := (hbel.cell (p := ⟨b, off + k * 3, none⟩) hb).trans hcx.1
      have c1 := (hbel.cell (p := ⟨b, off + k * 3 + 1, none⟩) hb).trans hcx.2.1
      have c2 := (hbel.cell (p := ⟨b, off + k * 3 + 2, none⟩) hb).trans hcx.2.2
      simp only at c0 c1 c2
      have HG : Hid ((g1, g2, g3) = ms.getD k Z3) := hg
      clear hg hc hcx
      go_wp2_with (first | (go_at_call 21; refine (toNd_any _ _ _ _).mono ?_; rintro e w2 ⟨rfl, hb2⟩; obtain ⟨u0, u1, u2, cg0, cg1, cg2, fg0, fg1, fg2, HX2⟩ := toNs_round HG.out hlt HX.out hb2))
      go_roundw
      case rel => exact ⟨k + 1, by omega, by go_num, (((hbel.trans (hb2.mono hbel.size)).setCell (Nat.le_refl _) _).setCell (Nat.le_refl _) _).setCell (Nat.le_refl _) _, HX2⟩
      case measure => simp [intOf]; omega
    · go_wp2
      go_ret
      obtain ⟨xs, hown, hxs⟩ := HX.out
      refine ⟨_, _, rfl, ?_, hbel⟩
      rw [← all_mems HN.out hown.1 (fun j hj => hxs j (by omega))]
      exact hown

set_option maxHeartbeats 400000 in
theorem eqNd_any (k p q : Int) (w : World) : Calls Try.prog 28 #[.agg #[.int .i64 k, .int .i64 p, .int .i64 q], .agg #[.int .i64 k, .int .i64 p, .int .i64 q]] w fun e w' => e = .returned (.bool true) ∧ Below w.heap.size w w' := by
  have hb0 : Below w.heap.size w ((w.alloc (.cells #[.int .i64 k, .int .i64 p, .int .i64 q] 53)).alloc (.cells #[.int .i64 k, .int .i64 p, .int .i64 q] 53)) := ((Below.refl _ _).alloc (Nat.le_refl _) _).alloc (by simp) _
  go_enter Try.func28, Try.ntmps28
  go_wp2
  go_ret
  exact ⟨rfl, hb0⟩

set_option maxHeartbeats 400000 in
theorem eqNs_any (a b : Option Addr) (n c1 c2 : Nat) (ms : List Mb) (w : World) (hl : n ≤ 1048576) (ha : MAt w a n ms) (hb : MAt w b n ms) :
    Calls Try.prog 11 #[.slice a n c1, .slice b n c2] w fun e w' => e = .returned (.bool true) ∧ Below w.heap.size w w' := by
  have HA : Hid (MAt w a n ms) := ha
  have HB : Hid (MAt w b n ms) := hb
  clear ha hb
  go_enter Try.func11, Try.ntmps11
  go_wp2
  go_loopw [5] (fun i wr => ∃ k : Nat, k ≤ n ∧ i = .int .i64 k ∧ Below w.heap.size w wr) (fun i _ => n - (intOf i).toNat)
  case atStart => exact ⟨0, Nat.zero_le _, rfl, Below.refl _ _⟩
  case round =>
    obtain ⟨k, hk, rfl, hbel⟩ := hrel
    by_cases hlt : k < n
    · rcases HA.out.2 with h0 | ⟨b0, o0, e0, l0, d0⟩
      · omega
      subst e0
      rcases HB.out.2 with h0 | ⟨b1, o1, e1, l1, d1⟩
      · omega
      subst e1
      obtain ⟨g, hg⟩ : ∃ g, g = ms.getD k Z3 := ⟨_, rfl⟩
      have y0 := d0 k hlt
      have y1 := d1 k hlt
      rw [← hg] at y0 y1
      obtain ⟨g1, g2, g3⟩ := g
      have x0 := (hbel.cell (p := ⟨b0, o0 + k * 3, none⟩) l0).trans y0.1
      have x1 := (hbel.cell (p := ⟨b0, o0 + k * 3 + 1, none⟩) l0).trans y0.2.1
      have x2 := (hbel.cell (p := ⟨b0, o0 + k * 3 + 2, none⟩) l0).trans y0.2.2
      have x3 := (hbel.cell (p := ⟨b1, o1 + k * 3, none⟩) l1).trans y1.1
      have x4 := (hbel.cell (p := ⟨b1, o1 + k * 3 + 1, none⟩) l1).trans y1.2.1
      have x5 := (hbel.cell (p := ⟨b1, o1 + k * 3 + 2, none⟩) l1).trans y1.2.2
      simp only at x0 x1 x2 x3 x4 x5
      clear hg d0 d1 y0 y1
      have hki : (k : Int) < (n : Int) := by omega
      have hw0 : b0 < wr.heap.size := Nat.lt_of_lt_of_le l0 hbel.size
      have hw1 : b1 < wr.heap.size := Nat.lt_of_lt_of_le l1 hbel.size
      have hcall : ∀ j, Calls Try.prog 28 #[.agg #[.int .i64 g1, .int .i64 g2, .int .i64 g3], .agg #[.int .i64 g1, .int .i64 g2, .int .i64 g3]] (wr.drewN j) fun e w' => e = .returned (.bool true) ∧ Below wr.heap.size wr w' := fun j => (eqNd_any g1 g2 g3 _).mono fun e w' h => ⟨h.1, (Joins.below_draws _ wr j).trans h.2⟩
      go_wp2
      go_region_held3 (fun w' => w'.cell? ⟨b0, o0 + k * 3, none⟩ = some (.int .i64 g1) ∧ w'.cell? ⟨b0, o0 + k * 3 + 1, none⟩ = some (.int .i64 g2) ∧ w'.cell? ⟨b0, o0 + k * 3 + 2, none⟩ = some (.int .i64 g3) ∧ w'.cell? ⟨b1, o1 + k * 3, none⟩ = some (.int .i64 g1) ∧ w'.cell? ⟨b1, o1 + k * 3 + 1, none⟩ = some (.int .i64 g2) ∧ w'.cell? ⟨b1, o1 + k * 3 + 2, none⟩ = some (.int .i64 g3)) (go_keep)
        (first | (go_at_call 28; refine (hcall 1).mono ?_; rintro e w3 ⟨rfl, hb3⟩; have z0 := (hb3.cell (p := ⟨b0, o0 + k * 3, none⟩) hw0).trans x0; have z1 := (hb3.cell (p := ⟨b0, o0 + k * 3 + 1, none⟩) hw0).trans x1; have z2 := (hb3.cell (p := ⟨b0, o0 + k * 3 + 2, none⟩) hw0).trans x2; have z3 := (hb3.cell (p := ⟨b1, o1 + k * 3, none⟩) hw1).trans x3; have z4 := (hb3.cell (p := ⟨b1, o1 + k * 3 + 1, none⟩) hw1).trans x4; have z5 := (hb3.cell (p := ⟨b1, o1 + k * 3 + 2, none⟩) hw1).trans x5))
      go_wp2
      go_roundw
      case rel => exact ⟨k + 1, by omega, by go_num, hbel.trans (hb3.mono hbel.size)⟩
      case measure => simp [intOf]; omega
    · go_wp2
      go_ret
      exact ⟨rfl, hbel⟩

end Go.Proofs.Ytglpbkicmpmepaa
