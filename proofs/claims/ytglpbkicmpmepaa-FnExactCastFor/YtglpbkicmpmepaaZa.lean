/- Choices and voters that come in: their size is told, they are copied into new memory, two are compared. -/
import Derived.Test.YtglpbkicmpmepaaEa
namespace Go.Proofs.Ytglpbkicmpmepaa
open Go.RowKit Go.Maps Go.WideMaps

theorem Try.infoCho : (Try.prog.info? 74).map (fun i => (i.zero, i.size, i.bytes)) = some (some (.agg #[.int .i64 0, .int .i64 0, .int .i64 0]), 3, 24) := by kernel_rfl

theorem szChs_any (a : Option Addr) (n cap : Nat) (left : Int) (w : World) (h0 : 0 ≤ left) (h1 : left ≤ 1048576) (hl : n ≤ maxLen) :
    Calls Try.prog 17 #[.slice a n cap, .int .i64 left] w fun e w' => ∃ r : Int, e = .returned (.int .i64 r) ∧ w' = w ∧ SzG n left r := by
  unfold maxLen at hl
  by_cases hn : left < n
  · go_enter Try.func17, Try.ntmps17
    go_wp2
    go_ret
    exact ⟨_, rfl, rfl, Or.inl rfl⟩
  · go_enter Try.func17, Try.ntmps17
    go_wp2
    go_ret
    exact ⟨_, rfl, rfl, Or.inr ⟨by omega, by omega, by omega⟩⟩

set_option maxHeartbeats 400000 in
theorem toCh_any (p q t : Int) (w : World) : Calls Try.prog 41 #[.agg #[.int .i64 p, .int .i64 q, .int .i64 t]] w fun e w' => e = .returned (.agg #[.int .i64 p, .int .i64 q, .int .i64 t]) ∧ Below w.heap.size w w' := by
  have HB : Hid (Below w.heap.size w (((w.alloc (.cells #[.int .i64 p, .int .i64 q, .int .i64 t] 82)).alloc (.cells #[.int .i64 0, .int .i64 0, .int .i64 0] 74)).alloc (.cells #[.int .i64 0, .int .i64 0, .int .i64 0] 74))) := below_box3 _ _ _
  obtain ⟨t0, t1, t2, _⟩ := three_blocks w (.cells #[.int .i64 p, .int .i64 q, .int .i64 t] 82) (.cells #[.int .i64 0, .int .i64 0, .int .i64 0] 74) (.cells #[.int .i64 0, .int .i64 0, .int .i64 0] 74)
  have Bq1 : Hid _ := t0
  have Bq2 : Hid _ := t1
  have Bq3 : Hid _ := t2
  clear t0 t1 t2
  have hc := toRef_any p q (((w.alloc (.cells #[.int .i64 p, .int .i64 q, .int .i64 t] 82)).alloc (.cells #[.int .i64 0, .int .i64 0, .int .i64 0] 74)).alloc (.cells #[.int .i64 0, .int .i64 0, .int .i64 0] 74))
  go_enter Try.func41, Try.ntmps41
  go_wp2_with (first
    | (go_at_call 54; (with_reducible refine hc.mono ?_); clear hc; rintro e w2 ⟨rfl, hb2⟩; have HB2 : Hid (Below w.heap.size w w2) := HB.out.trans (hb2.mono HB.out.size); have Kq1 := keepb Bq1.out hb2; have Kq2 := keepb Bq2.out hb2; have Kq3 := keepb Bq3.out hb2; obtain ⟨b0, b1, b2⟩ := cells3 Kq1.out; obtain ⟨c0, c1, c2⟩ := cells3 Kq2.out; obtain ⟨d0, d1, d2⟩ := cells3 Kq3.out; have f0 := Joins.unfrozen_of_block Kq2.out 0; have f1 := Joins.unfrozen_of_block Kq2.out 1; have f2 := Joins.unfrozen_of_block Kq2.out 2; have g0 := Joins.unfrozen_of_block Kq3.out 0; have g1 := Joins.unfrozen_of_block Kq3.out 1; have g2 := Joins.unfrozen_of_block Kq3.out 2))
  have hR3 := (heap_set3 (W := w2) (b := w.heap.size + 1 + 1) (c := w.heap.size + 1) (by omega) (.int .i64 p) (.int .i64 q) (.int .i64 t)).trans Kq2.out
  obtain ⟨s1, s2, s3⟩ := cells3 (set3 hR3 (.int .i64 p) (.int .i64 q) (.int .i64 t))
  refine bodyPost_ret (v := .agg #[.int .i64 p, .int .i64 q, .int .i64 t]) (by simp [results, Try.results41, go_sem, s1, s2, s3]) rfl ⟨rfl, ?_⟩
  exact below_set3 (below_set3 HB2.out (by omega) _ _ _) (by omega) _ _ _

theorem toChs_round {wr w2 : World} {B n k : Nat} {ms : List Mb} {g1 g2 g3 : Int} (hg : (g1, g2, g3) = ms.getD k Z3) (hlt : k < n)
    (h : ∃ xs, wr.ownsRow B 74 3 (.slice (some ⟨B, 0, none⟩) n n) n xs ∧ ∀ j, j < k → xs[j * 3]? = some (.int .i64 (ms.getD j Z3).1) ∧ xs[j * 3 + 1]? = some (.int .i64 (ms.getD j Z3).2.1) ∧ xs[j * 3 + 2]? = some (.int .i64 (ms.getD j Z3).2.2)) (hb : Below wr.heap.size wr w2) :
    ∃ u0 u1 u2, w2.cell? ⟨B, k * 3, none⟩ = some u0 ∧ w2.cell? ⟨B, k * 3 + 1, none⟩ = some u1 ∧ w2.cell? ⟨B, k * 3 + 2, none⟩ = some u2 ∧ w2.frozen? ⟨B, k * 3, none⟩ = false ∧ w2.frozen? ⟨B, k * 3 + 1, none⟩ = false ∧ w2.frozen? ⟨B, k * 3 + 2, none⟩ = false ∧
      Hid (∃ xs, (((w2.setCell ⟨B, k * 3, none⟩ (.int .i64 g1)).setCell ⟨B, k * 3 + 1, none⟩ (.int .i64 g2)).setCell ⟨B, k * 3 + 2, none⟩ (.int .i64 g3)).ownsRow B 74 3 (.slice (some ⟨B, 0, none⟩) n n) n xs ∧ ∀ j, j < k + 1 → xs[j * 3]? = some (.int .i64 (ms.getD j Z3).1) ∧ xs[j * 3 + 1]? = some (.int .i64 (ms.getD j Z3).2.1) ∧ xs[j * 3 + 2]? = some (.int .i64 (ms.getD j Z3).2.2)) := by
  obtain ⟨xs, hown0, hxs⟩ := h
  have hown := hown0.kept (w' := w2) (row := none) ⟨hb.os, hb.tape, hb.output, hb.size, fun k hk _ => hb.block k hk⟩ (by simp [Value.ownBlock])
  have hxl := hown.1
  have r1 := (hown.stored (k * 3) (.int .i64 g1)).1
  have r2 := (r1.stored (k * 3 + 1) (.int .i64 g2)).1
  have r3 := (r2.stored (k * 3 + 2) (.int .i64 g3)).1
  refine ⟨_, _, _, (hown.cellAt (k * 3) (by omega)).trans (List.getElem?_eq_getElem (by omega)), (hown.cellAt (k * 3 + 1) (by omega)).trans (List.getElem?_eq_getElem (by omega)), (hown.cellAt (k * 3 + 2) (by omega)).trans (List.getElem?_eq_getElem (by omega)), hown.frozenAt _, hown.frozenAt _, hown.frozenAt _, _, r3, fun j hj => ?_⟩
  by_cases e : k = j
  · subst e
    rw [← hg]
    refine ⟨?_, ?_, ?_⟩
    · rw [List.getElem?_set_ne (by omega), List.getElem?_set_ne (by omega), List.getElem?_set_self (by omega)]
    · rw [List.getElem?_set_ne (by omega), List.getElem?_set_self (by simp; omega)]
    · rw [List.getElem?_set_self (by simp; omega)]
  · have := hxs j (by omega)
    refine ⟨?_, ?_, ?_⟩
    · rw [List.getElem?_set_ne (by omega), List.getElem?_set_ne (by omega), List.getElem?_set_ne (by omega)]; exact this.1
    · rw [List.getElem?_set_ne (by omega), List.getElem?_set_ne (by omega), List.getElem?_set_ne (by omega)]; exact this.2.1
    · rw [List.getElem?_set_ne (by omega), List.getElem?_set_ne (by omega), List.getElem?_set_ne (by omega)]; exact this.2.2

set_option maxHeartbeats 400000 in
theorem toChs_any (a : Option Addr) (n cap : Nat) (ms : List Mb) (w : World) (hl : n ≤ 1048576) (hs : MAt w a n ms) :
    Calls Try.prog 22 #[.slice a n cap] w fun e w' => ∃ g c, e = .returned (.slice (some ⟨g, 0, none⟩) n c) ∧ w'.ownsRow w.heap.size 74 3 (.slice (some ⟨g, 0, none⟩) n c) n (mcells ms) ∧ Below w.heap.size w w' := by
  have HN : Hid (ms.length = n) := hs.1
  have HSS : Hid (MAt w a n ms) := hs
  clear hs
  obtain ⟨i0, hi, hz0, hz1, hz2⟩ := info_parts Try.infoCho
  have hml : n ≤ maxLen := by unfold maxLen; omega
  go_enter Try.func22, Try.ntmps22
  go_wp2_with (first | (at_make; refine wpList_make_full _ rfl _ _ 32 rfl w.heap.size 74 i0 (.agg #[.int .i64 0, .int .i64 0, .int .i64 0]) 3 Try.underlying32 hi hz0 hz1 _ _ _ _ n rfl rfl (by omega) (by omega) (by rw [hz2]; omega) hml (Nat.le_refl _) ?_; intro w1 ho1 hg1))
  have hb1 : Below w.heap.size w w1 := (Below.refl _ _).grown hg1 (Nat.le_refl _) (fun k h => by cases h)
  go_loopw [4] (fun i wr => ∃ k : Nat, k ≤ n ∧ i = .int .i64 k ∧ Below w.heap.size w wr ∧ Hid (∃ xs, wr.ownsRow w.heap.size 74 3 (.slice (some ⟨w.heap.size, 0, none⟩) n n) n xs ∧ ∀ j, j < k → xs[j * 3]? = some (.int .i64 (ms.getD j Z3).1) ∧ xs[j * 3 + 1]? = some (.int .i64 (ms.getD j Z3).2.1) ∧ xs[j * 3 + 2]? = some (.int .i64 (ms.getD j Z3).2.2))) (fun i _ => n - (intOf i).toNat)
  case atStart => exact ⟨0, Nat.zero_le _, rfl, hb1, _, ho1, fun j hj => by omega⟩
  case round =>
    obtain ⟨k, hk, rfl, hbel, HX⟩ := hrel
    clear ho1 hg1 hb1
    by_cases hlt : k < n
    · rcases HSS.out.2 with h0 | ⟨b, off, ha, hb, hc⟩
      · omega
      subst ha
      obtain ⟨g, hg⟩ : ∃ g, g = ms.getD k Z3 := ⟨_, rfl⟩
      have hcx := hc k hlt
      rw [← hg] at hcx
      obtain ⟨g1, g2, g3⟩ := g
      have c0 := (hbel.cell (p := ⟨b, off + k * 3, none⟩) hb).trans hcx.1
      have c1 := (hbel.cell (p := ⟨b, off + k * 3 + 1, none⟩) hb).trans hcx.2.1
      have c2 := (hbel.cell (p := ⟨b, off + k * 3 + 2, none⟩) hb).trans hcx.2.2
      simp only at c0 c1 c2
      have HG : Hid ((g1, g2, g3) = ms.getD k Z3) := hg
      clear hg hc hcx
      go_wp2_with (first | (go_at_call 41; refine (toCh_any _ _ _ _).mono ?_; rintro e w2 ⟨rfl, hb2⟩; obtain ⟨u0, u1, u2, cg0, cg1, cg2, fg0, fg1, fg2, HX2⟩ := toChs_round HG.out hlt HX.out hb2))
      go_roundw
      case rel => exact ⟨k + 1, by omega, by go_num, (((hbel.trans (hb2.mono hbel.size)).setCell (Nat.le_refl _) _).setCell (Nat.le_refl _) _).setCell (Nat.le_refl _) _, HX2⟩
      case measure => simp [intOf]; omega
    · go_wp2
      go_ret
      obtain ⟨xs, hown, hxs⟩ := HX.out
      refine ⟨_, _, rfl, ?_, hbel⟩
      rw [← all_mems HN.out hown.1 (fun j hj => hxs j (by omega))]
      exact hown

set_option maxHeartbeats 400000 in
theorem eqCh_any (p q t : Int) (w : World) : Calls Try.prog 52 #[.agg #[.int .i64 p, .int .i64 q, .int .i64 t], .agg #[.int .i64 p, .int .i64 q, .int .i64 t]] w fun e w' => e = .returned (.bool true) ∧ Below w.heap.size w w' := by
  have HB : Hid (Below w.heap.size w ((w.alloc (.cells #[.int .i64 p, .int .i64 q, .int .i64 t] 74)).alloc (.cells #[.int .i64 p, .int .i64 q, .int .i64 t] 74))) := below_box2 _ _
  have hc := eqRef_any p q ((w.alloc (.cells #[.int .i64 p, .int .i64 q, .int .i64 t] 74)).alloc (.cells #[.int .i64 p, .int .i64 q, .int .i64 t] 74))
  have t0 := block_at2 (w := w) (o := .cells #[.int .i64 p, .int .i64 q, .int .i64 t] 74) (o' := .cells #[.int .i64 p, .int .i64 q, .int .i64 t] 74)
  have t1 := heap_alloc_at (w.alloc (.cells #[.int .i64 p, .int .i64 q, .int .i64 t] 74)) (.cells #[.int .i64 p, .int .i64 q, .int .i64 t] 74) (w.heap.size + 1) (by simp)
  have T0 : Hid _ := t0
  have T1 : Hid _ := t1
  clear t0 t1
  go_enter Try.func52, Try.ntmps52
  go_wp2_with (first | (go_at_call 51; (with_reducible refine hc.mono ?_); clear hc; rintro e w2 ⟨rfl, hb2⟩; obtain ⟨b0, b1, b2⟩ := cells3 (keepb T0.out hb2).out; obtain ⟨c0, c1, c2⟩ := cells3 (keepb T1.out hb2).out))
  go_ret
  exact ⟨rfl, HB.out.trans (hb2.mono HB.out.size)⟩

set_option maxHeartbeats 400000 in
theorem eqChs_any (a b : Option Addr) (n c1 c2 : Nat) (ms : List Mb) (w : World) (hl : n ≤ 1048576) (ha : MAt w a n ms) (hb : MAt w b n ms) :
    Calls Try.prog 29 #[.slice a n c1, .slice b n c2] w fun e w' => e = .returned (.bool true) ∧ Below w.heap.size w w' := by
  have HA : Hid (MAt w a n ms) := ha
  have HB : Hid (MAt w b n ms) := hb
  clear ha hb
  go_enter Try.func29, Try.ntmps29
  go_wp2
  go_loopw [5] (fun i wr => ∃ k : Nat, k ≤ n ∧ i = .int .i64 k ∧ Below w.heap.size w wr) (fun i _ => n - (intOf i).toNat)
  case atStart => exact ⟨0, Nat.zero_le _, rfl, Below.refl _ _⟩
  case round =>
    obtain ⟨k, hk, rfl, hbel⟩ := hrel
    by_cases hlt : k < n
    · rcases HA.out.2 with h0 | ⟨b0, o0, e0, l0, d0⟩
      · omega
      subst e0
      rcases HB.out.2 with h0 | ⟨b1, o1, e1, l1, d1⟩
      · omega
      subst e1
      obtain ⟨g, hg⟩ : ∃ g, g = ms.getD k Z3 := ⟨_, rfl⟩
      have y0 := d0 k hlt
      have y1 := d1 k hlt
      rw [← hg] at y0 y1
      obtain ⟨g1, g2, g3⟩ := g
      have x0 := (hbel.cell (p := ⟨b0, o0 + k * 3, none⟩) l0).trans y0.1
      have x1 := (hbel.cell (p := ⟨b0, o0 + k * 3 + 1, none⟩) l0).trans y0.2.1
      have x2 := (hbel.cell (p := ⟨b0, o0 + k * 3 + 2, none⟩) l0).trans y0.2.2
      have x3 := (hbel.cell (p := ⟨b1, o1 + k * 3, none⟩) l1).trans y1.1
      have x4 := (hbel.cell (p := ⟨b1, o1 + k * 3 + 1, none⟩) l1).trans y1.2.1
      have x5 := (hbel.cell (p := ⟨b1, o1 + k * 3 + 2, none⟩) l1).trans y1.2.2
      simp only at x0 x1 x2 x3 x4 x5
      clear hg d0 d1 y0 y1
      have hki : (k : Int) < (n : Int) := by omega
      have hw0 : b0 < wr.heap.size := Nat.lt_of_lt_of_le l0 hbel.size
      have hw1 : b1 < wr.heap.size := Nat.lt_of_lt_of_le l1 hbel.size
      have hcall : ∀ j, Calls Try.prog 52 #[.agg #[.int .i64 g1, .int .i64 g2, .int .i64 g3], .agg #[.int .i64 g1, .int .i64 g2, .int .i64 g3]] (wr.drewN j) fun e w' => e = .returned (.bool true) ∧ Below wr.heap.size wr w' := fun j => (eqCh_any g1 g2 g3 _).mono fun e w' h => ⟨h.1, (Joins.below_draws _ wr j).trans h.2⟩
      go_wp2
      go_region_held3 (fun w' => w'.cell? ⟨b0, o0 + k * 3, none⟩ = some (.int .i64 g1) ∧ w'.cell? ⟨b0, o0 + k * 3 + 1, none⟩ = some (.int .i64 g2) ∧ w'.cell? ⟨b0, o0 + k * 3 + 2, none⟩ = some (.int .i64 g3) ∧ w'.cell? ⟨b1, o1 + k * 3, none⟩ = some (.int .i64 g1) ∧ w'.cell? ⟨b1, o1 + k * 3 + 1, none⟩ = some (.int .i64 g2) ∧ w'.cell? ⟨b1, o1 + k * 3 + 2, none⟩ = some (.int .i64 g3)) (go_keep)
        (first | (go_at_call 52; refine (hcall 1).mono ?_; rintro e w3 ⟨rfl, hb3⟩; have z0 := (hb3.cell (p := ⟨b0, o0 + k * 3, none⟩) hw0).trans x0; have z1 := (hb3.cell (p := ⟨b0, o0 + k * 3 + 1, none⟩) hw0).trans x1; have z2 := (hb3.cell (p := ⟨b0, o0 + k * 3 + 2, none⟩) hw0).trans x2; have z3 := (hb3.cell (p := ⟨b1, o1 + k * 3, none⟩) hw1).trans x3; have z4 := (hb3.cell (p := ⟨b1, o1 + k * 3 + 1, none⟩) hw1).trans x4; have z5 := (hb3.cell (p := ⟨b1, o1 + k * 3 + 2, none⟩) hw1).trans x5))
      go_wp2
      go_roundw
      case rel => exact ⟨k + 1, by omega, by go_num, hbel.trans (hb3.mono hbel.size)⟩
      case measure => simp [intOf]; omega
    · go_wp2
      go_ret
      exact ⟨rfl, hbel⟩

theorem szVt_any (k l : Int) (a : Option Addr) (n cap : Nat) (left : Int) (w : World) (h0 : 0 ≤ left) (h1 : left ≤ 1048576) (hl : n ≤ maxLen) :
    Calls Try.prog 5 #[.agg #[.int .i64 k, .int .i64 l, .slice a n cap], .int .i64 left] w fun e w' => ∃ r : Int, e = .returned (.int .i64 r) ∧ SzG n left r ∧ Below w.heap.size w w' := by
  have hbx : Below w.heap.size w (w.alloc (.cells #[.int .i64 k, .int .i64 l, .slice a n cap] 25)) := below_box _
  have hS := szChs_any a n cap left (w.alloc (.cells #[.int .i64 k, .int .i64 l, .slice a n cap] 25)) h0 h1 hl
  go_enter Try.func5, Try.ntmps5
  go_wp2_with (first
    | (go_at_call 17; refine hS.mono ?_; rintro e w2 ⟨r, rfl, hw, hr⟩; have hw2 := hw.symm; subst hw2))
  · go_ret
    exact ⟨_, rfl, Or.inl rfl, hbx⟩
  · go_ret
    exact ⟨_, rfl, hr, hbx⟩

/-- A voter's copy: its choices lie in new memory. -/
def OutVt (w w' : World) (e : Ending) (k l : Int) (n : Nat) (ms : List Mb) : Prop :=
  ∃ g c, e = .returned (.agg #[.int .i64 k, .int .i64 l, .slice (some ⟨g, 0, none⟩) n c]) ∧ w'.ownsRow w.heap.size 74 3 (.slice (some ⟨g, 0, none⟩) n c) n (mcells ms) ∧ Below w.heap.size w w'

set_option maxHeartbeats 400000 in
theorem toVt_any (k l : Int) (a : Option Addr) (n cap : Nat) (ms : List Mb) (w : World) (hl : n ≤ 1048576) (h : MAt w a n ms) :
    Calls Try.prog 8 #[.agg #[.int .i64 k, .int .i64 l, .slice a n cap]] w fun e w' => OutVt w w' e k l n ms := by
  have hbx : Below w.heap.size w (((w.alloc (.cells #[.int .i64 k, .int .i64 l, .slice a n cap] 25)).alloc (.cells #[.int .i64 0, .int .i64 0, .slice none 0 0] 34)).alloc (.cells #[.int .i64 k, .int .i64 l, .slice none 0 0] 34)) := below_box3 _ _ _
  have hS := toChs_any a n cap ms _ hl (h.below hbx (Nat.le_refl _))
  have HBX : Hid (Below w.heap.size w (((w.alloc (.cells #[.int .i64 k, .int .i64 l, .slice a n cap] 25)).alloc (.cells #[.int .i64 0, .int .i64 0, .slice none 0 0] 34)).alloc (.cells #[.int .i64 k, .int .i64 l, .slice none 0 0] 34))) := hbx
  obtain ⟨t0, t1, t2, t3⟩ := three_blocks w (.cells #[.int .i64 k, .int .i64 l, .slice a n cap] 25) (.cells #[.int .i64 0, .int .i64 0, .slice none 0 0] 34) (.cells #[.int .i64 k, .int .i64 l, .slice none 0 0] 34)
  have T1 : Hid _ := t1
  have T2z : Hid _ := t2
  have T3 : Hid _ := t3
  clear hbx h t0 t1 t2 t3
  go_enter Try.func8, Try.ntmps8
  go_wp2_with (first
    | (go_at_call 22; refine hS.mono ?_; rintro e w2 ⟨g0, k0, rfl, ho0, hb2⟩; rw [T3.out] at ho0 hb2; obtain ⟨⟨q0, q1, q2⟩, ⟨q3, q4, q5⟩, HR⟩ := res3 T1.out hb2 (by omega); obtain ⟨⟨r0, r1, r2⟩, ⟨r3, r4, r5⟩, HO⟩ := res3 T2z.out hb2 (by omega); have HBW : Hid (Below w.heap.size w w2) := HBX.out.trans (hb2.mono (by omega)); have HROW : Hid (w2.ownsRow (w.heap.size + 1 + 1 + 1) 74 3 (.slice (some ⟨g0, 0, none⟩) n k0) n (mcells ms)) := ho0; clear hb2 ho0))
  have hR3 := (Below.heap_setCell w2 ⟨w.heap.size + 1 + 1, 2, none⟩ (.slice (some ⟨g0, 0, none⟩) n k0) (w.heap.size + 1) (show w.heap.size + 1 ≠ w.heap.size + 1 + 1 by omega)).trans HR.out
  obtain ⟨s1, s2, s3⟩ := cells3 (set3 hR3 (.int .i64 k) (.int .i64 l) (.slice (some ⟨g0, 0, none⟩) n k0))
  refine bodyPost_ret (v := .agg #[.int .i64 k, .int .i64 l, .slice (some ⟨g0, 0, none⟩) n k0]) (by simp [results, Try.results8, go_sem, s1, s2, s3]) rfl ⟨g0, k0, rfl, ?_, ?_⟩
  · exact Joins.ownsRow_le (row_set3 (ownsRow_setCell_below HROW.out (a := ⟨w.heap.size + 1 + 1, 2, none⟩) (show w.heap.size + 1 + 1 < _ by omega) _) (by omega) _ _ _) (by omega)
  · exact below_set3 (HBW.out.setCell (p := ⟨w.heap.size + 1 + 1, 2, none⟩) (show w.heap.size ≤ w.heap.size + 1 + 1 by omega) _) (by omega) _ _ _

set_option maxHeartbeats 400000 in
theorem eqVt_any (k l : Int) (a b : Option Addr) (n c1 c2 : Nat) (ms : List Mb) (w : World) (hl : n ≤ 1048576) (ha : MAt w a n ms) (hb : MAt w b n ms) :
    Calls Try.prog 12 #[.agg #[.int .i64 k, .int .i64 l, .slice a n c1], .agg #[.int .i64 k, .int .i64 l, .slice b n c2]] w fun e w' => e = .returned (.bool true) ∧ Below w.heap.size w w' := by
  have hbx : Below w.heap.size w ((w.alloc (.cells #[.int .i64 k, .int .i64 l, .slice a n c1] 34)).alloc (.cells #[.int .i64 k, .int .i64 l, .slice b n c2] 34)) := below_box2 _ _
  have hS := eqChs_any a b n c1 c2 ms _ hl (ha.below hbx (Nat.le_refl _)) (hb.below hbx (Nat.le_refl _))
  have HBX : Hid (Below w.heap.size w ((w.alloc (.cells #[.int .i64 k, .int .i64 l, .slice a n c1] 34)).alloc (.cells #[.int .i64 k, .int .i64 l, .slice b n c2] 34))) := hbx
  clear hbx ha hb
  go_enter Try.func12, Try.ntmps12
  go_wp2_with (first
    | (go_at_call 29; refine hS.mono ?_; rintro e w2 ⟨rfl, hb2⟩; have HBW : Hid (Below w.heap.size w w2) := HBX.out.trans (hb2.mono HBX.out.size); clear hb2))
  go_ret
  exact ⟨rfl, HBW.out⟩

end Go.Proofs.Ytglpbkicmpmepaa
