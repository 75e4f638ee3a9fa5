/- Choices and voters that come in: their size is told, they are copied into new memory, two are compared. -/
import Derived.Test.YtmnahhojfcigmaaEa
namespace Go.Proofs.Ytmnahhojfcigmaa
open Go.RowKit Go.Maps Go.WideMaps

set_option maxHeartbeats 400000 in
theorem eqCh_any (p q t : Int) (w : World) : Calls Try.prog 69 #[.agg #[.int .i64 p, .int .i64 q, .int .i64 t], .agg #[.int .i64 p, .int .i64 q, .int .i64 t]] w fun e w' => e = .returned (.bool true) ∧ Below w.heap.size w w' := by
  have HB : Hid (Below w.heap.size w ((w.alloc (.cells #[.int .i64 p, .int .i64 q, .int .i64 t] 82)).alloc (.cells #[.int .i64 p, .int .i64 q, .int .i64 t] 82))) := below_box2 _ _
  have hc := eqRef_any p q ((w.alloc (.cells #[.int .i64 p, .int .i64 q, .int .i64 t] 82)).alloc (.cells #[.int .i64 p, .int .i64 q, .int .i64 t] 82))
  have t0 := block_at2 (w := w) (o := .cells #[.int .i64 p, .int .i64 q, .int .i64 t] 82) (o' := .cells #[.int .i64 p, .int .i64 q, .int .i64 t] 82)
  have t1 := heap_alloc_at (w.alloc (.cells #[.int .i64 p, .int .i64 q, .int .i64 t] 82)) (.cells #[.int .i64 p, .int .i64 q, .int .i64 t] 82) (w.heap.size + 1) (by simp)
  have T0 : Hid _ := t0
  have T1 : Hid _ := t1
  clear t0 t1
  go_enter Try.func69, Try.ntmps69
  go_wp2_with (first | (go_at_call 68; (with_reducible refine hc.mono ?_); clear hc; rintro e w2 ⟨rfl, hb2⟩; obtain ⟨b0, b1, b2⟩ := cells3 (keepb T0.out hb2).out; obtain ⟨c0, c1, c2⟩ := cells3 (keepb T1.out hb2).out))
  go_ret
  exact ⟨rfl, HB.out.trans (hb2.mono HB.out.size)⟩

set_option maxHeartbeats 400000 in
theorem eqChs_any (a b : Option Addr) (n c1 c2 : Nat) (ms : List Mb) (w : World) (hl : n ≤ 1048576) (ha : MAt w a n ms) (hb : MAt w b n ms) :
    Calls Try.prog 67 #[.slice a n c1, .slice b n c2] w fun e w' => e = .returned (.bool true) ∧ Below w.heap.size w w' := by
  have HA : Hid (MAt w a n ms) := ha
  have HB : Hid (MAt w b n ms) := hb
  clear ha hb
  go_enter Try.func67, Try.ntmps67
  go_wp2
  go_loopw [5] (fun i wr => ∃ k : Nat, k ≤ n ∧ i = .int .i64 k ∧ Below w.heap.size w wr) (fun i _ => n - (intOf i).toNat)
  case atStart => exact ⟨0, Nat.zero_le _, rfl, Below.refl _ _⟩
  case round =>
    obtain ⟨k, hk, rfl, hbel⟩ := hrel
    by_cases hlt : k < n
    · rcases HA.out.2 with h0 | ⟨b0, o0, e0, l0, d0⟩
      · omega
      subst e0
      rcases HB.out.2 with h0 | ⟨b1, o1, e1, l1, d1⟩
      · omega
      subst e1
      obtain ⟨g, hg⟩ : ∃ g, g = ms.getD k Z3 := ⟨_, rfl⟩
      have y0 := d0 k hlt
      have y1 := d1 k hlt
      rw [← hg] at y0 y1
      obtain ⟨g1, g2, g3⟩ := g
      have x0 := (hbel.cell (p := ⟨b0, o0 + k * 3, none⟩) l0).trans y0.1
      have x1 := (hbel.cell (p := ⟨b0, o0 + k * 3 + 1, none⟩) l0).trans y0.2.1
      have x2 := (hbel.cell (p := ⟨b0, o0 + k * 3 + 2, none⟩) l0).trans y0.2.2
      have x3 := (hbel.cell (p := ⟨b1, o1 + k * 3, none⟩) l1).trans y1.1
      have x4 := (hbel.cell (p := ⟨b1, o1 + k * 3 + 1, none⟩) l1).trans y1.2.1
      have x5 := (hbel.cell (p := ⟨b1, o1 + k * 3 + 2, none⟩) l1).trans y1.2.2
      simp only at x0 x1 x2 x3 x4 x5
      clear hg d0 d1 y0 y1
      have hki : (k : Int) < (n : Int) := by omega
      have hw0 : b0 < wr.heap.size := Nat.lt_of_lt_of_le l0 hbel.size
      have hw1 : b1 < wr.heap.size := Nat.lt_of_lt_of_le l1 hbel.size
      have hcall : ∀ j, Calls Try.prog 69 #[.agg #[.int .i64 g1, .int .i64 g2, .int .i64 g3], .agg #[.int .i64 g1, .int .i64 g2, .int .i64 g3]] (wr.drewN j) fun e w' => e = .returned (.bool true) ∧ Below wr.heap.size wr w' := fun j => (eqCh_any g1 g2 g3 _).mono fun e w' h => ⟨h.1, (Joins.below_draws _ wr j).trans h.2⟩
      go_wp2
      go_region_held3 (fun w' => w'.cell? ⟨b0, o0 + k * 3, none⟩ = some (.int .i64 g1) ∧ w'.cell? ⟨b0, o0 + k * 3 + 1, none⟩ = some (.int .i64 g2) ∧ w'.cell? ⟨b0, o0 + k * 3 + 2, none⟩ = some (.int .i64 g3) ∧ w'.cell? ⟨b1, o1 + k * 3, none⟩ = some (.int .i64 g1) ∧ w'.cell? ⟨b1, o1 + k * 3 + 1, none⟩ = some (.int .i64 g2) ∧ w'.cell? ⟨b1, o1 + k * 3 + 2, none⟩ = some (.int .i64 g3)) (go_keep)
        (first | (go_at_call 69; refine (hcall 1).mono ?_; rintro e w3 ⟨rfl, hb3⟩; have z0 := (hb3.cell (p := ⟨b0, o0 + k * 3, none⟩) hw0).trans x0; have z1 := (hb3.cell (p := ⟨b0, o0 + k * 3 + 1, none⟩) hw0).trans x1; have z2 := (hb3.cell (p := ⟨b0, o0 + k * 3 + 2, none⟩) hw0).trans x2; have z3 := (hb3.cell (p := ⟨b1, o1 + k * 3, none⟩) hw1).trans x3; have z4 := (hb3.cell (p := ⟨b1, o1 + k * 3 + 1, none⟩) hw1).trans x4; have z5 := (hb3.cell (p := ⟨b1, o1 + k * 3 + 2, none⟩) hw1).trans x5))
      go_wp2
      go_roundw
      case rel => exact ⟨k + 1, by omega, by go_num, hbel.trans (hb3.mono hbel.size)⟩
      case measure => simp [intOf]; omega
    · go_wp2
      go_ret
      exact ⟨rfl, hbel⟩

set_option maxHeartbeats 400000 in
theorem eqVt_any (k l : Int) (a b : Option Addr) (n c1 c2 : Nat) (ms : List Mb) (w : World) (hl : n ≤ 1048576) (ha : MAt w a n ms) (hb : MAt w b n ms) :
    Calls Try.prog 63 #[.agg #[.int .i64 k, .int .i64 l, .slice a n c1], .agg #[.int .i64 k, .int .i64 l, .slice b n c2]] w fun e w' => e = .returned (.bool true) ∧ Below w.heap.size w w' := by
  have hbx : Below w.heap.size w ((w.alloc (.cells #[.int .i64 k, .int .i64 l, .slice a n c1] 53)).alloc (.cells #[.int .i64 k, .int .i64 l, .slice b n c2] 53)) := below_box2 _ _
  have hS := eqChs_any a b n c1 c2 ms _ hl (ha.below hbx (Nat.le_refl _)) (hb.below hbx (Nat.le_refl _))
  have HBX : Hid (Below w.heap.size w ((w.alloc (.cells #[.int .i64 k, .int .i64 l, .slice a n c1] 53)).alloc (.cells #[.int .i64 k, .int .i64 l, .slice b n c2] 53))) := hbx
  clear hbx ha hb
  go_enter Try.func63, Try.ntmps63
  go_wp2_with (first
    | (go_at_call 67; refine hS.mono ?_; rintro e w2 ⟨rfl, hb2⟩; have HBW : Hid (Below w.heap.size w w2) := HBX.out.trans (hb2.mono HBX.out.size); clear hb2))
  go_ret
  exact ⟨rfl, HBW.out⟩

end Go.Proofs.Ytmnahhojfcigmaa
