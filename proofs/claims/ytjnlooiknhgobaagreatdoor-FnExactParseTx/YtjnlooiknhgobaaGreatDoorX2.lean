/- The specification's copy of a ledger; the program's tables handed out as a ledger. The specification's copy of a ledger: two rows of new memory. What a result with a ledger is, and what the specification's NoteText answers. Refs that come in: their size is told, they are copied, two lists are compared. Outs that come in: their size is told, they are copied, two lists are compared. Outs and transactions that come in are copied into new memory. Lists of outs that come in are copied into new memory. Transactions that come in: two are compared, their size is told, they are copied. Transactions that come in are copied into new memory. Coins of the call's own: their row and their keys' rows; marks are written into them, and read back. Outs of the call's own: their row and their keys' rows; marks are written into them. The specification's text of a rule. The specification's text of a rule, the whole. -/
import Derived.Test.YtjnlooiknhgobaaGreatDoorX1
import Derived.Deep.RegionLaw
import Derived.Test.YtjnlooiknhgobaaGreatDoorRu
import Derived.OneCell
import Derived.Lib.ItoaMem
import Derived.Lib.ItoaNum
import Derived.Laws.BytesArg
import Derived.Deep.RegionWith
namespace Go.Proofs.YtjnlooiknhgobaaGreatDoor
open Go.RowKit Go.Maps Go.WideMaps
attribute [local go_sem ↓] Go.wp_at_zero Go.wp_at_succ

end Go.Proofs.YtjnlooiknhgobaaGreatDoor

namespace Go.Proofs.YtjnlooiknhgobaaGreatDoor
open Go.RowKit Go.Maps Go.WideMaps
attribute [local go_sem ↓] Go.wp_at_zero Go.wp_at_succ

end Go.Proofs.YtjnlooiknhgobaaGreatDoor

namespace Go.Proofs.YtjnlooiknhgobaaGreatDoor
open Go.RowKit Go.Maps Go.WideMaps


/-- Four cells of one block. -/
theorem cells4 {v : World} {b : Nat} {a0 a1 a2 a3 : Value} {t : TypeId} (h : v.heap[b]? = some (.cells #[a0, a1, a2, a3] t (0, 0))) :
    v.cell? ⟨b, 0, none⟩ = some a0 ∧ v.cell? ⟨b, 1, none⟩ = some a1 ∧ v.cell? ⟨b, 2, none⟩ = some a2 ∧ v.cell? ⟨b, 3, none⟩ = some a3 ∧ v.frozen? ⟨b, 0, none⟩ = false ∧ v.frozen? ⟨b, 1, none⟩ = false ∧ v.frozen? ⟨b, 2, none⟩ = false ∧ v.frozen? ⟨b, 3, none⟩ = false :=
  ⟨by unfold World.cell?; rw [h]; rfl, by unfold World.cell?; rw [h]; rfl, by unfold World.cell?; rw [h]; rfl, by unfold World.cell?; rw [h]; rfl, Joins.unfrozen_of_block h 0, Joins.unfrozen_of_block h 1, Joins.unfrozen_of_block h 2, Joins.unfrozen_of_block h 3⟩

theorem four_set {w : World} {b : Nat} {c0 c1 c2 c3 : Value} {t : TypeId} (h : w.heap[b]? = some (.cells #[c0, c1, c2, c3] t (0, 0))) (v0 v1 v2 v3 : Value) :
    (w.setCell ⟨b, 0, none⟩ v0).cell? ⟨b, 0, none⟩ = some v0 ∧ ((w.setCell ⟨b, 0, none⟩ v0).setCell ⟨b, 1, none⟩ v1).cell? ⟨b, 1, none⟩ = some v1 ∧ (((w.setCell ⟨b, 0, none⟩ v0).setCell ⟨b, 1, none⟩ v1).setCell ⟨b, 2, none⟩ v2).cell? ⟨b, 2, none⟩ = some v2 ∧
      ((((w.setCell ⟨b, 0, none⟩ v0).setCell ⟨b, 1, none⟩ v1).setCell ⟨b, 2, none⟩ v2).setCell ⟨b, 3, none⟩ v3).cell? ⟨b, 3, none⟩ = some v3 := by
  have h1 : (w.setCell ⟨b, 0, none⟩ v0).heap[b]? = some (.cells #[v0, c1, c2, c3] t (0, 0)) := by
    have := Joins.block_setCell (i := 0) h v0
    simpa using this
  have h2 : ((w.setCell ⟨b, 0, none⟩ v0).setCell ⟨b, 1, none⟩ v1).heap[b]? = some (.cells #[v0, v1, c2, c3] t (0, 0)) := by
    have := Joins.block_setCell (i := 1) h1 v1
    simpa using this
  have h3 : (((w.setCell ⟨b, 0, none⟩ v0).setCell ⟨b, 1, none⟩ v1).setCell ⟨b, 2, none⟩ v2).heap[b]? = some (.cells #[v0, v1, v2, c3] t (0, 0)) := by
    have := Joins.block_setCell (i := 2) h2 v2
    simpa using this
  have h4 : ((((w.setCell ⟨b, 0, none⟩ v0).setCell ⟨b, 1, none⟩ v1).setCell ⟨b, 2, none⟩ v2).setCell ⟨b, 3, none⟩ v3).heap[b]? = some (.cells #[v0, v1, v2, v3] t (0, 0)) := by
    have := Joins.block_setCell (i := 3) h3 v3
    simpa using this
  exact ⟨by unfold World.cell?; rw [h1]; rfl, by unfold World.cell?; rw [h2]; rfl, by unfold World.cell?; rw [h3]; rfl, by unfold World.cell?; rw [h4]; rfl⟩

end Go.Proofs.YtjnlooiknhgobaaGreatDoor

namespace Go.Proofs.YtjnlooiknhgobaaGreatDoor
open Go.RowKit Go.Maps

theorem Tryz.infoRef : (Tryz.prog.info? 67).map (fun i => (i.zero, i.size, i.bytes)) = some (some (.agg #[.int .i64 0, .int .i64 0]), 2, 16) := by kernel_rfl

theorem eqRef_any (a b : Int) (w : World) : Calls Tryz.prog 49 #[.agg #[.int .i64 a, .int .i64 b], .agg #[.int .i64 a, .int .i64 b]] w fun e w' => e = .returned (.bool true) ∧ Below w.heap.size w w' := by
  go_enter Tryz.func49, Tryz.ntmps49
  go_wp2
  go_ret
  exact ⟨rfl, ((Below.refl _ _).alloc (Nat.le_refl _) _).alloc (by simp) _⟩

set_option maxHeartbeats 400000 in
theorem eqRf_any (a b : Option Addr) (n c1 c2 : Nat) (gs : List (Int × Int)) (w : World) (hl : n ≤ 1048576) (ha : GAt w a n gs) (hb : GAt w b n gs) :
    Calls Tryz.prog 25 #[.slice a n c1, .slice b n c2] w fun e w' => e = .returned (.bool true) ∧ Below w.heap.size w w' := by
  have HA : Hid (GAt w a n gs) := ha
  have HB : Hid (GAt w b n gs) := hb
  clear ha hb
  go_enter Tryz.func25, Tryz.ntmps25
  go_wp2
  go_loopw [5] (fun i wr => ∃ k : Nat, k ≤ n ∧ i = .int .i64 k ∧ Below w.heap.size w wr) (fun i _ => n - (intOf i).toNat)
  case atStart => exact ⟨0, Nat.zero_le _, rfl, Below.refl _ _⟩
  case round =>
    obtain ⟨k, hk, rfl, hbel⟩ := hrel
    by_cases hlt : k < n
    · rcases HA.out.2 with h0 | ⟨b0, o0, e0, l0, d0⟩
      · omega
      subst e0
      rcases HB.out.2 with h0 | ⟨b1, o1, e1, l1, d1⟩
      · omega
      subst e1
      obtain ⟨g, hg⟩ : ∃ g, g = gs.getD k G0 := ⟨_, rfl⟩
      have y0 := d0 k hlt
      have y1 := d1 k hlt
      rw [← hg] at y0 y1
      obtain ⟨g1, g2⟩ := g
      have x0 := (hbel.cell (p := ⟨b0, o0 + k * 2, none⟩) l0).trans y0.1
      have x1 := (hbel.cell (p := ⟨b0, o0 + k * 2 + 1, none⟩) l0).trans y0.2
      have x2 := (hbel.cell (p := ⟨b1, o1 + k * 2, none⟩) l1).trans y1.1
      have x3 := (hbel.cell (p := ⟨b1, o1 + k * 2 + 1, none⟩) l1).trans y1.2
      clear hg d0 d1 y0 y1
      have hki : (k : Int) < (n : Int) := by omega
      have hw0 : b0 < wr.heap.size := Nat.lt_of_lt_of_le l0 hbel.size
      have hw1 : b1 < wr.heap.size := Nat.lt_of_lt_of_le l1 hbel.size
      have hcall : ∀ j, Calls Tryz.prog 49 #[.agg #[.int .i64 g1, .int .i64 g2], .agg #[.int .i64 g1, .int .i64 g2]] (wr.drewN j) fun e w' => e = .returned (.bool true) ∧ Below wr.heap.size wr w' := fun j => (eqRef_any g1 g2 _).mono fun e w' h => ⟨h.1, (Joins.below_draws _ wr j).trans h.2⟩
      go_wp2
      go_region_held3 (fun w' => w'.cell? ⟨b0, o0 + k * 2, none⟩ = some (.int .i64 g1) ∧ w'.cell? ⟨b0, o0 + k * 2 + 1, none⟩ = some (.int .i64 g2) ∧ w'.cell? ⟨b1, o1 + k * 2, none⟩ = some (.int .i64 g1) ∧ w'.cell? ⟨b1, o1 + k * 2 + 1, none⟩ = some (.int .i64 g2)) (go_keep)
        (first | (go_at_call 49; refine (hcall 1).mono ?_; rintro e w3 ⟨rfl, hb3⟩; have z0 := (hb3.cell (p := ⟨b0, o0 + k * 2, none⟩) hw0).trans x0; have z1 := (hb3.cell (p := ⟨b0, o0 + k * 2 + 1, none⟩) hw0).trans x1; have z2 := (hb3.cell (p := ⟨b1, o1 + k * 2, none⟩) hw1).trans x2; have z3 := (hb3.cell (p := ⟨b1, o1 + k * 2 + 1, none⟩) hw1).trans x3))
      go_wp2
      go_roundw
      case rel => exact ⟨k + 1, by omega, by go_num, hbel.trans (hb3.mono hbel.size)⟩
      case measure => simp [intOf]; omega
    · go_wp2
      go_ret
      exact ⟨rfl, hbel⟩

end Go.Proofs.YtjnlooiknhgobaaGreatDoor

namespace Go.Proofs.YtjnlooiknhgobaaGreatDoor
open Go.RowKit Go.Maps

structure Ou where
  v : Int
  l : List Int
  x : Int
  y : Int
def O0 : Ou := ⟨0, [], 0, 0⟩

/-- What a slice of outs leads to: four cells each, the keys behind the second. -/
def OAt (w : World) (a : Option Addr) (n : Nat) (os : List Ou) : Prop :=
  os.length = n ∧ (n = 0 ∨ ∃ b off, a = some ⟨b, off, none⟩ ∧ b < w.heap.size ∧ ∀ j, j < n → ∃ ka kn kc, w.cell? ⟨b, off + j * 4, none⟩ = some (.int .i64 (os.getD j O0).v) ∧ w.cell? ⟨b, off + j * 4 + 1, none⟩ = some (.slice ka kn kc) ∧
    w.cell? ⟨b, off + j * 4 + 2, none⟩ = some (.int .i64 (os.getD j O0).x) ∧ w.cell? ⟨b, off + j * 4 + 3, none⟩ = some (.int .i64 (os.getD j O0).y) ∧ kn ≤ maxLen ∧ IAt w ka kn (os.getD j O0).l)

theorem OAt.below {w w' : World} {a : Option Addr} {n : Nat} {os : List Ou} (h : OAt w a n os) {B : Nat} (hb : Below B w w') (hB : w.heap.size ≤ B) : OAt w' a n os := by
  obtain ⟨hn, h | ⟨b, off, rfl, hlt, hc⟩⟩ := h
  · exact ⟨hn, .inl h⟩
  · refine ⟨hn, .inr ⟨b, off, rfl, Nat.lt_of_lt_of_le hlt hb.size, fun j hj => ?_⟩⟩
    obtain ⟨ka, kn, kc, h0, h1, h2, h3, h4, h5⟩ := hc j hj
    have hl := Nat.lt_of_lt_of_le hlt hB
    exact ⟨ka, kn, kc, (hb.cell (p := ⟨b, off + j * 4, none⟩) hl).trans h0, (hb.cell (p := ⟨b, off + j * 4 + 1, none⟩) hl).trans h1, (hb.cell (p := ⟨b, off + j * 4 + 2, none⟩) hl).trans h2, (hb.cell (p := ⟨b, off + j * 4 + 3, none⟩) hl).trans h3, h4, h5.below hb hB⟩

end Go.Proofs.YtjnlooiknhgobaaGreatDoor

namespace Go.Proofs.YtjnlooiknhgobaaGreatDoor
open Go.RowKit Go.Maps Go.WideMaps

theorem Tryz.infoOut : (Tryz.prog.info? 50).map (fun i => (i.zero, i.size, i.bytes)) = some (some (.agg #[.int .i64 0, .slice none 0 0, .int .i64 0, .int .i64 0]), 4, 48) := by kernel_rfl

theorem res4 {w w2 : World} {b B : Nat} {c0 c1 c2 c3 : Value} {t : TypeId} (h : w.heap[b]? = some (.cells #[c0, c1, c2, c3] t (0, 0))) (hb : Below B w w2) (hB : b < B) :
    (w2.cell? ⟨b, 0, none⟩ = some c0 ∧ w2.cell? ⟨b, 1, none⟩ = some c1 ∧ w2.cell? ⟨b, 2, none⟩ = some c2 ∧ w2.cell? ⟨b, 3, none⟩ = some c3 ∧ w2.frozen? ⟨b, 0, none⟩ = false ∧ w2.frozen? ⟨b, 1, none⟩ = false ∧ w2.frozen? ⟨b, 2, none⟩ = false ∧ w2.frozen? ⟨b, 3, none⟩ = false) ∧ Hid (w2.heap[b]? = some (.cells #[c0, c1, c2, c3] t (0, 0))) := by
  have h2 := (hb.block b hB).trans h
  exact ⟨cells4 h2, h2⟩

end Go.Proofs.YtjnlooiknhgobaaGreatDoor

namespace Go.Proofs.YtjnlooiknhgobaaGreatDoor
open Go.RowKit Go.Maps Go.WideMaps

end Go.Proofs.YtjnlooiknhgobaaGreatDoor

namespace Go.Proofs.YtjnlooiknhgobaaGreatDoor
open Go.RowKit Go.Maps Go.WideMaps

set_option maxHeartbeats 400000 in
theorem eqOut_any (v : Int) (a b : Option Addr) (n c1 c2 : Nat) (l : List Int) (x y : Int) (w : World) (hl : n ≤ 1048576) (ha : IAt w a n l) (hb : IAt w b n l) :
    Calls Tryz.prog 50 #[.agg #[.int .i64 v, .slice a n c1, .int .i64 x, .int .i64 y], .agg #[.int .i64 v, .slice b n c2, .int .i64 x, .int .i64 y]] w fun e w' => e = .returned (.bool true) ∧ Below w.heap.size w w' := by
  have hbx : Below w.heap.size w ((w.alloc (.cells #[.int .i64 v, .slice a n c1, .int .i64 x, .int .i64 y] 50)).alloc (.cells #[.int .i64 v, .slice b n c2, .int .i64 x, .int .i64 y] 50)) := below_box2 _ _
  have hS := eqRu_any a b n c1 c2 l x y _ hl (ha.below hbx (Nat.le_refl _)) (hb.below hbx (Nat.le_refl _))
  have HBX : Hid (Below w.heap.size w ((w.alloc (.cells #[.int .i64 v, .slice a n c1, .int .i64 x, .int .i64 y] 50)).alloc (.cells #[.int .i64 v, .slice b n c2, .int .i64 x, .int .i64 y] 50))) := hbx
  clear hbx ha hb
  go_enter Tryz.func50, Tryz.ntmps50
  go_wp2_with (first
    | (go_at_call 72; refine hS.mono ?_; rintro e w2 ⟨rfl, hb2⟩; have HBW : Hid (Below w.heap.size w w2) := HBX.out.trans (hb2.mono (by simp; omega)); clear hb2))
  go_ret
  exact ⟨rfl, HBW.out⟩

set_option maxHeartbeats 1000000 in
theorem eqOs_any (a b : Option Addr) (n c1 c2 : Nat) (os : List Ou) (w : World) (hl : n ≤ 1048576) (hk : ∀ j, j < n → (os.getD j O0).l.length ≤ 1048576) (ha : OAt w a n os) (hb : OAt w b n os) :
    Calls Tryz.prog 26 #[.slice a n c1, .slice b n c2] w fun e w' => e = .returned (.bool true) ∧ Below w.heap.size w w' := by
  have HA : Hid (OAt w a n os) := ha
  have HB : Hid (OAt w b n os) := hb
  have HKL : Hid (∀ j, j < n → (os.getD j O0).l.length ≤ 1048576) := hk
  clear ha hb hk
  go_enter Tryz.func26, Tryz.ntmps26
  go_wp2
  go_loopw [5] (fun i wr => ∃ k : Nat, k ≤ n ∧ i = .int .i64 k ∧ Below w.heap.size w wr) (fun i _ => n - (intOf i).toNat)
  case atStart => exact ⟨0, Nat.zero_le _, rfl, Below.refl _ _⟩
  case round =>
    obtain ⟨k, hk, rfl, hbel⟩ := hrel
    by_cases hlt : k < n
    · rcases HA.out.2 with h0 | ⟨b0, o0, e0, l0, d0⟩
      · omega
      subst e0
      rcases HB.out.2 with h0 | ⟨b1, o1, e1, l1, d1⟩
      · omega
      subst e1
      obtain ⟨o, ho⟩ : ∃ o, o = os.getD k O0 := ⟨_, rfl⟩
      obtain ⟨ka, kn, kc, p0, p1, p2, p3, p4, p5⟩ := d0 k hlt
      obtain ⟨ja, jn, jc, q0, q1, q2, q3, q4, q5⟩ := d1 k hlt
      have hol := HKL.out k hlt
      rw [← ho] at p0 p2 p3 p5 q0 q2 q3 q5 hol
      obtain ⟨ov, ol, ox, oy⟩ := o
      obtain rfl := p5.1
      obtain rfl := q5.1
      simp only at p0 p1 p2 p3 q0 q1 q2 q3 hol p5 q5
      have x0 := (hbel.cell (p := ⟨b0, o0 + k * 4, none⟩) l0).trans p0
      have x1 := (hbel.cell (p := ⟨b0, o0 + k * 4 + 1, none⟩) l0).trans p1
      have x2 := (hbel.cell (p := ⟨b0, o0 + k * 4 + 2, none⟩) l0).trans p2
      have x3 := (hbel.cell (p := ⟨b0, o0 + k * 4 + 3, none⟩) l0).trans p3
      have y0 := (hbel.cell (p := ⟨b1, o1 + k * 4, none⟩) l1).trans q0
      have y1 := (hbel.cell (p := ⟨b1, o1 + k * 4 + 1, none⟩) l1).trans q1
      have y2 := (hbel.cell (p := ⟨b1, o1 + k * 4 + 2, none⟩) l1).trans q2
      have y3 := (hbel.cell (p := ⟨b1, o1 + k * 4 + 3, none⟩) l1).trans q3
      have hki : (k : Int) < (n : Int) := by omega
      have hw0 : b0 < wr.heap.size := Nat.lt_of_lt_of_le l0 hbel.size
      have hw1 : b1 < wr.heap.size := Nat.lt_of_lt_of_le l1 hbel.size
      have hcall : Calls Tryz.prog 50 #[.agg #[.int .i64 ov, .slice ka ol.length kc, .int .i64 ox, .int .i64 oy], .agg #[.int .i64 ov, .slice ja ol.length jc, .int .i64 ox, .int .i64 oy]] wr.drew fun e w' => e = .returned (.bool true) ∧ Below wr.heap.size wr w' :=
        (eqOut_any ov ka ja ol.length kc jc ol ox oy _ hol ((p5.below hbel (Nat.le_refl _)).below (Below.refl _ _).drew (Nat.le_refl _)) ((q5.below hbel (Nat.le_refl _)).below (Below.refl _ _).drew (Nat.le_refl _))).mono fun e w' h => ⟨h.1, (Below.refl _ _).drew.trans h.2⟩
      clear ho d0 d1 p0 p1 p2 p3 p4 p5 q0 q1 q2 q3 q4 q5 hol
      go_wp2
      go_region_held3 (fun w' => (w'.cell? ⟨b0, o0 + k * 4, none⟩ = some (.int .i64 ov) ∧ w'.cell? ⟨b0, o0 + k * 4 + 1, none⟩ = some (.slice ka ol.length kc) ∧ w'.cell? ⟨b0, o0 + k * 4 + 2, none⟩ = some (.int .i64 ox) ∧ w'.cell? ⟨b0, o0 + k * 4 + 3, none⟩ = some (.int .i64 oy)) ∧ w'.cell? ⟨b1, o1 + k * 4, none⟩ = some (.int .i64 ov) ∧ w'.cell? ⟨b1, o1 + k * 4 + 1, none⟩ = some (.slice ja ol.length jc) ∧ w'.cell? ⟨b1, o1 + k * 4 + 2, none⟩ = some (.int .i64 ox) ∧ w'.cell? ⟨b1, o1 + k * 4 + 3, none⟩ = some (.int .i64 oy)) (go_keep)
        (first | (go_at_call 50; refine hcall.mono ?_; rintro e w3 ⟨rfl, hb3⟩; have z0 := (hb3.cell (p := ⟨b0, o0 + k * 4, none⟩) hw0).trans x0; have z1 := (hb3.cell (p := ⟨b0, o0 + k * 4 + 1, none⟩) hw0).trans x1; have z2 := (hb3.cell (p := ⟨b0, o0 + k * 4 + 2, none⟩) hw0).trans x2; have z3 := (hb3.cell (p := ⟨b0, o0 + k * 4 + 3, none⟩) hw0).trans x3; have z4 := (hb3.cell (p := ⟨b1, o1 + k * 4, none⟩) hw1).trans y0; have z5 := (hb3.cell (p := ⟨b1, o1 + k * 4 + 1, none⟩) hw1).trans y1; have z6 := (hb3.cell (p := ⟨b1, o1 + k * 4 + 2, none⟩) hw1).trans y2; have z7 := (hb3.cell (p := ⟨b1, o1 + k * 4 + 3, none⟩) hw1).trans y3))
      go_wp2
      go_roundw
      case rel => exact ⟨k + 1, by omega, by go_num, hbel.trans (hb3.mono hbel.size)⟩
      case measure => simp [intOf]; omega
    · go_wp2
      go_ret
      exact ⟨rfl, hbel⟩

/-- What is known of a transaction: its refs and its outs. -/
structure TxAt (w : World) (ia : Option Addr) (n : Nat) (oa : Option Addr) (m : Nat) (rs : List (Int × Int)) (os : List Ou) : Prop where
  r : GAt w ia n rs
  o : OAt w oa m os
theorem TxAt.below {w w' : World} {ia oa : Option Addr} {n m : Nat} {rs : List (Int × Int)} {os : List Ou} (h : TxAt w ia n oa m rs os) {B : Nat} (hb : Below B w w') (hB : w.heap.size ≤ B) : TxAt w' ia n oa m rs os := ⟨h.r.below hb hB, h.o.below hb hB⟩

set_option maxHeartbeats 400000 in
theorem eqTx_any (k f : Int) (ia ib oa ob : Option Addr) (n m c0 c1 d0 d1 : Nat) (rs : List (Int × Int)) (os : List Ou) (w : World) (hn : n ≤ 1048576) (hm : m ≤ 1048576) (hk : ∀ j, j < m → (os.getD j O0).l.length ≤ 1048576) (ha : TxAt w ia n oa m rs os) (hb : TxAt w ib n ob m rs os) :
    Calls Tryz.prog 12 #[.agg #[.int .i64 k, .int .i64 f, .slice ia n c0, .slice oa m d0], .agg #[.int .i64 k, .int .i64 f, .slice ib n c1, .slice ob m d1]] w fun e w' => e = .returned (.bool true) ∧ Below w.heap.size w w' := by
  have hbx : Below w.heap.size w ((w.alloc (.cells #[.int .i64 k, .int .i64 f, .slice ia n c0, .slice oa m d0] 25)).alloc (.cells #[.int .i64 k, .int .i64 f, .slice ib n c1, .slice ob m d1] 25)) := below_box2 _ _
  have hS := eqRf_any ia ib n c0 c1 rs _ hn (ha.r.below hbx (Nat.le_refl _)) (hb.r.below hbx (Nat.le_refl _))
  have T0 := show Hid (((w.alloc (.cells #[.int .i64 k, .int .i64 f, .slice ia n c0, .slice oa m d0] 25)).alloc (.cells #[.int .i64 k, .int .i64 f, .slice ib n c1, .slice ob m d1] 25)).heap[w.heap.size]? = some (.cells #[.int .i64 k, .int .i64 f, .slice ia n c0, .slice oa m d0] 25 (0, 0))) from block_at2
  have T1 := show Hid (((w.alloc (.cells #[.int .i64 k, .int .i64 f, .slice ia n c0, .slice oa m d0] 25)).alloc (.cells #[.int .i64 k, .int .i64 f, .slice ib n c1, .slice ob m d1] 25)).heap[w.heap.size + 1]? = some (.cells #[.int .i64 k, .int .i64 f, .slice ib n c1, .slice ob m d1] 25 (0, 0))) from heap_alloc_at _ _ _ (by simp)
  have HBX : Hid (Below w.heap.size w ((w.alloc (.cells #[.int .i64 k, .int .i64 f, .slice ia n c0, .slice oa m d0] 25)).alloc (.cells #[.int .i64 k, .int .i64 f, .slice ib n c1, .slice ob m d1] 25))) := hbx
  have HA : Hid (OAt w oa m os) := ha.o
  have HB : Hid (OAt w ob m os) := hb.o
  have HK : Hid (∀ j, j < m → (os.getD j O0).l.length ≤ 1048576) := hk
  clear hbx ha hb hk
  go_enter Tryz.func12, Tryz.ntmps12
  go_wp2_with (first
    | (go_at_call 25; refine hS.mono ?_; rintro e w2 ⟨rfl, hb2⟩; obtain ⟨⟨p0, p1, p2, p3, _⟩, _⟩ := res4 T0.out hb2 (by simp; omega); obtain ⟨⟨q0, q1, q2, q3, _⟩, _⟩ := res4 T1.out hb2 (by simp); have hbw : Below w.heap.size w w2 := HBX.out.trans (hb2.mono (by simp; omega)); have hO := eqOs_any oa ob m d0 d1 os w2 hm HK.out (HA.out.below hbw (Nat.le_refl _)) (HB.out.below hbw (Nat.le_refl _)); clear hb2)
    | (go_at_call 26; refine hO.mono ?_; rintro e w3 ⟨rfl, hb3⟩))
  go_ret
  exact ⟨rfl, hbw.trans (hb3.mono hbw.size)⟩

end Go.Proofs.YtjnlooiknhgobaaGreatDoor

namespace Go.Proofs.YtjnlooiknhgobaaGreatDoor
open Go.RowKit Go.Maps Go.WideMaps


end Go.Proofs.YtjnlooiknhgobaaGreatDoor

namespace Go.Proofs.YtjnlooiknhgobaaGreatDoor
open Go.RowKit Go.Maps Go.WideMaps

set_option maxHeartbeats 400000 in
theorem markK_any (v : Value) (n base k : Nat) (xs : List Value) (w : World) (hkn : k + n ≤ 4611686018427387904) (ho : w.ownsRow base 2 1 v n xs) :
    Calls Tryz.prog 51 #[v, .int .i64 k] w fun e w' => e = .returned (.int .i64 (k + n : Nat)) ∧ w'.ownsRow base 2 1 v n (mkI k n) ∧ w.grownBy w' v.ownBlock := by
  rcases id ho.2 with ⟨rfl, rfl⟩ | ⟨g, cap, cur, rfl, hbg, hgg, hnc, hcm, _⟩
  · go_enter Tryz.func51, Tryz.ntmps51
    go_wp2
    refine wp_loop_rounds 1 ?_
    rw [rounds_succ]
    go_wp2
    go_ret
    exact ⟨rfl, World.ownsRow_nil _ _ _ _, World.grownBy.refl _ _⟩
  · have HO : Hid (w.ownsRow base 2 1 (.slice (some ⟨g, 0, none⟩) n cap) n xs) := ho
    clear ho hbg hgg hnc hcm
    go_enter Tryz.func51, Tryz.ntmps51
    go_wp2
    go_loopw [1, 5] (fun a i wr => ∃ j : Nat, j ≤ n ∧ i = .int .i64 j ∧ a = .int .i64 (k + j : Nat) ∧ Hid (w.grownBy wr (some g)) ∧ Hid (∃ xs, wr.ownsRow base 2 1 (.slice (some ⟨g, 0, none⟩) n cap) n xs ∧ ∀ t, t < j → xs[t]? = some (.int .i64 (k + t : Nat)))) (fun _ i _ => n - (intOf i).toNat)
    case atStart => exact ⟨0, Nat.zero_le _, rfl, rfl, World.grownBy.refl _ _, xs, HO.out, fun t ht => by omega⟩
    case round =>
      obtain ⟨j, hj, rfl, rfl, HG, HX⟩ := hrel
      by_cases hlt : j < n
      · obtain ⟨u, c0, f0, HR⟩ := markI_round hlt HG.out HX.out (a := (k : Int) + (j : Int)) (by omega)
        go_wp2
        go_roundw
        case rel => exact ⟨j + 1, by omega, by go_num, by go_num, HR.out.1, HR.out.2⟩
        case measure => simp [intOf]; omega
      · go_wp2
        go_ret
        obtain ⟨ys, h1, h2⟩ := HX.out
        have hjn : j = n := by omega
        subst hjn
        refine ⟨rfl, ?_, HG.out⟩
        rw [← mkI_of h1.1 h2]
        exact h1

set_option maxHeartbeats 400000 in
theorem heldK_any (v : Value) (n base k : Nat) (w : World) (hkn : k + n ≤ 4611686018427387904) (ho : w.ownsRow base 2 1 v n (mkI k n)) :
    Calls Tryz.prog 52 #[v, .int .i64 k] w fun e w' => e = .returned (.int .i64 (k + n : Nat)) ∧ w' = w := by
  rcases id ho.2 with ⟨rfl, rfl⟩ | ⟨g, cap, cur, rfl, hbg, hgg, hnc, hcm, _⟩
  · go_enter Tryz.func52, Tryz.ntmps52
    go_wp2
    refine wp_loop_rounds 1 ?_
    rw [rounds_succ]
    go_wp2
    go_ret
    exact ⟨rfl, rfl⟩
  · have HO : Hid (w.ownsRow base 2 1 (.slice (some ⟨g, 0, none⟩) n cap) n (mkI k n)) := ho
    clear ho hbg hgg hnc hcm
    go_enter Tryz.func52, Tryz.ntmps52
    go_wp2
    go_loop [1, 5] (fun a i => ∃ j : Nat, j ≤ n ∧ i = .int .i64 j ∧ a = .int .i64 (k + j : Nat)) (fun _ i => n - (intOf i).toNat)
    case atStart => exact ⟨0, Nat.zero_le _, rfl, rfl⟩
    case round =>
      obtain ⟨j, hj, rfl, rfl⟩ := hrel
      by_cases hlt : j < n
      · have c0 : w.cell? ⟨g, j, none⟩ = some (.int .i64 ((k : Int) + (j : Int))) := (HO.out.cellAt j (by omega)).trans (by rw [mkI_at hlt]; simp)
        go_wp2
        go_round
        case rel => exact ⟨j + 1, by omega, by go_num, by go_num⟩
        case measure => simp [intOf]; omega
      · go_wp2
        go_ret
        have hjn : j = n := by omega
        subst hjn
        exact ⟨rfl, rfl⟩

theorem Chg.refl (w : World) (lo hi : Nat) : Chg w w lo hi := ⟨rfl, rfl, rfl, Nat.le_refl _, fun _ _ _ => rfl⟩
theorem Chg.setCell {w W : World} {lo hi g t : Nat} (h : Chg w W lo hi) (hg : lo ≤ g ∧ g < hi) (u : Value) : Chg w (W.setCell ⟨g, t, none⟩ u) lo hi :=
  ⟨h.os, h.tape, h.output, by simpa using h.size, fun b hb ho => (Below.heap_setCell _ ⟨g, t, none⟩ u b (show b ≠ g by omega)).trans (h.block b hb ho)⟩

def mkKs (k n : Nat) : List Int := (List.range n).map fun t => ((k + t : Nat) : Int)
theorem ints_mkKs (k n : Nat) : ints (mkKs k n) = mkI k n := by simp [ints, mkKs, mkI]
theorem mkKs_length (k n : Nat) : (mkKs k n).length = n := by simp [mkKs]
end Go.Proofs.YtjnlooiknhgobaaGreatDoor

namespace Go.Proofs.YtjnlooiknhgobaaGreatDoor
open Go.RowKit Go.Maps Go.WideMaps

def CellsO (xs : List Value) (j : Nat) (o : Ou) (u : Value) : Prop :=
  xs[j * 4]? = some (.int .i64 o.v) ∧ xs[j * 4 + 1]? = some u ∧ xs[j * 4 + 2]? = some (.int .i64 o.x) ∧ xs[j * 4 + 3]? = some (.int .i64 o.y)
structure OOwn (w : World) (lo hi : Nat) (v : Value) (n : Nat) (f : Nat → Ou) (kv : Nat → Value) : Prop where
  row : ∃ xs, w.ownsRow lo 50 4 v n xs ∧ ∀ j, j < n → CellsO xs j (f j) (kv j)
  top : ∀ b, v.ownBlock = some b → b < hi
  keys : ∀ j, j < n → w.ownsRow lo 2 1 (kv j) (f j).l.length (ints (f j).l) ∧ ∀ b, (kv j).ownBlock = some b → b < hi
  apart : ∀ i j, i < j → j < n → ∀ b, (kv i).ownBlock = some b → (kv j).ownBlock ≠ some b
theorem OOwn.below {w w' : World} {lo hi n : Nat} {v : Value} {f : Nat → Ou} {kv : Nat → Value} (h : OOwn w lo hi v n f kv) (hb : Below w.heap.size w w') : OOwn w' lo hi v n f kv := by
  obtain ⟨xs, h1, h2⟩ := h.row
  exact ⟨⟨xs, h1.kept (grown_of_below hb) (by cases Value.ownBlock v <;> simp), h2⟩, h.top, fun j hj => ⟨(h.keys j hj).1.kept (grown_of_below hb) (by cases Value.ownBlock (kv j) <;> simp), (h.keys j hj).2⟩, h.apart⟩
theorem OOwn.chg {w w' : World} {lo hi n lo' hi' : Nat} {v : Value} {f : Nat → Ou} {kv : Nat → Value} (h : OOwn w lo hi v n f kv) (hc : Chg w w' lo' hi') (hd : hi ≤ lo' ∨ hi' ≤ lo) : OOwn w' lo hi v n f kv := by
  obtain ⟨xs, h1, h2⟩ := h.row
  refine ⟨⟨xs, hc.row h1 fun k hk => ?_, h2⟩, h.top, fun j hj => ⟨hc.row (h.keys j hj).1 fun k hk => ?_, (h.keys j hj).2⟩, h.apart⟩
  · have a := h.top k hk
    have b := (h1.lt k hk).1
    omega
  · have a := (h.keys j hj).2 k hk
    have b := ((h.keys j hj).1.lt k hk).1
    omega
theorem OOwn.at {w : World} {lo hi n g c : Nat} {os : List Ou} {kv : Nat → Value} (h : OOwn w lo hi (.slice (some ⟨g, 0, none⟩) n c) n (fun j => os.getD j O0) kv) (hn : os.length = n) (hl : ∀ j, j < n → (os.getD j O0).l.length ≤ 1048576) : OAt w (some ⟨g, 0, none⟩) n os := by
  obtain ⟨xs, h1, h2⟩ := h.row
  have hxl := h1.1
  refine ⟨hn, .inr ⟨g, 0, rfl, (h1.lt g rfl).2, fun j hj => ?_⟩⟩
  obtain ⟨e0, e1, e2, e3⟩ := h2 j hj
  have hk := (h.keys j hj).1
  obtain ⟨ka, kc, hkv⟩ : ∃ ka kc, kv j = .slice ka (os.getD j O0).l.length kc := by
    rcases hk.2 with ⟨q, q0⟩ | ⟨gg, cap, cur, q, _⟩
    · exact ⟨none, 0, by rw [q, q0]⟩
    · exact ⟨_, cap, q⟩
  rw [hkv] at e1 hk
  refine ⟨ka, (os.getD j O0).l.length, kc, ?_, ?_, ?_, ?_, by have := hl j hj; unfold maxLen; omega, IAt.owned hk rfl⟩
  · rw [Nat.zero_add, h1.cellAt (j * 4) (by omega), e0]
  · rw [Nat.zero_add, h1.cellAt (j * 4 + 1) (by omega), e1]
  · rw [Nat.zero_add, h1.cellAt (j * 4 + 2) (by omega), e2]
  · rw [Nat.zero_add, h1.cellAt (j * 4 + 3) (by omega), e3]

end Go.Proofs.YtjnlooiknhgobaaGreatDoor

namespace Go.Proofs.YtjnlooiknhgobaaGreatDoor
open Go.RowKit Go.Shelf Go.Maps Go.WideMaps

def str (l : List UInt8) : ByteArray := ⟨l.toArray⟩

/-- A text of one byte, out of a slice of one. -/
theorem conv1 (c : Int) (W : World) (b cap : Nat) (h : W.cell? ⟨b, 0, none⟩ = some (.int .u8 c)) : (convert 70 9 (.slice (some ⟨b, 0, none⟩) 1 cap)).run Tryz.prog W = .ok (.string (str [UInt8.ofNat c.toNat])) W := by
  have := run_convert_bytes_arg W 70 5 Tryz.underlying70 Tryz.underlying5 b 0 1 cap [c] rfl (fun i hi => by
    obtain rfl : i = 0 := by omega
    simpa using h) 9 Tryz.underlying9
  rw [this]
  rfl
theorem conv1_new (c : Int) (W : World) (t : TypeId) (cap : Nat) : (convert 70 9 (.slice (some ⟨W.heap.size, 0, none⟩) 1 cap)).run Tryz.prog (W.alloc (.cells #[.int .u8 c] t)) = .ok (.string (str [UInt8.ofNat c.toNat])) (W.alloc (.cells #[.int .u8 c] t)) :=
  conv1 c _ _ cap (new1 W (.int .u8 c) t).1

theorem byte_kept {w w2 : World} {c : Int} {t : TypeId} (hb : Below (w.alloc (.cells #[.int .u8 c] t)).drew.heap.size (w.alloc (.cells #[.int .u8 c] t)).drew w2) : w2.cell? ⟨w.heap.size, 0, none⟩ = some (.int .u8 c) :=
  (hb.cell (p := ⟨w.heap.size, 0, none⟩) (by simp)).trans (new1 w (.int .u8 c) t).1

theorem str_append (a b : List UInt8) : str a ++ str b = str (a ++ b) := by
  apply ByteArray.ext
  simp [str]
theorem digits_len (q : Nat) (h : q ≤ 1000000000) : (Lib.decDigits q).length ≤ 10 := by
  have key : ∀ k q : Nat, q < 10 ^ k → 1 ≤ k → (Lib.decDigits q).length ≤ k := by
    intro k
    induction k with
    | zero => intro q _ h; omega
    | succ k ih =>
      intro q hq _
      rw [Lib.decDigits]
      split
      · simp
      · rw [List.length_append]
        have hk : 1 ≤ k := by
          rcases Nat.eq_zero_or_pos k with rfl | h
          · simp at hq; omega
          · exact h
        have := ih (q / 10) (by rw [Nat.pow_succ] at hq; omega) hk
        simp; omega
  exact key 10 q (by omega) (by omega)

set_option maxRecDepth 20000 in
set_option maxHeartbeats 1000000 in
theorem l2Digits_any (n : Nat) (hn : n ≤ 1000000000) : ∀ (w : World), Calls Tryz.prog 37 #[.int .i64 n] w fun e w' => e = .returned (.string (str (Lib.decDigits n))) ∧ Below w.heap.size w w' := by
  induction n using Nat.strongRecOn with
  | ind n ih =>
    intro w
    by_cases h : n < 10
    · rw [Lib.decDigits_one h]
      have hcv := conv1_new (48 + n) w 5 1
      have he : UInt8.ofNat (48 + (n : Int)).toNat = UInt8.ofNat (48 + n) := by congr 1
      rw [he] at hcv
      obtain ⟨ch, hch⟩ : ∃ c, c = UInt8.ofNat (48 + n) := ⟨_, rfl⟩
      rw [← hch] at hcv ⊢
      clear ih he hch
      go_enter Tryz.func37, Tryz.ntmps37
      go_wp2
      go_ret
      exact ⟨rfl, below_box _⟩
    · have ih' := ih (n / 10) (by omega) (by omega)
      have hd : Lib.decDigits n = Lib.decDigits (n / 10) ++ [UInt8.ofNat (48 + n % 10)] := by rw [Lib.decDigits, dif_neg h]
      obtain ⟨d, hdd⟩ : ∃ d, d = n % 10 := ⟨_, rfl⟩
      obtain ⟨q, hq⟩ : ∃ q, q = n / 10 := ⟨_, rfl⟩
      rw [hd, ← hq, ← hdd]
      rw [← hq] at ih'
      have a0 : IntKind.i64.wrap ((n : Int) / 10) = (q : Int) := by rw [IntWalk.i64_in _ (by omega)]; omega
      have a1 : (n : Int).tmod 10 = (d : Int) := by rw [Int.tmod_eq_emod_of_nonneg (by omega)]; omega
      have a2 : IntKind.i64.wrap (48 + (d : Int)) = 48 + (d : Int) := IntWalk.i64_in _ (by omega)
      have a3 : IntKind.u8.wrap (48 + (d : Int)) = 48 + (d : Int) := IntWalk.u8_in _ (by omega)
      obtain ⟨ch, hch⟩ : ∃ c, c = UInt8.ofNat (48 + d) := ⟨_, rfl⟩
      have HCV : Hid (∀ (W : World) (b : Nat), W.cell? ⟨b, 0, none⟩ = some (.int .u8 (48 + (d : Int))) → (convert 70 9 (.slice (some ⟨b, 0, none⟩) 1 1)).run Tryz.prog W = .ok (.string (str [ch])) W) := fun W b hW => by
        have := conv1 (48 + (d : Int)) W b 1 hW
        have he : UInt8.ofNat (48 + (d : Int)).toNat = UInt8.ofNat (48 + d) := by congr 1
        rw [he, ← hch] at this
        exact this
      have hcn : ∀ W : World, (convert 70 9 (.slice (some ⟨W.heap.size, 0, none⟩) 1 1)).run Tryz.prog (W.alloc (.cells #[.int .u8 (48 + (d : Int))] 5)) = .ok (.string (str [ch])) (W.alloc (.cells #[.int .u8 (48 + (d : Int))] 5)) := fun W => HCV.out _ _ (new1 W _ _).1
      have hcd : ∀ W : World, (convert 70 9 (.slice (some ⟨W.heap.size, 0, none⟩) 1 1)).run Tryz.prog (W.alloc (.cells #[.int .u8 (48 + (d : Int))] 5)).drew = .ok (.string (str [ch])) (W.alloc (.cells #[.int .u8 (48 + (d : Int))] 5)).drew := fun W => HCV.out _ _ (new1 W _ _).1
      rw [← hch]
      obtain ⟨qs, hqs⟩ : ∃ l, l = Lib.decDigits q := ⟨_, rfl⟩
      rw [← hqs] at ih' ⊢
      have hql : qs.length ≤ 10 := by rw [hqs]; exact digits_len q (by omega)
      have hap : str qs ++ str [ch] = str (qs ++ [ch]) := str_append _ _
      have hsz1 : (str qs).size ≤ 10 := hql
      have hsz2 : (str [ch]).size = 1 := rfl
      clear ih hd hch hqs hq hdd
      go_enter Tryz.func37, Tryz.ntmps37
      go_wp2
      go_region_with (first | (go_at_call 37; refine (ih' _).mono ?_; rintro e w2 ⟨rfl, hb2⟩; (first | (have hcw := HCV.out w2 w.heap.size (byte_kept hb2)) | skip)))
      all_goals
        go_wp2
        go_ret
      all_goals refine ⟨rfl, ?_⟩
      all_goals first | exact ((Below.refl w.heap.size w).drew.trans hb2).trans ((below_box _).mono hb2.size) | exact (below_box (.cells #[.int .u8 (48 + (d : Int))] 5)).drew.trans (hb2.mono (by simp))

end Go.Proofs.YtjnlooiknhgobaaGreatDoor

namespace Go.Proofs.YtjnlooiknhgobaaGreatDoor
open Go.RowKit Go.Shelf Go.Maps Go.WideMaps

def dec (k : Int) : List UInt8 := Lib.decDigits k.toNat
def tailT : List Int → List UInt8
  | [] => []
  | k :: t => 44 :: (dec k ++ tailT t)
def keysT : List Int → List UInt8
  | [] => []
  | k :: t => dec k ++ tailT t
def aftT (y : Int) : List UInt8 := if y = 0 then [] else [32, 97, 102, 116, 101, 114, 32] ++ dec y
def rtxR (l : List Int) (x y : Int) : List UInt8 := dec x ++ [32, 111, 102, 32] ++ keysT l ++ aftT y

theorem tailT_snoc (l : List Int) (k : Int) : tailT (l ++ [k]) = tailT l ++ (44 :: dec k) := by
  induction l with
  | nil => simp [tailT]
  | cons a t ih => simp [tailT, ih]
theorem keysT_snoc {l : List Int} (h : l ≠ []) (k : Int) : keysT (l ++ [k]) = keysT l ++ (44 :: dec k) := by
  cases l with
  | nil => exact absurd rfl h
  | cons a t => simp [keysT, tailT_snoc]
theorem dec_len {k : Int} (h : k ≤ 999) : (dec k).length ≤ 10 := digits_len _ (by omega)
theorem digits_int {k : Int} (h0 : 0 ≤ k) (h1 : k ≤ 999) (w : World) : Calls Tryz.prog 37 #[.int .i64 k] w fun e w' => e = .returned (.string (str (dec k))) ∧ Below w.heap.size w w' := by
  obtain ⟨n, rfl⟩ := Int.eq_ofNat_of_zero_le h0
  exact l2Digits_any n (by omega) w

end Go.Proofs.YtjnlooiknhgobaaGreatDoor
