/- Coins that come in: their size is told, they are copied into new memory, two lists are compared. Lists of coins that come in are copied into new memory; two lists are compared. Coins of the call's own: their row and their keys' rows; marks are written into them, and read back. -/
import Derived.Test.YtacjgnefomdoaaaGreatDoorTxA
import Derived.Test.YtacjgnefomdoaaaGreatDoorSignsOf
import Derived.OneCell
namespace Go.Proofs.YtacjgnefomdoaaaGreatDoor
open Go.RowKit Go.Maps Go.WideMaps

section
variable {w w2 W v : World} {b B : Nat} {c0 c1 c2 c3 c4 c5 c6 c7 : Value} {t : TypeId}
theorem cells8 (h : v.heap[b]? = some (.cells #[c0, c1, c2, c3, c4, c5, c6, c7] t (0, 0))) :
    (v.cell? ⟨b, 0, none⟩ = some c0 ∧ v.cell? ⟨b, 1, none⟩ = some c1 ∧ v.cell? ⟨b, 2, none⟩ = some c2 ∧ v.cell? ⟨b, 3, none⟩ = some c3 ∧ v.cell? ⟨b, 4, none⟩ = some c4 ∧ v.cell? ⟨b, 5, none⟩ = some c5 ∧ v.cell? ⟨b, 6, none⟩ = some c6 ∧ v.cell? ⟨b, 7, none⟩ = some c7) ∧ (v.frozen? ⟨b, 0, none⟩ = false ∧ v.frozen? ⟨b, 1, none⟩ = false ∧ v.frozen? ⟨b, 2, none⟩ = false ∧ v.frozen? ⟨b, 3, none⟩ = false ∧ v.frozen? ⟨b, 4, none⟩ = false ∧ v.frozen? ⟨b, 5, none⟩ = false ∧ v.frozen? ⟨b, 6, none⟩ = false ∧ v.frozen? ⟨b, 7, none⟩ = false) :=
  ⟨⟨by unfold World.cell?; rw [h]; rfl, by unfold World.cell?; rw [h]; rfl, by unfold World.cell?; rw [h]; rfl, by unfold World.cell?; rw [h]; rfl, by unfold World.cell?; rw [h]; rfl, by unfold World.cell?; rw [h]; rfl, by unfold World.cell?; rw [h]; rfl, by unfold World.cell?; rw [h]; rfl⟩, Joins.unfrozen_of_block h 0, Joins.unfrozen_of_block h 1, Joins.unfrozen_of_block h 2, Joins.unfrozen_of_block h 3, Joins.unfrozen_of_block h 4, Joins.unfrozen_of_block h 5, Joins.unfrozen_of_block h 6, Joins.unfrozen_of_block h 7⟩
theorem set8_1 (h : W.heap[b]? = some (.cells #[c0, c1, c2, c3, c4, c5, c6, c7] t (0, 0))) (v0 : Value) : (W.setCell ⟨b, 0, none⟩ v0).heap[b]? = some (.cells #[v0, c1, c2, c3, c4, c5, c6, c7] t (0, 0)) := by
  have := Joins.block_setCell (i := 0) h v0
  simpa using this
theorem set8_2 (h : W.heap[b]? = some (.cells #[c0, c1, c2, c3, c4, c5, c6, c7] t (0, 0))) (v0 v1 : Value) : ((W.setCell ⟨b, 0, none⟩ v0).setCell ⟨b, 1, none⟩ v1).heap[b]? = some (.cells #[v0, v1, c2, c3, c4, c5, c6, c7] t (0, 0)) := by
  have := Joins.block_setCell (i := 1) (set8_1 h v0) v1
  simpa using this
theorem set8_3 (h : W.heap[b]? = some (.cells #[c0, c1, c2, c3, c4, c5, c6, c7] t (0, 0))) (v0 v1 v2 : Value) : (((W.setCell ⟨b, 0, none⟩ v0).setCell ⟨b, 1, none⟩ v1).setCell ⟨b, 2, none⟩ v2).heap[b]? = some (.cells #[v0, v1, v2, c3, c4, c5, c6, c7] t (0, 0)) := by
  have := Joins.block_setCell (i := 2) (set8_2 h v0 v1) v2
  simpa using this
theorem set8_4 (h : W.heap[b]? = some (.cells #[c0, c1, c2, c3, c4, c5, c6, c7] t (0, 0))) (v0 v1 v2 v3 : Value) : ((((W.setCell ⟨b, 0, none⟩ v0).setCell ⟨b, 1, none⟩ v1).setCell ⟨b, 2, none⟩ v2).setCell ⟨b, 3, none⟩ v3).heap[b]? = some (.cells #[v0, v1, v2, v3, c4, c5, c6, c7] t (0, 0)) := by
  have := Joins.block_setCell (i := 3) (set8_3 h v0 v1 v2) v3
  simpa using this
theorem set8_5 (h : W.heap[b]? = some (.cells #[c0, c1, c2, c3, c4, c5, c6, c7] t (0, 0))) (v0 v1 v2 v3 v4 : Value) : (((((W.setCell ⟨b, 0, none⟩ v0).setCell ⟨b, 1, none⟩ v1).setCell ⟨b, 2, none⟩ v2).setCell ⟨b, 3, none⟩ v3).setCell ⟨b, 4, none⟩ v4).heap[b]? = some (.cells #[v0, v1, v2, v3, v4, c5, c6, c7] t (0, 0)) := by
  have := Joins.block_setCell (i := 4) (set8_4 h v0 v1 v2 v3) v4
  simpa using this
theorem set8_6 (h : W.heap[b]? = some (.cells #[c0, c1, c2, c3, c4, c5, c6, c7] t (0, 0))) (v0 v1 v2 v3 v4 v5 : Value) : ((((((W.setCell ⟨b, 0, none⟩ v0).setCell ⟨b, 1, none⟩ v1).setCell ⟨b, 2, none⟩ v2).setCell ⟨b, 3, none⟩ v3).setCell ⟨b, 4, none⟩ v4).setCell ⟨b, 5, none⟩ v5).heap[b]? = some (.cells #[v0, v1, v2, v3, v4, v5, c6, c7] t (0, 0)) := by
  have := Joins.block_setCell (i := 5) (set8_5 h v0 v1 v2 v3 v4) v5
  simpa using this
theorem set8_7 (h : W.heap[b]? = some (.cells #[c0, c1, c2, c3, c4, c5, c6, c7] t (0, 0))) (v0 v1 v2 v3 v4 v5 v6 : Value) : (((((((W.setCell ⟨b, 0, none⟩ v0).setCell ⟨b, 1, none⟩ v1).setCell ⟨b, 2, none⟩ v2).setCell ⟨b, 3, none⟩ v3).setCell ⟨b, 4, none⟩ v4).setCell ⟨b, 5, none⟩ v5).setCell ⟨b, 6, none⟩ v6).heap[b]? = some (.cells #[v0, v1, v2, v3, v4, v5, v6, c7] t (0, 0)) := by
  have := Joins.block_setCell (i := 6) (set8_6 h v0 v1 v2 v3 v4 v5) v6
  simpa using this
theorem set8_8 (h : W.heap[b]? = some (.cells #[c0, c1, c2, c3, c4, c5, c6, c7] t (0, 0))) (v0 v1 v2 v3 v4 v5 v6 v7 : Value) : ((((((((W.setCell ⟨b, 0, none⟩ v0).setCell ⟨b, 1, none⟩ v1).setCell ⟨b, 2, none⟩ v2).setCell ⟨b, 3, none⟩ v3).setCell ⟨b, 4, none⟩ v4).setCell ⟨b, 5, none⟩ v5).setCell ⟨b, 6, none⟩ v6).setCell ⟨b, 7, none⟩ v7).heap[b]? = some (.cells #[v0, v1, v2, v3, v4, v5, v6, v7] t (0, 0)) := by
  have := Joins.block_setCell (i := 7) (set8_7 h v0 v1 v2 v3 v4 v5 v6) v7
  simpa using this
theorem eight_set (h : W.heap[b]? = some (.cells #[c0, c1, c2, c3, c4, c5, c6, c7] t (0, 0))) (v0 v1 v2 v3 v4 v5 v6 v7 : Value) :
    (W.setCell ⟨b, 0, none⟩ v0).cell? ⟨b, 0, none⟩ = some v0 ∧ ((W.setCell ⟨b, 0, none⟩ v0).setCell ⟨b, 1, none⟩ v1).cell? ⟨b, 1, none⟩ = some v1 ∧ (((W.setCell ⟨b, 0, none⟩ v0).setCell ⟨b, 1, none⟩ v1).setCell ⟨b, 2, none⟩ v2).cell? ⟨b, 2, none⟩ = some v2 ∧ ((((W.setCell ⟨b, 0, none⟩ v0).setCell ⟨b, 1, none⟩ v1).setCell ⟨b, 2, none⟩ v2).setCell ⟨b, 3, none⟩ v3).cell? ⟨b, 3, none⟩ = some v3 ∧ (((((W.setCell ⟨b, 0, none⟩ v0).setCell ⟨b, 1, none⟩ v1).setCell ⟨b, 2, none⟩ v2).setCell ⟨b, 3, none⟩ v3).setCell ⟨b, 4, none⟩ v4).cell? ⟨b, 4, none⟩ = some v4 ∧ ((((((W.setCell ⟨b, 0, none⟩ v0).setCell ⟨b, 1, none⟩ v1).setCell ⟨b, 2, none⟩ v2).setCell ⟨b, 3, none⟩ v3).setCell ⟨b, 4, none⟩ v4).setCell ⟨b, 5, none⟩ v5).cell? ⟨b, 5, none⟩ = some v5 ∧ (((((((W.setCell ⟨b, 0, none⟩ v0).setCell ⟨b, 1, none⟩ v1).setCell ⟨b, 2, none⟩ v2).setCell ⟨b, 3, none⟩ v3).setCell ⟨b, 4, none⟩ v4).setCell ⟨b, 5, none⟩ v5).setCell ⟨b, 6, none⟩ v6).cell? ⟨b, 6, none⟩ = some v6 ∧ ((((((((W.setCell ⟨b, 0, none⟩ v0).setCell ⟨b, 1, none⟩ v1).setCell ⟨b, 2, none⟩ v2).setCell ⟨b, 3, none⟩ v3).setCell ⟨b, 4, none⟩ v4).setCell ⟨b, 5, none⟩ v5).setCell ⟨b, 6, none⟩ v6).setCell ⟨b, 7, none⟩ v7).cell? ⟨b, 7, none⟩ = some v7 :=
  ⟨(cells8 (set8_1 h v0)).1.1, (cells8 (set8_2 h v0 v1)).1.2.1, (cells8 (set8_3 h v0 v1 v2)).1.2.2.1, (cells8 (set8_4 h v0 v1 v2 v3)).1.2.2.2.1, (cells8 (set8_5 h v0 v1 v2 v3 v4)).1.2.2.2.2.1, (cells8 (set8_6 h v0 v1 v2 v3 v4 v5)).1.2.2.2.2.2.1, (cells8 (set8_7 h v0 v1 v2 v3 v4 v5 v6)).1.2.2.2.2.2.2.1, (cells8 (set8_8 h v0 v1 v2 v3 v4 v5 v6 v7)).1.2.2.2.2.2.2.2⟩
theorem below_set8 (h : Below B w W) (hb : B ≤ b) (v0 v1 v2 v3 v4 v5 v6 v7 : Value) : Below B w ((((((((W.setCell ⟨b, 0, none⟩ v0).setCell ⟨b, 1, none⟩ v1).setCell ⟨b, 2, none⟩ v2).setCell ⟨b, 3, none⟩ v3).setCell ⟨b, 4, none⟩ v4).setCell ⟨b, 5, none⟩ v5).setCell ⟨b, 6, none⟩ v6).setCell ⟨b, 7, none⟩ v7) :=
  ((((((((h.setCell (p := ⟨b, 0, none⟩) hb _).setCell (p := ⟨b, 1, none⟩) hb _).setCell (p := ⟨b, 2, none⟩) hb _).setCell (p := ⟨b, 3, none⟩) hb _).setCell (p := ⟨b, 4, none⟩) hb _).setCell (p := ⟨b, 5, none⟩) hb _).setCell (p := ⟨b, 6, none⟩) hb _).setCell (p := ⟨b, 7, none⟩) hb _)
theorem row_set8 {base n size : Nat} {e : TypeId} {u : Value} {xs : List Value} (h : W.ownsRow base e size u n xs) (hb : b < base) (v0 v1 v2 v3 v4 v5 v6 v7 : Value) : ((((((((W.setCell ⟨b, 0, none⟩ v0).setCell ⟨b, 1, none⟩ v1).setCell ⟨b, 2, none⟩ v2).setCell ⟨b, 3, none⟩ v3).setCell ⟨b, 4, none⟩ v4).setCell ⟨b, 5, none⟩ v5).setCell ⟨b, 6, none⟩ v6).setCell ⟨b, 7, none⟩ v7).ownsRow base e size u n xs :=
  (ownsRow_setCell_below (ownsRow_setCell_below (ownsRow_setCell_below (ownsRow_setCell_below (ownsRow_setCell_below (ownsRow_setCell_below (ownsRow_setCell_below (ownsRow_setCell_below h (a := ⟨b, 0, none⟩) hb _) (a := ⟨b, 1, none⟩) hb _) (a := ⟨b, 2, none⟩) hb _) (a := ⟨b, 3, none⟩) hb _) (a := ⟨b, 4, none⟩) hb _) (a := ⟨b, 5, none⟩) hb _) (a := ⟨b, 6, none⟩) hb _) (a := ⟨b, 7, none⟩) hb _)
end

structure Co where
  p : Int
  q : Int
  v : Int
  l : List Int
  x : Int
  y : Int
  h : Int
  m : Bool
def C0 : Co := ⟨0, 0, 0, [], 0, 0, 0, false⟩

/-- The eight cells of a coin. -/
def CoAt (w : World) (b i : Nat) (c : Co) (ka : Option Addr) (kc : Nat) : Prop :=
  w.cell? ⟨b, i, none⟩ = some (.int .i64 c.p) ∧ w.cell? ⟨b, i + 1, none⟩ = some (.int .i64 c.q) ∧ w.cell? ⟨b, i + 2, none⟩ = some (.int .i64 c.v) ∧ w.cell? ⟨b, i + 3, none⟩ = some (.slice ka c.l.length kc) ∧ w.cell? ⟨b, i + 4, none⟩ = some (.int .i64 c.x) ∧ w.cell? ⟨b, i + 5, none⟩ = some (.int .i64 c.y) ∧ w.cell? ⟨b, i + 6, none⟩ = some (.int .i64 c.h) ∧ w.cell? ⟨b, i + 7, none⟩ = some (.bool c.m)
theorem CoAt.below {w w' : World} {b i B : Nat} {c : Co} {ka : Option Addr} {kc : Nat} (h : CoAt w b i c ka kc) (hb : Below B w w') (hB : b < B) : CoAt w' b i c ka kc :=
  ⟨(hb.cell (p := ⟨b, i, none⟩) hB).trans h.1, (hb.cell (p := ⟨b, i + 1, none⟩) hB).trans h.2.1, (hb.cell (p := ⟨b, i + 2, none⟩) hB).trans h.2.2.1, (hb.cell (p := ⟨b, i + 3, none⟩) hB).trans h.2.2.2.1, (hb.cell (p := ⟨b, i + 4, none⟩) hB).trans h.2.2.2.2.1, (hb.cell (p := ⟨b, i + 5, none⟩) hB).trans h.2.2.2.2.2.1, (hb.cell (p := ⟨b, i + 6, none⟩) hB).trans h.2.2.2.2.2.2.1, (hb.cell (p := ⟨b, i + 7, none⟩) hB).trans h.2.2.2.2.2.2.2⟩

/-- What a slice of coins leads to: eight cells each, the keys behind the fourth. -/
def CAt (w : World) (a : Option Addr) (n : Nat) (cs : List Co) : Prop :=
  cs.length = n ∧ (n = 0 ∨ ∃ b off, a = some ⟨b, off, none⟩ ∧ b < w.heap.size ∧ ∀ j, j < n → ∃ ka kc, CoAt w b (off + j * 8) (cs.getD j C0) ka kc ∧ (cs.getD j C0).l.length ≤ maxLen ∧ IAt w ka (cs.getD j C0).l.length (cs.getD j C0).l)

theorem CAt.below {w w' : World} {a : Option Addr} {n : Nat} {cs : List Co} (h : CAt w a n cs) {B : Nat} (hb : Below B w w') (hB : w.heap.size ≤ B) : CAt w' a n cs := by
  obtain ⟨hn, h | ⟨b, off, rfl, hlt, hc⟩⟩ := h
  · exact ⟨hn, .inl h⟩
  · refine ⟨hn, .inr ⟨b, off, rfl, Nat.lt_of_lt_of_le hlt hb.size, fun j hj => ?_⟩⟩
    obtain ⟨ka, kc, h0, h1, h2⟩ := hc j hj
    exact ⟨ka, kc, h0.below hb (Nat.lt_of_lt_of_le hlt hB), h1, h2.below hb hB⟩

def SzC (n : Nat) (cs : List Co) (left r : Int) : Prop := r = -1 ∨ 0 ≤ r ∧ r ≤ left ∧ (n : Int) ≤ left ∧ ∀ j, j < n → ((cs.getD j C0).l.length : Int) ≤ left

theorem szCoin_any (p q v : Int) (a : Option Addr) (n cap : Nat) (x y h : Int) (m : Bool) (left : Int) (w : World) (h0 : 0 ≤ left) (h1 : left ≤ 1048576) (hl : n ≤ maxLen) :
    Calls Tryz.prog 18 #[.agg #[.int .i64 p, .int .i64 q, .int .i64 v, .slice a n cap, .int .i64 x, .int .i64 y, .int .i64 h, .bool m], .int .i64 left] w fun e w' => ∃ r : Int, e = .returned (.int .i64 r) ∧ SzG n left r ∧ Below w.heap.size w w' := by
  have hbx : Below w.heap.size w (w.alloc (.cells #[.int .i64 p, .int .i64 q, .int .i64 v, .slice a n cap, .int .i64 x, .int .i64 y, .int .i64 h, .bool m] 64)) := below_box _
  have hS := szOut_any v a n cap x y left (w.alloc (.cells #[.int .i64 p, .int .i64 q, .int .i64 v, .slice a n cap, .int .i64 x, .int .i64 y, .int .i64 h, .bool m] 64)) h0 h1 hl
  go_enter Tryz.func18, Tryz.ntmps18
  go_wp2_with (first
    | (go_at_call 41; refine hS.mono ?_; rintro e w2 ⟨r, rfl, hr, hb2⟩; have HB : Hid (Below w.heap.size w w2) := hbx.trans (hb2.mono (by simp)); clear hb2))
  · go_ret
    exact ⟨_, rfl, Or.inl rfl, HB.out⟩
  · go_ret
    exact ⟨_, rfl, hr, HB.out⟩

set_option maxHeartbeats 400000 in
theorem szCs_any (a : Option Addr) (n cap : Nat) (cs : List Co) (left : Int) (w : World) (h0 : 0 ≤ left) (h1 : left ≤ 1048576) (hl : n ≤ maxLen) (hs : CAt w a n cs) :
    Calls Tryz.prog 5 #[.slice a n cap, .int .i64 left] w fun e w' => ∃ r : Int, e = .returned (.int .i64 r) ∧ SzC n cs left r ∧ Below w.heap.size w w' := by
  have hl' := hl
  unfold maxLen at hl
  have HO : Hid (CAt w a n cs) := hs
  clear hs
  by_cases hn : left < n
  · go_enter Tryz.func5, Tryz.ntmps5
    go_wp2
    go_ret
    exact ⟨_, rfl, Or.inl rfl, Below.refl _ _⟩
  · go_enter Tryz.func5, Tryz.ntmps5
    go_wp2
    go_loopw [1, 5] (fun v i wr => ∃ k : Nat, k ≤ n ∧ i = .int .i64 k ∧ ∃ q : Int, v = .int .i64 q ∧ 0 ≤ q ∧ q ≤ left - n ∧ Hid (∀ j, j < k → ((cs.getD j C0).l.length : Int) ≤ left) ∧ Below w.heap.size w wr) (fun _ i _ => n - (intOf i).toNat)
    case atStart => exact ⟨0, Nat.zero_le _, rfl, _, rfl, by omega, by omega, fun j hj => by omega, Below.refl _ _⟩
    case round =>
      obtain ⟨k, hk, rfl, q, rfl, hq0, hq1, HJ, hbel⟩ := hrel
      by_cases hlt : k < n
      · rcases HO.out.2 with h00 | ⟨b, off, e0, l0, d0⟩
        · omega
        subst e0
        obtain ⟨o, ho⟩ : ∃ o, o = cs.getD k C0 := ⟨_, rfl⟩
        obtain ⟨ka, kc, c0, c4, c5⟩ := d0 k hlt
        rw [← ho] at c0 c4 c5
        have HS : Hid (o = cs.getD k C0) := ho
        obtain ⟨op, oq, ov, ol, ox, oy, oh, om⟩ := o
        obtain ⟨x0, x1, x2, x3, x4, x5, x6, x7⟩ := c0.below hbel l0
        simp only at x0 x1 x2 x3 x4 x5 x6 x7
        have hsz := szCoin_any op oq ov ka ol.length kc ox oy oh om q wr hq0 (by omega) c4
        clear c0 c4 c5 ho d0
        have hki : (k : Int) < (n : Int) := by omega
        go_wp2_with (go_at_call 18; refine hsz.mono ?_; clear hsz; rintro e w2 ⟨r, rfl, hr, hb2⟩)
        · go_ret
          exact ⟨_, rfl, Or.inl rfl, hbel.trans (hb2.mono hbel.size)⟩
        · have hr0 : 0 ≤ r := by assumption
          rcases hr with e | ⟨_, hr1, hr2⟩
          · omega
          go_roundw
          case rel =>
            refine ⟨k + 1, by omega, by go_num, _, rfl, hr0, by omega, fun j hj => ?_, hbel.trans (hb2.mono hbel.size)⟩
            by_cases e : j = k
            · subst e
              rw [← HS.out]
              show (ol.length : Int) ≤ left
              omega
            · exact HJ.out j (by omega)
          case measure => simp [intOf]; omega
      · go_wp2
        go_ret
        exact ⟨_, rfl, Or.inr ⟨hq0, by omega, by omega, fun j h => HJ.out j (by omega)⟩, hbel⟩

theorem Tryz.infoCoin : (Tryz.prog.info? 86).map (fun i => (i.zero, i.size, i.bytes)) = some (some (.agg #[.int .i64 0, .int .i64 0, .int .i64 0, .slice none 0 0, .int .i64 0, .int .i64 0, .int .i64 0, .bool false]), 8, 80) := by kernel_rfl

/-- A coin that is copied: what came, the answer's place and the copy, in three blocks of their own. -/
structure K3 (w v : World) (ps os : Array Value) : Prop where
  p : v.heap[w.heap.size]? = some (.cells ps 64 (0, 0))
  r : v.heap[w.heap.size + 1]? = some (.cells #[.int .i64 0, .int .i64 0, .int .i64 0, .slice none 0 0, .int .i64 0, .int .i64 0, .int .i64 0, .bool false] 86 (0, 0))
  o : v.heap[w.heap.size + 1 + 1]? = some (.cells os 86 (0, 0))
  bel : Below w.heap.size w v
section
variable {w v v' : World} {ps os os' : Array Value}
theorem K3.lt (h : K3 w v ps os) : w.heap.size + 1 + 1 < v.heap.size := lt_of_block h.o
theorem K3.step (h : K3 w v ps os) (hb : Below v.heap.size v v') : K3 w v' ps os :=
  ⟨(keepb h.p hb).out, (keepb h.r hb).out, (keepb h.o hb).out, h.bel.trans (hb.mono h.bel.size)⟩
theorem K3.set (h : K3 w v ps os) {i : Nat} {u : Value} (hq : os.setIfInBounds i u = os') : K3 w (v.setCell ⟨w.heap.size + 1 + 1, i, none⟩ u) ps os' := by
  refine ⟨(Below.heap_setCell _ ⟨w.heap.size + 1 + 1, i, none⟩ _ w.heap.size (show w.heap.size ≠ w.heap.size + 1 + 1 by omega)).trans h.p, (Below.heap_setCell _ ⟨w.heap.size + 1 + 1, i, none⟩ _ (w.heap.size + 1) (show w.heap.size + 1 ≠ w.heap.size + 1 + 1 by omega)).trans h.r, ?_, h.bel.setCell (p := ⟨w.heap.size + 1 + 1, i, none⟩) (show w.heap.size ≤ w.heap.size + 1 + 1 by omega) _⟩
  have := Joins.block_setCell (i := i) h.o u
  rw [hq] at this
  exact this
end

/-- A coin's copy: its keys lie in new memory. -/
def OutCo (w w' : World) (e : Ending) (p q v : Int) (n : Nat) (l : List Int) (x y h : Int) (m : Bool) : Prop :=
  ∃ g c, e = .returned (.agg #[.int .i64 p, .int .i64 q, .int .i64 v, .slice (some ⟨g, 0, none⟩) n c, .int .i64 x, .int .i64 y, .int .i64 h, .bool m]) ∧ w'.ownsRow w.heap.size 2 1 (.slice (some ⟨g, 0, none⟩) n c) n (ints l) ∧ Below w.heap.size w w'

set_option maxHeartbeats 2000000 in
theorem toCoin_any (p q v : Int) (a : Option Addr) (n cap : Nat) (l : List Int) (x y h : Int) (m : Bool) (w : World) (hl : n ≤ 1048576) (hI : IAt w a n l) :
    Calls Tryz.prog 30 #[.agg #[.int .i64 p, .int .i64 q, .int .i64 v, .slice a n cap, .int .i64 x, .int .i64 y, .int .i64 h, .bool m]] w fun e w' => OutCo w w' e p q v n l x y h m := by
  obtain ⟨t0, t1, t2, t3⟩ := three_blocks w (.cells #[.int .i64 p, .int .i64 q, .int .i64 v, .slice a n cap, .int .i64 x, .int .i64 y, .int .i64 h, .bool m] 64) (.cells #[.int .i64 0, .int .i64 0, .int .i64 0, .slice none 0 0, .int .i64 0, .int .i64 0, .int .i64 0, .bool false] 86) (.cells #[.int .i64 0, .int .i64 0, .int .i64 0, .slice none 0 0, .int .i64 0, .int .i64 0, .int .i64 0, .bool false] 86)
  have hT1 : K3 w (((w.alloc (.cells #[.int .i64 p, .int .i64 q, .int .i64 v, .slice a n cap, .int .i64 x, .int .i64 y, .int .i64 h, .bool m] 64)).alloc (.cells #[.int .i64 0, .int .i64 0, .int .i64 0, .slice none 0 0, .int .i64 0, .int .i64 0, .int .i64 0, .bool false] 86)).alloc (.cells #[.int .i64 0, .int .i64 0, .int .i64 0, .slice none 0 0, .int .i64 0, .int .i64 0, .int .i64 0, .bool false] 86)) #[.int .i64 p, .int .i64 q, .int .i64 v, .slice a n cap, .int .i64 x, .int .i64 y, .int .i64 h, .bool m] #[.int .i64 0, .int .i64 0, .int .i64 0, .slice none 0 0, .int .i64 0, .int .i64 0, .int .i64 0, .bool false] := ⟨t0, t1, t2, below_box3 _ _ _⟩
  have hS := toRef_any p q (((w.alloc (.cells #[.int .i64 p, .int .i64 q, .int .i64 v, .slice a n cap, .int .i64 x, .int .i64 y, .int .i64 h, .bool m] 64)).alloc (.cells #[.int .i64 0, .int .i64 0, .int .i64 0, .slice none 0 0, .int .i64 0, .int .i64 0, .int .i64 0, .bool false] 86)).alloc (.cells #[.int .i64 0, .int .i64 0, .int .i64 0, .slice none 0 0, .int .i64 0, .int .i64 0, .int .i64 0, .bool false] 86))
  have HT1 := show Hid (K3 w (((w.alloc (.cells #[.int .i64 p, .int .i64 q, .int .i64 v, .slice a n cap, .int .i64 x, .int .i64 y, .int .i64 h, .bool m] 64)).alloc (.cells #[.int .i64 0, .int .i64 0, .int .i64 0, .slice none 0 0, .int .i64 0, .int .i64 0, .int .i64 0, .bool false] 86)).alloc (.cells #[.int .i64 0, .int .i64 0, .int .i64 0, .slice none 0 0, .int .i64 0, .int .i64 0, .int .i64 0, .bool false] 86)) #[.int .i64 p, .int .i64 q, .int .i64 v, .slice a n cap, .int .i64 x, .int .i64 y, .int .i64 h, .bool m] #[.int .i64 0, .int .i64 0, .int .i64 0, .slice none 0 0, .int .i64 0, .int .i64 0, .int .i64 0, .bool false]) from hT1
  have HI : Hid (IAt w a n l) := hI
  obtain ⟨⟨s0, s1, s2, s3, s4, s5, s6, s7⟩, _⟩ := cells8 hT1.p
  clear t0 t1 t2 t3 hT1 hI
  go_enter Tryz.func30, Tryz.ntmps30
  go_wp2_with (first
    | (go_at_call 58; refine hS.mono ?_; clear hS; rintro e w2 ⟨rfl, hb2⟩; have HT2 : Hid (K3 w w2 #[.int .i64 p, .int .i64 q, .int .i64 v, .slice a n cap, .int .i64 x, .int .i64 y, .int .i64 h, .bool m] #[.int .i64 0, .int .i64 0, .int .i64 0, .slice none 0 0, .int .i64 0, .int .i64 0, .int .i64 0, .bool false]) := HT1.out.step hb2; have HT3 : Hid (K3 w ((w2.setCell ⟨w.heap.size + 1 + 1, 0, none⟩ (.int .i64 p)).setCell ⟨w.heap.size + 1 + 1, 1, none⟩ (.int .i64 q)) #[.int .i64 p, .int .i64 q, .int .i64 v, .slice a n cap, .int .i64 x, .int .i64 y, .int .i64 h, .bool m] #[.int .i64 p, .int .i64 q, .int .i64 0, .slice none 0 0, .int .i64 0, .int .i64 0, .int .i64 0, .bool false]) := (HT2.out.set (i := 0) (u := .int .i64 p) rfl).set (i := 1) (u := .int .i64 q) rfl; obtain ⟨⟨a0, a1, a2, a3, a4, a5, a6, a7⟩, f0, f1, f2, f3, f4, f5, f6, f7⟩ := cells8 HT2.out.o; obtain ⟨⟨z0, z1, z2, z3, z4, z5, z6, z7⟩, _⟩ := cells8 HT2.out.p; have hSO := toOut_any v a n cap l x y ((w2.setCell ⟨w.heap.size + 1 + 1, 0, none⟩ (.int .i64 p)).setCell ⟨w.heap.size + 1 + 1, 1, none⟩ (.int .i64 q)) hl (HI.out.below HT3.out.bel (Nat.le_refl _)); clear hb2)
    | (go_at_call 59; refine hSO.mono ?_; clear hSO; rintro e w3 ⟨g0, k0, rfl, ho0, hb3⟩; have HT4 : Hid (K3 w w3 #[.int .i64 p, .int .i64 q, .int .i64 v, .slice a n cap, .int .i64 x, .int .i64 y, .int .i64 h, .bool m] #[.int .i64 p, .int .i64 q, .int .i64 0, .slice none 0 0, .int .i64 0, .int .i64 0, .int .i64 0, .bool false]) := HT3.out.step hb3; have HROW : Hid (w3.ownsRow (w.heap.size + 1 + 1 + 1) 2 1 (.slice (some ⟨g0, 0, none⟩) n k0) n (ints l)) := Joins.ownsRow_le ho0 (by have := HT3.out.lt; omega); clear a0 a1 a2 a3 a4 a5 a6 a7 f0 f1 f2 f3 f4 f5 f6 f7 z0 z1 z2 z3 z4 z5 z6 z7; obtain ⟨⟨a0, a1, a2, a3, a4, a5, a6, a7⟩, f0, f1, f2, f3, f4, f5, f6, f7⟩ := cells8 HT4.out.o; obtain ⟨⟨z0, z1, z2, z3, z4, z5, z6, z7⟩, _⟩ := cells8 HT4.out.p; obtain ⟨⟨r0, r1, r2, r3, r4, r5, r6, r7⟩, q0, q1, q2, q3, q4, q5, q6, q7⟩ := cells8 HT4.out.r; clear ho0 hb3))
  have HT5 : Hid (K3 w ((((((w3.setCell ⟨w.heap.size + 1 + 1, 2, none⟩ (.int .i64 v)).setCell ⟨w.heap.size + 1 + 1, 3, none⟩ (.slice (some ⟨g0, 0, none⟩) n k0)).setCell ⟨w.heap.size + 1 + 1, 4, none⟩ (.int .i64 x)).setCell ⟨w.heap.size + 1 + 1, 5, none⟩ (.int .i64 y)).setCell ⟨w.heap.size + 1 + 1, 6, none⟩ (.int .i64 h)).setCell ⟨w.heap.size + 1 + 1, 7, none⟩ (.bool m)) #[.int .i64 p, .int .i64 q, .int .i64 v, .slice a n cap, .int .i64 x, .int .i64 y, .int .i64 h, .bool m] #[.int .i64 p, .int .i64 q, .int .i64 v, .slice (some ⟨g0, 0, none⟩) n k0, .int .i64 x, .int .i64 y, .int .i64 h, .bool m]) := ((((((HT4.out.set (i := 2) (u := .int .i64 v) rfl).set (i := 3) (u := .slice (some ⟨g0, 0, none⟩) n k0) rfl).set (i := 4) (u := .int .i64 x) rfl).set (i := 5) (u := .int .i64 y) rfl).set (i := 6) (u := .int .i64 h) rfl).set (i := 7) (u := .bool m) rfl)
  obtain ⟨j0, j1, j2, j3, j4, j5, j6, j7⟩ := eight_set HT5.out.r (.int .i64 p) (.int .i64 q) (.int .i64 v) (.slice (some ⟨g0, 0, none⟩) n k0) (.int .i64 x) (.int .i64 y) (.int .i64 h) (.bool m)
  refine bodyPost_ret (v := .agg #[.int .i64 p, .int .i64 q, .int .i64 v, .slice (some ⟨g0, 0, none⟩) n k0, .int .i64 x, .int .i64 y, .int .i64 h, .bool m]) (by simp [results, Tryz.results30, go_sem, j0, j1, j2, j3, j4, j5, j6, j7]) rfl ⟨g0, k0, rfl, ?_, ?_⟩
  · have := HROW.out
    replace this := ownsRow_setCell_below this (a := ⟨w.heap.size + 1 + 1, 2, none⟩) (show w.heap.size + 1 + 1 < _ by omega) (.int .i64 v); replace this := ownsRow_setCell_below this (a := ⟨w.heap.size + 1 + 1, 3, none⟩) (show w.heap.size + 1 + 1 < _ by omega) (.slice (some ⟨g0, 0, none⟩) n k0); replace this := ownsRow_setCell_below this (a := ⟨w.heap.size + 1 + 1, 4, none⟩) (show w.heap.size + 1 + 1 < _ by omega) (.int .i64 x); replace this := ownsRow_setCell_below this (a := ⟨w.heap.size + 1 + 1, 5, none⟩) (show w.heap.size + 1 + 1 < _ by omega) (.int .i64 y); replace this := ownsRow_setCell_below this (a := ⟨w.heap.size + 1 + 1, 6, none⟩) (show w.heap.size + 1 + 1 < _ by omega) (.int .i64 h); replace this := ownsRow_setCell_below this (a := ⟨w.heap.size + 1 + 1, 7, none⟩) (show w.heap.size + 1 + 1 < _ by omega) (.bool m)
    exact Joins.ownsRow_le (row_set8 this (by omega) _ _ _ _ _ _ _ _) (by omega)
  · exact below_set8 HT5.out.bel (by omega) _ _ _ _ _ _ _ _

end Go.Proofs.YtacjgnefomdoaaaGreatDoor

namespace Go.Proofs.YtacjgnefomdoaaaGreatDoor
open Go.RowKit Go.Maps Go.WideMaps

/-- A row of coins under way in block B: k of them are there. -/
def RowC (wr : World) (B n k : Nat) (cs : List Co) : Prop :=
  ∃ xs, wr.ownsRow B 86 8 (.slice (some ⟨B, 0, none⟩) n n) n xs ∧ ∀ j, j < k → ∃ g c, (xs[j * 8]? = some (.int .i64 (cs.getD j C0).p) ∧ xs[j * 8 + 1]? = some (.int .i64 (cs.getD j C0).q) ∧ xs[j * 8 + 2]? = some (.int .i64 (cs.getD j C0).v) ∧ xs[j * 8 + 3]? = some (.slice (some ⟨g, 0, none⟩) (cs.getD j C0).l.length c) ∧ xs[j * 8 + 4]? = some (.int .i64 (cs.getD j C0).x) ∧ xs[j * 8 + 5]? = some (.int .i64 (cs.getD j C0).y) ∧ xs[j * 8 + 6]? = some (.int .i64 (cs.getD j C0).h) ∧ xs[j * 8 + 7]? = some (.bool (cs.getD j C0).m)) ∧
    B < g ∧ (cs.getD j C0).l.length ≤ maxLen ∧ IAt wr (some ⟨g, 0, none⟩) (cs.getD j C0).l.length (cs.getD j C0).l

set_option maxHeartbeats 1000000 in
theorem toC_round {wr w2 : World} {B n k : Nat} {cs : List Co} {p q v x y h : Int} {m : Bool} {l : List Int} {g c : Nat} (ho : (⟨p, q, v, l, x, y, h, m⟩ : Co) = cs.getD k C0) (hlt : k < n) (hR : RowC wr B n k cs) (hb : Below wr.heap.size wr w2) (hk : w2.ownsRow wr.heap.size 2 1 (.slice (some ⟨g, 0, none⟩) l.length c) l.length (ints l)) (hBl : B < wr.heap.size) (hol : l.length ≤ maxLen) :
    ∃ u0 u1 u2 u3 u4 u5 u6 u7, (w2.cell? ⟨B, k * 8, none⟩ = some u0 ∧ w2.cell? ⟨B, k * 8 + 1, none⟩ = some u1 ∧ w2.cell? ⟨B, k * 8 + 2, none⟩ = some u2 ∧ w2.cell? ⟨B, k * 8 + 3, none⟩ = some u3 ∧ w2.cell? ⟨B, k * 8 + 4, none⟩ = some u4 ∧ w2.cell? ⟨B, k * 8 + 5, none⟩ = some u5 ∧ w2.cell? ⟨B, k * 8 + 6, none⟩ = some u6 ∧ w2.cell? ⟨B, k * 8 + 7, none⟩ = some u7) ∧ (w2.frozen? ⟨B, k * 8, none⟩ = false ∧ w2.frozen? ⟨B, k * 8 + 1, none⟩ = false ∧ w2.frozen? ⟨B, k * 8 + 2, none⟩ = false ∧ w2.frozen? ⟨B, k * 8 + 3, none⟩ = false ∧ w2.frozen? ⟨B, k * 8 + 4, none⟩ = false ∧ w2.frozen? ⟨B, k * 8 + 5, none⟩ = false ∧ w2.frozen? ⟨B, k * 8 + 6, none⟩ = false ∧ w2.frozen? ⟨B, k * 8 + 7, none⟩ = false) ∧
      Hid (RowC ((((((((w2.setCell ⟨B, k * 8, none⟩ (.int .i64 p)).setCell ⟨B, k * 8 + 1, none⟩ (.int .i64 q)).setCell ⟨B, k * 8 + 2, none⟩ (.int .i64 v)).setCell ⟨B, k * 8 + 3, none⟩ (.slice (some ⟨g, 0, none⟩) l.length c)).setCell ⟨B, k * 8 + 4, none⟩ (.int .i64 x)).setCell ⟨B, k * 8 + 5, none⟩ (.int .i64 y)).setCell ⟨B, k * 8 + 6, none⟩ (.int .i64 h)).setCell ⟨B, k * 8 + 7, none⟩ (.bool m)) B n (k + 1) cs) := by
  obtain ⟨xs, hown0, hxs⟩ := hR
  have hown := hown0.kept (w' := w2) (row := none) ⟨hb.os, hb.tape, hb.output, hb.size, fun k hk _ => hb.block k hk⟩ (by simp [Value.ownBlock])
  have hxl := hown.1
  have r1 := (hown.stored (k * 8) (.int .i64 p)).1
  have r2 := (r1.stored (k * 8 + 1) (.int .i64 q)).1
  have r3 := (r2.stored (k * 8 + 2) (.int .i64 v)).1
  have r4 := (r3.stored (k * 8 + 3) (.slice (some ⟨g, 0, none⟩) l.length c)).1
  have r5 := (r4.stored (k * 8 + 4) (.int .i64 x)).1
  have r6 := (r5.stored (k * 8 + 5) (.int .i64 y)).1
  have r7 := (r6.stored (k * 8 + 6) (.int .i64 h)).1
  have r8 := (r7.stored (k * 8 + 7) (.bool m)).1
  have hgl : B < g := by have := (hk.lt g rfl).1; omega
  have hgB : g ≠ B := by omega
  have hIk : IAt w2 (some ⟨g, 0, none⟩) l.length l := IAt.owned hk rfl
  refine ⟨_, _, _, _, _, _, _, _, ⟨(hown.cellAt (k * 8) (by omega)).trans (List.getElem?_eq_getElem (by omega)), (hown.cellAt (k * 8 + 1) (by omega)).trans (List.getElem?_eq_getElem (by omega)), (hown.cellAt (k * 8 + 2) (by omega)).trans (List.getElem?_eq_getElem (by omega)), (hown.cellAt (k * 8 + 3) (by omega)).trans (List.getElem?_eq_getElem (by omega)), (hown.cellAt (k * 8 + 4) (by omega)).trans (List.getElem?_eq_getElem (by omega)), (hown.cellAt (k * 8 + 5) (by omega)).trans (List.getElem?_eq_getElem (by omega)), (hown.cellAt (k * 8 + 6) (by omega)).trans (List.getElem?_eq_getElem (by omega)), (hown.cellAt (k * 8 + 7) (by omega)).trans (List.getElem?_eq_getElem (by omega))⟩, ⟨hown.frozenAt _, hown.frozenAt _, hown.frozenAt _, hown.frozenAt _, hown.frozenAt _, hown.frozenAt _, hown.frozenAt _, hown.frozenAt _⟩, _, r8, fun j hj => ?_⟩
  by_cases e : k = j
  · subst e
    rw [← ho]
    refine ⟨g, c, ⟨?_, ?_, ?_, ?_, ?_, ?_, ?_, ?_⟩, hgl, hol, ((((((((hIk.setOther hgB _).setOther hgB _).setOther hgB _).setOther hgB _).setOther hgB _).setOther hgB _).setOther hgB _).setOther hgB _)⟩
    · rw [List.getElem?_set_ne (by omega), List.getElem?_set_ne (by omega), List.getElem?_set_ne (by omega), List.getElem?_set_ne (by omega), List.getElem?_set_ne (by omega), List.getElem?_set_ne (by omega), List.getElem?_set_ne (by omega), List.getElem?_set_self (by omega)]
    · rw [List.getElem?_set_ne (by omega), List.getElem?_set_ne (by omega), List.getElem?_set_ne (by omega), List.getElem?_set_ne (by omega), List.getElem?_set_ne (by omega), List.getElem?_set_ne (by omega), List.getElem?_set_self (by simp; omega)]
    · rw [List.getElem?_set_ne (by omega), List.getElem?_set_ne (by omega), List.getElem?_set_ne (by omega), List.getElem?_set_ne (by omega), List.getElem?_set_ne (by omega), List.getElem?_set_self (by simp; omega)]
    · rw [List.getElem?_set_ne (by omega), List.getElem?_set_ne (by omega), List.getElem?_set_ne (by omega), List.getElem?_set_ne (by omega), List.getElem?_set_self (by simp; omega)]
    · rw [List.getElem?_set_ne (by omega), List.getElem?_set_ne (by omega), List.getElem?_set_ne (by omega), List.getElem?_set_self (by simp; omega)]
    · rw [List.getElem?_set_ne (by omega), List.getElem?_set_ne (by omega), List.getElem?_set_self (by simp; omega)]
    · rw [List.getElem?_set_ne (by omega), List.getElem?_set_self (by simp; omega)]
    · rw [List.getElem?_set_self (by simp; omega)]
  · obtain ⟨g', c', ⟨e0, e1, e2, e3, e4, e5, e6, e7⟩, hgl', hl', hI'⟩ := hxs j (by omega)
    have hg' : g' ≠ B := by omega
    refine ⟨g', c', ⟨?_, ?_, ?_, ?_, ?_, ?_, ?_, ?_⟩, hgl', hl', (((((((((hI'.below hb (Nat.le_refl _)).setOther hg' _).setOther hg' _).setOther hg' _).setOther hg' _).setOther hg' _).setOther hg' _).setOther hg' _).setOther hg' _)⟩
    · rw [List.getElem?_set_ne (by omega), List.getElem?_set_ne (by omega), List.getElem?_set_ne (by omega), List.getElem?_set_ne (by omega), List.getElem?_set_ne (by omega), List.getElem?_set_ne (by omega), List.getElem?_set_ne (by omega), List.getElem?_set_ne (by omega)]; exact e0
    · rw [List.getElem?_set_ne (by omega), List.getElem?_set_ne (by omega), List.getElem?_set_ne (by omega), List.getElem?_set_ne (by omega), List.getElem?_set_ne (by omega), List.getElem?_set_ne (by omega), List.getElem?_set_ne (by omega), List.getElem?_set_ne (by omega)]; exact e1
    · rw [List.getElem?_set_ne (by omega), List.getElem?_set_ne (by omega), List.getElem?_set_ne (by omega), List.getElem?_set_ne (by omega), List.getElem?_set_ne (by omega), List.getElem?_set_ne (by omega), List.getElem?_set_ne (by omega), List.getElem?_set_ne (by omega)]; exact e2
    · rw [List.getElem?_set_ne (by omega), List.getElem?_set_ne (by omega), List.getElem?_set_ne (by omega), List.getElem?_set_ne (by omega), List.getElem?_set_ne (by omega), List.getElem?_set_ne (by omega), List.getElem?_set_ne (by omega), List.getElem?_set_ne (by omega)]; exact e3
    · rw [List.getElem?_set_ne (by omega), List.getElem?_set_ne (by omega), List.getElem?_set_ne (by omega), List.getElem?_set_ne (by omega), List.getElem?_set_ne (by omega), List.getElem?_set_ne (by omega), List.getElem?_set_ne (by omega), List.getElem?_set_ne (by omega)]; exact e4
    · rw [List.getElem?_set_ne (by omega), List.getElem?_set_ne (by omega), List.getElem?_set_ne (by omega), List.getElem?_set_ne (by omega), List.getElem?_set_ne (by omega), List.getElem?_set_ne (by omega), List.getElem?_set_ne (by omega), List.getElem?_set_ne (by omega)]; exact e5
    · rw [List.getElem?_set_ne (by omega), List.getElem?_set_ne (by omega), List.getElem?_set_ne (by omega), List.getElem?_set_ne (by omega), List.getElem?_set_ne (by omega), List.getElem?_set_ne (by omega), List.getElem?_set_ne (by omega), List.getElem?_set_ne (by omega)]; exact e6
    · rw [List.getElem?_set_ne (by omega), List.getElem?_set_ne (by omega), List.getElem?_set_ne (by omega), List.getElem?_set_ne (by omega), List.getElem?_set_ne (by omega), List.getElem?_set_ne (by omega), List.getElem?_set_ne (by omega), List.getElem?_set_ne (by omega)]; exact e7

/-- Coins in new memory: their row and their keys lie in blocks from 'base' on. -/
def CAtN (w : World) (base g n : Nat) (cs : List Co) : Prop :=
  cs.length = n ∧ base ≤ g ∧ g < w.heap.size ∧ ∀ j, j < n → ∃ kg kc, CoAt w g (j * 8) (cs.getD j C0) (some ⟨kg, 0, none⟩) kc ∧ base ≤ kg ∧ (cs.getD j C0).l.length ≤ maxLen ∧ IAt w (some ⟨kg, 0, none⟩) (cs.getD j C0).l.length (cs.getD j C0).l
theorem CAtN.at {w : World} {base g n : Nat} {cs : List Co} (h : CAtN w base g n cs) : CAt w (some ⟨g, 0, none⟩) n cs := by
  obtain ⟨hn, _, hg, hc⟩ := h
  refine ⟨hn, .inr ⟨g, 0, rfl, hg, fun j hj => ?_⟩⟩
  obtain ⟨kg, kc, h0, _, h5, h6⟩ := hc j hj
  exact ⟨_, kc, by rw [Nat.zero_add]; exact h0, h5, h6⟩
theorem CAtN.below {w w' : World} {base g n : Nat} {cs : List Co} (h : CAtN w base g n cs) (hb : Below w.heap.size w w') : CAtN w' base g n cs := by
  obtain ⟨hn, h1, hg, hc⟩ := h
  refine ⟨hn, h1, Nat.lt_of_lt_of_le hg hb.size, fun j hj => ?_⟩
  obtain ⟨kg, kk, h0, h4, h5, h6⟩ := hc j hj
  exact ⟨kg, kk, h0.below hb hg, h4, h5, h6.below hb (Nat.le_refl _)⟩

theorem RowC.at {w : World} {B n : Nat} {cs : List Co} (hn : cs.length = n) (h : RowC w B n n cs) : CAtN w B B n cs := by
  obtain ⟨xs, hown, hxs⟩ := h
  refine ⟨hn, Nat.le_refl _, (hown.lt B rfl).2, fun j hj => ?_⟩
  obtain ⟨g, c, ⟨e0, e1, e2, e3, e4, e5, e6, e7⟩, hg, hl, hI⟩ := hxs j hj
  have hxl := hown.1
  refine ⟨g, c, ⟨?_, ?_, ?_, ?_, ?_, ?_, ?_, ?_⟩, by omega, hl, hI⟩
  · rw [hown.cellAt (j * 8) (by omega), e0]
  · rw [hown.cellAt (j * 8 + 1) (by omega), e1]
  · rw [hown.cellAt (j * 8 + 2) (by omega), e2]
  · rw [hown.cellAt (j * 8 + 3) (by omega), e3]
  · rw [hown.cellAt (j * 8 + 4) (by omega), e4]
  · rw [hown.cellAt (j * 8 + 5) (by omega), e5]
  · rw [hown.cellAt (j * 8 + 6) (by omega), e6]
  · rw [hown.cellAt (j * 8 + 7) (by omega), e7]

set_option maxHeartbeats 1000000 in
theorem toCs_any (a : Option Addr) (n cap : Nat) (cs : List Co) (w : World) (hl : n ≤ 1048576) (hk : ∀ j, j < n → (cs.getD j C0).l.length ≤ 1048576) (hs : CAt w a n cs) :
    Calls Tryz.prog 9 #[.slice a n cap] w fun e w' => ∃ g c, e = .returned (.slice (some ⟨g, 0, none⟩) n c) ∧ CAtN w' w.heap.size g n cs ∧ n ≤ c ∧ c ≤ maxLen ∧ Below w.heap.size w w' := by
  have HN : Hid (cs.length = n) := hs.1
  have HSS : Hid (CAt w a n cs) := hs
  have HKL : Hid (∀ j, j < n → (cs.getD j C0).l.length ≤ 1048576) := hk
  clear hs hk
  obtain ⟨i0, hi, hz0, hz1, hz2⟩ := info_parts Tryz.infoCoin
  have hml : n ≤ maxLen := by unfold maxLen; omega
  go_enter Tryz.func9, Tryz.ntmps9
  go_wp2_with (first | (at_make; refine wpList_make_full _ rfl _ _ 41 rfl w.heap.size 86 i0 (.agg #[.int .i64 0, .int .i64 0, .int .i64 0, .slice none 0 0, .int .i64 0, .int .i64 0, .int .i64 0, .bool false]) 8 Tryz.underlying41 hi hz0 hz1 _ _ _ _ n rfl rfl (by omega) (by omega) (by rw [hz2]; omega) hml (Nat.le_refl _) ?_; intro w1 ho1 hg1))
  have hb1 : Below w.heap.size w w1 := (Below.refl _ _).grown hg1 (Nat.le_refl _) (fun k h => by cases h)
  have hB1 : w.heap.size < w1.heap.size := (ho1.lt _ rfl).2
  go_loopw [4] (fun i wr => ∃ k : Nat, k ≤ n ∧ i = .int .i64 k ∧ Below w.heap.size w wr ∧ w.heap.size < wr.heap.size ∧ Hid (RowC wr w.heap.size n k cs)) (fun i _ => n - (intOf i).toNat)
  case atStart => exact ⟨0, Nat.zero_le _, rfl, hb1, hB1, _, ho1, fun j hj => by omega⟩
  case round =>
    obtain ⟨k, hk, rfl, hbel, hBw, HX⟩ := hrel
    clear ho1 hg1 hb1 hB1
    by_cases hlt : k < n
    · rcases HSS.out.2 with h0 | ⟨b, off, ha, hb, hc⟩
      · omega
      subst ha
      obtain ⟨o, ho⟩ : ∃ o, o = cs.getD k C0 := ⟨_, rfl⟩
      obtain ⟨ka, kc, c0, c4, c5⟩ := hc k hlt
      have c6 := HKL.out k hlt
      rw [← ho] at c0 c4 c5 c6
      obtain ⟨op, oq, ov, ol, ox, oy, oh, om⟩ := o
      have HS : Hid ((⟨op, oq, ov, ol, ox, oy, oh, om⟩ : Co) = cs.getD k C0) := ho
      obtain ⟨x0, x1, x2, x3, x4, x5, x6, x7⟩ := c0.below hbel hb
      simp only at x0 x1 x2 x3 x4 x5 x6 x7
      have hto := toCoin_any op oq ov ka ol.length kc ol ox oy oh om wr c6 (c5.below hbel (Nat.le_refl _))
      have HC4 : Hid (ol.length ≤ maxLen) := c4
      clear hc ho c0 c4 c5 c6
      go_wp2_with (first | (go_at_call 30; refine hto.mono ?_; clear hto; rintro e w2 ⟨g, c, rfl, hk2, hb2⟩; obtain ⟨u0, u1, u2, u3, u4, u5, u6, u7, ⟨y0, y1, y2, y3, y4, y5, y6, y7⟩, ⟨f0, f1, f2, f3, f4, f5, f6, f7⟩, HX2⟩ := toC_round HS.out hlt HX.out hb2 hk2 hBw HC4.out; have HB2 : Hid (Below w.heap.size w w2) := hbel.trans (hb2.mono hbel.size); have hBw2 := Nat.lt_of_lt_of_le hBw hb2.size; clear hk2 hb2))
      go_roundw
      case rel => exact ⟨k + 1, by omega, by go_num, ((((((((HB2.out.setCell (Nat.le_refl _) _).setCell (Nat.le_refl _) _).setCell (Nat.le_refl _) _).setCell (Nat.le_refl _) _).setCell (Nat.le_refl _) _).setCell (Nat.le_refl _) _).setCell (Nat.le_refl _) _).setCell (Nat.le_refl _) _), by simpa using hBw2, HX2⟩
      case measure => simp [intOf]; omega
    · obtain rfl : k = n := by omega
      go_wp2
      go_ret
      exact ⟨_, _, rfl, HX.out.at HN.out, Nat.le_refl _, hml, hbel⟩

theorem blocks2 (w : World) (o o' : Obj) : ((w.alloc o).alloc o').heap[w.heap.size]? = some o ∧ ((w.alloc o).alloc o').heap[w.heap.size + 1]? = some o' ∧ ((w.alloc o).alloc o').heap.size = w.heap.size + 1 + 1 := by
  refine ⟨block_at2, ?_, by simp⟩
  rw [show w.heap.size + 1 = (w.alloc o).heap.size by simp]
  exact heap_alloc_new _ _

set_option maxHeartbeats 1000000 in
theorem eqCoin_any (p q v : Int) (a b : Option Addr) (n c1 c2 : Nat) (l : List Int) (x y h : Int) (m : Bool) (w : World) (hl : n ≤ 1048576) (ha : IAt w a n l) (hb : IAt w b n l) :
    Calls Tryz.prog 38 #[.agg #[.int .i64 p, .int .i64 q, .int .i64 v, .slice a n c1, .int .i64 x, .int .i64 y, .int .i64 h, .bool m], .agg #[.int .i64 p, .int .i64 q, .int .i64 v, .slice b n c2, .int .i64 x, .int .i64 y, .int .i64 h, .bool m]] w fun e w' => e = .returned (.bool true) ∧ Below w.heap.size w w' := by
  obtain ⟨t0, t1, t2⟩ := blocks2 w (.cells #[.int .i64 p, .int .i64 q, .int .i64 v, .slice a n c1, .int .i64 x, .int .i64 y, .int .i64 h, .bool m] 86) (.cells #[.int .i64 p, .int .i64 q, .int .i64 v, .slice b n c2, .int .i64 x, .int .i64 y, .int .i64 h, .bool m] 86)
  have HBX : Hid (Below w.heap.size w ((w.alloc (.cells #[.int .i64 p, .int .i64 q, .int .i64 v, .slice a n c1, .int .i64 x, .int .i64 y, .int .i64 h, .bool m] 86)).alloc (.cells #[.int .i64 p, .int .i64 q, .int .i64 v, .slice b n c2, .int .i64 x, .int .i64 y, .int .i64 h, .bool m] 86))) := below_box2 _ _
  have T0 : Hid (((w.alloc (.cells #[.int .i64 p, .int .i64 q, .int .i64 v, .slice a n c1, .int .i64 x, .int .i64 y, .int .i64 h, .bool m] 86)).alloc (.cells #[.int .i64 p, .int .i64 q, .int .i64 v, .slice b n c2, .int .i64 x, .int .i64 y, .int .i64 h, .bool m] 86)).heap[w.heap.size]? = some (.cells #[.int .i64 p, .int .i64 q, .int .i64 v, .slice a n c1, .int .i64 x, .int .i64 y, .int .i64 h, .bool m] 86 (0, 0))) := t0
  have T1 : Hid (((w.alloc (.cells #[.int .i64 p, .int .i64 q, .int .i64 v, .slice a n c1, .int .i64 x, .int .i64 y, .int .i64 h, .bool m] 86)).alloc (.cells #[.int .i64 p, .int .i64 q, .int .i64 v, .slice b n c2, .int .i64 x, .int .i64 y, .int .i64 h, .bool m] 86)).heap[w.heap.size + 1]? = some (.cells #[.int .i64 p, .int .i64 q, .int .i64 v, .slice b n c2, .int .i64 x, .int .i64 y, .int .i64 h, .bool m] 86 (0, 0))) := t1
  have hR := eqRef_any p q ((w.alloc (.cells #[.int .i64 p, .int .i64 q, .int .i64 v, .slice a n c1, .int .i64 x, .int .i64 y, .int .i64 h, .bool m] 86)).alloc (.cells #[.int .i64 p, .int .i64 q, .int .i64 v, .slice b n c2, .int .i64 x, .int .i64 y, .int .i64 h, .bool m] 86))
  have HA : Hid (IAt w a n l) := ha
  have HB : Hid (IAt w b n l) := hb
  have em : (m != m) = false := by simp
  clear t0 t1 t2 ha hb
  go_enter Tryz.func38, Tryz.ntmps38
  go_wp2_with (first
    | (go_at_call 70; refine hR.mono ?_; clear hR; rintro e w2 ⟨rfl, hb2⟩; have HBW : Hid (Below w.heap.size w w2) := HBX.out.trans (hb2.mono (by simp; omega)); have U0 := keepb T0.out hb2; have U1 := keepb T1.out hb2; obtain ⟨⟨s0, s1, s2, s3, s4, s5, s6, s7⟩, _⟩ := cells8 U0.out; obtain ⟨⟨z0, z1, z2, z3, z4, z5, z6, z7⟩, _⟩ := cells8 U1.out; clear hb2; have hO := eqOut_any v a b n c1 c2 l x y w2 hl (HA.out.below HBW.out (Nat.le_refl _)) (HB.out.below HBW.out (Nat.le_refl _)))
    | (go_at_call 71; refine hO.mono ?_; clear hO; rintro e w3 ⟨rfl, hb3⟩; have HBV : Hid (Below w.heap.size w w3) := HBW.out.trans (hb3.mono HBW.out.size); clear s0 s1 s2 s3 s4 s5 s6 s7 z0 z1 z2 z3 z4 z5 z6 z7; have V0 := keepb U0.out hb3; have V1 := keepb U1.out hb3; obtain ⟨⟨s0, s1, s2, s3, s4, s5, s6, s7⟩, _⟩ := cells8 V0.out; obtain ⟨⟨z0, z1, z2, z3, z4, z5, z6, z7⟩, _⟩ := cells8 V1.out; clear hb3))
  go_ret
  exact ⟨rfl, HBV.out⟩

set_option maxHeartbeats 4000000 in
theorem eqCs_any (a b : Option Addr) (n c1 c2 : Nat) (cs : List Co) (w : World) (hl : n ≤ 1048576) (hk : ∀ j, j < n → (cs.getD j C0).l.length ≤ 1048576) (ha : CAt w a n cs) (hb : CAt w b n cs) :
    Calls Tryz.prog 14 #[.slice a n c1, .slice b n c2] w fun e w' => e = .returned (.bool true) ∧ Below w.heap.size w w' := by
  have HA : Hid (CAt w a n cs) := ha
  have HB : Hid (CAt w b n cs) := hb
  have HKL : Hid (∀ j, j < n → (cs.getD j C0).l.length ≤ 1048576) := hk
  clear ha hb hk
  go_enter Tryz.func14, Tryz.ntmps14
  go_wp2
  go_loopw [5] (fun i wr => ∃ k : Nat, k ≤ n ∧ i = .int .i64 k ∧ Below w.heap.size w wr) (fun i _ => n - (intOf i).toNat)
  case atStart => exact ⟨0, Nat.zero_le _, rfl, Below.refl _ _⟩
  case round =>
    obtain ⟨k, hk, rfl, hbel⟩ := hrel
    by_cases hlt : k < n
    · rcases HA.out.2 with h0 | ⟨b0, o0, e0, l0, d0⟩
      · omega
      subst e0
      rcases HB.out.2 with h0 | ⟨b1, o1, e1, l1, d1⟩
      · omega
      subst e1
      obtain ⟨o, ho⟩ : ∃ o, o = cs.getD k C0 := ⟨_, rfl⟩
      obtain ⟨ka, kc, p0, p4, p5⟩ := d0 k hlt
      obtain ⟨ja, jc, q0, q4, q5⟩ := d1 k hlt
      have hol := HKL.out k hlt
      rw [← ho] at p0 p5 q0 q5 hol
      obtain ⟨op, oq, ov, ol, ox, oy, oh, om⟩ := o
      obtain ⟨x0, x1, x2, x3, x4, x5, x6, x7⟩ := p0.below hbel l0
      obtain ⟨y0, y1, y2, y3, y4, y5, y6, y7⟩ := q0.below hbel l1
      simp only at x0 x1 x2 x3 x4 x5 x6 x7 y0 y1 y2 y3 y4 y5 y6 y7 hol p5 q5
      have hki : (k : Int) < (n : Int) := by omega
      have hw0 : b0 < wr.heap.size := Nat.lt_of_lt_of_le l0 hbel.size
      have hw1 : b1 < wr.heap.size := Nat.lt_of_lt_of_le l1 hbel.size
      have hcall : Calls Tryz.prog 38 #[.agg #[.int .i64 op, .int .i64 oq, .int .i64 ov, .slice ka ol.length kc, .int .i64 ox, .int .i64 oy, .int .i64 oh, .bool om], .agg #[.int .i64 op, .int .i64 oq, .int .i64 ov, .slice ja ol.length jc, .int .i64 ox, .int .i64 oy, .int .i64 oh, .bool om]] wr.drew fun e w' => e = .returned (.bool true) ∧ Below wr.heap.size wr w' :=
        (eqCoin_any op oq ov ka ja ol.length kc jc ol ox oy oh om _ hol ((p5.below hbel (Nat.le_refl _)).below (Below.refl _ _).drew (Nat.le_refl _)) ((q5.below hbel (Nat.le_refl _)).below (Below.refl _ _).drew (Nat.le_refl _))).mono fun e w' h => ⟨h.1, (Below.refl _ _).drew.trans h.2⟩
      clear ho d0 d1 p0 p4 p5 q0 q4 q5 hol
      go_wp2
      go_region_held3 (fun w' => (w'.cell? ⟨b0, o0 + k * 8, none⟩ = some (.int .i64 op) ∧ w'.cell? ⟨b0, o0 + k * 8 + 1, none⟩ = some (.int .i64 oq) ∧ w'.cell? ⟨b0, o0 + k * 8 + 2, none⟩ = some (.int .i64 ov) ∧ w'.cell? ⟨b0, o0 + k * 8 + 3, none⟩ = some (.slice ka ol.length kc) ∧ w'.cell? ⟨b0, o0 + k * 8 + 4, none⟩ = some (.int .i64 ox) ∧ w'.cell? ⟨b0, o0 + k * 8 + 5, none⟩ = some (.int .i64 oy) ∧ w'.cell? ⟨b0, o0 + k * 8 + 6, none⟩ = some (.int .i64 oh) ∧ w'.cell? ⟨b0, o0 + k * 8 + 7, none⟩ = some (.bool om)) ∧ w'.cell? ⟨b1, o1 + k * 8, none⟩ = some (.int .i64 op) ∧ w'.cell? ⟨b1, o1 + k * 8 + 1, none⟩ = some (.int .i64 oq) ∧ w'.cell? ⟨b1, o1 + k * 8 + 2, none⟩ = some (.int .i64 ov) ∧ w'.cell? ⟨b1, o1 + k * 8 + 3, none⟩ = some (.slice ja ol.length jc) ∧ w'.cell? ⟨b1, o1 + k * 8 + 4, none⟩ = some (.int .i64 ox) ∧ w'.cell? ⟨b1, o1 + k * 8 + 5, none⟩ = some (.int .i64 oy) ∧ w'.cell? ⟨b1, o1 + k * 8 + 6, none⟩ = some (.int .i64 oh) ∧ w'.cell? ⟨b1, o1 + k * 8 + 7, none⟩ = some (.bool om)) (go_keep)
        (first | (go_at_call 38; refine hcall.mono ?_; rintro e w3 ⟨rfl, hb3⟩; have z0 := (hb3.cell (p := ⟨b0, o0 + k * 8, none⟩) hw0).trans x0; have z1 := (hb3.cell (p := ⟨b0, o0 + k * 8 + 1, none⟩) hw0).trans x1; have z2 := (hb3.cell (p := ⟨b0, o0 + k * 8 + 2, none⟩) hw0).trans x2; have z3 := (hb3.cell (p := ⟨b0, o0 + k * 8 + 3, none⟩) hw0).trans x3; have z4 := (hb3.cell (p := ⟨b0, o0 + k * 8 + 4, none⟩) hw0).trans x4; have z5 := (hb3.cell (p := ⟨b0, o0 + k * 8 + 5, none⟩) hw0).trans x5; have z6 := (hb3.cell (p := ⟨b0, o0 + k * 8 + 6, none⟩) hw0).trans x6; have z7 := (hb3.cell (p := ⟨b0, o0 + k * 8 + 7, none⟩) hw0).trans x7; have v0 := (hb3.cell (p := ⟨b1, o1 + k * 8, none⟩) hw1).trans y0; have v1 := (hb3.cell (p := ⟨b1, o1 + k * 8 + 1, none⟩) hw1).trans y1; have v2 := (hb3.cell (p := ⟨b1, o1 + k * 8 + 2, none⟩) hw1).trans y2; have v3 := (hb3.cell (p := ⟨b1, o1 + k * 8 + 3, none⟩) hw1).trans y3; have v4 := (hb3.cell (p := ⟨b1, o1 + k * 8 + 4, none⟩) hw1).trans y4; have v5 := (hb3.cell (p := ⟨b1, o1 + k * 8 + 5, none⟩) hw1).trans y5; have v6 := (hb3.cell (p := ⟨b1, o1 + k * 8 + 6, none⟩) hw1).trans y6; have v7 := (hb3.cell (p := ⟨b1, o1 + k * 8 + 7, none⟩) hw1).trans y7))
      go_wp2
      go_roundw
      case rel => exact ⟨k + 1, by omega, by go_num, hbel.trans (hb3.mono hbel.size)⟩
      case measure => simp [intOf]; omega
    · go_wp2
      go_ret
      exact ⟨rfl, hbel⟩

end Go.Proofs.YtacjgnefomdoaaaGreatDoor

namespace Go.Proofs.YtacjgnefomdoaaaGreatDoor
open Go.RowKit Go.Maps Go.WideMaps

theorem Chg.refl (w : World) (lo hi : Nat) : Chg w w lo hi := ⟨rfl, rfl, rfl, Nat.le_refl _, fun _ _ _ => rfl⟩
theorem Chg.setCell {w W : World} {lo hi g t : Nat} (h : Chg w W lo hi) (hg : lo ≤ g ∧ g < hi) (u : Value) : Chg w (W.setCell ⟨g, t, none⟩ u) lo hi :=
  ⟨h.os, h.tape, h.output, by simpa using h.size, fun b hb ho => (Below.heap_setCell _ ⟨g, t, none⟩ u b (show b ≠ g by omega)).trans (h.block b hb ho)⟩

/-- The eight cells of a coin in a row. -/
def CellsC (xs : List Value) (j : Nat) (c : Co) (u : Value) : Prop :=
  xs[j * 8]? = some (.int .i64 c.p) ∧ xs[j * 8 + 1]? = some (.int .i64 c.q) ∧ xs[j * 8 + 2]? = some (.int .i64 c.v) ∧ xs[j * 8 + 3]? = some (u) ∧ xs[j * 8 + 4]? = some (.int .i64 c.x) ∧ xs[j * 8 + 5]? = some (.int .i64 c.y) ∧ xs[j * 8 + 6]? = some (.int .i64 c.h) ∧ xs[j * 8 + 7]? = some (.bool c.m)

/-- Coins whose row and whose keys' rows lie in blocks from lo on and below hi, no two in one. -/
structure COwn (w : World) (lo hi : Nat) (v : Value) (n : Nat) (f : Nat → Co) (kv : Nat → Value) : Prop where
  row : ∃ xs, w.ownsRow lo 86 8 v n xs ∧ ∀ j, j < n → CellsC xs j (f j) (kv j)
  top : ∀ b, v.ownBlock = some b → b < hi
  keys : ∀ j, j < n → w.ownsRow lo 2 1 (kv j) (f j).l.length (ints (f j).l) ∧ ∀ b, (kv j).ownBlock = some b → b < hi
  apart : ∀ i j, i < j → j < n → ∀ b, (kv i).ownBlock = some b → (kv j).ownBlock ≠ some b

theorem COwn.below {w w' : World} {lo hi n : Nat} {v : Value} {f : Nat → Co} {kv : Nat → Value} (h : COwn w lo hi v n f kv) (hb : Below w.heap.size w w') : COwn w' lo hi v n f kv := by
  obtain ⟨xs, h1, h2⟩ := h.row
  exact ⟨⟨xs, h1.kept (grown_of_below hb) (by cases Value.ownBlock v <;> simp), h2⟩, h.top, fun j hj => ⟨(h.keys j hj).1.kept (grown_of_below hb) (by cases Value.ownBlock (kv j) <;> simp), (h.keys j hj).2⟩, h.apart⟩
theorem COwn.chg {w w' : World} {lo hi n lo' hi' : Nat} {v : Value} {f : Nat → Co} {kv : Nat → Value} (h : COwn w lo hi v n f kv) (hc : Chg w w' lo' hi') (hd : hi ≤ lo' ∨ hi' ≤ lo) : COwn w' lo hi v n f kv := by
  obtain ⟨xs, h1, h2⟩ := h.row
  refine ⟨⟨xs, hc.row h1 fun k hk => ?_, h2⟩, h.top, fun j hj => ⟨hc.row (h.keys j hj).1 fun k hk => ?_, (h.keys j hj).2⟩, h.apart⟩
  · have a := h.top k hk
    have b := (h1.lt k hk).1
    omega
  · have a := (h.keys j hj).2 k hk
    have b := ((h.keys j hj).1.lt k hk).1
    omega
theorem COwn.mono {w : World} {lo hi hi' n : Nat} {v : Value} {f : Nat → Co} {kv : Nat → Value} (h : COwn w lo hi v n f kv) (hh : hi ≤ hi') : COwn w lo hi' v n f kv :=
  ⟨h.row, fun b hb => Nat.lt_of_lt_of_le (h.top b hb) hh, fun j hj => ⟨(h.keys j hj).1, fun b hb => Nat.lt_of_lt_of_le ((h.keys j hj).2 b hb) hh⟩, h.apart⟩

theorem COwn.cells {w : World} {lo hi n g cap : Nat} {f : Nat → Co} {kv : Nat → Value} (h : COwn w lo hi (.slice (some ⟨g, 0, none⟩) n cap) n f kv) {j : Nat} (hj : j < n) {c : Co} (hc : f j = c) {u : Value} (hu : kv j = u) :
    (w.cell? ⟨g, j * 8, none⟩ = some (.int .i64 c.p) ∧ w.cell? ⟨g, j * 8 + 1, none⟩ = some (.int .i64 c.q) ∧ w.cell? ⟨g, j * 8 + 2, none⟩ = some (.int .i64 c.v) ∧ w.cell? ⟨g, j * 8 + 3, none⟩ = some (u) ∧ w.cell? ⟨g, j * 8 + 4, none⟩ = some (.int .i64 c.x) ∧ w.cell? ⟨g, j * 8 + 5, none⟩ = some (.int .i64 c.y) ∧ w.cell? ⟨g, j * 8 + 6, none⟩ = some (.int .i64 c.h) ∧ w.cell? ⟨g, j * 8 + 7, none⟩ = some (.bool c.m)) ∧ (w.frozen? ⟨g, j * 8, none⟩ = false ∧ w.frozen? ⟨g, j * 8 + 1, none⟩ = false ∧ w.frozen? ⟨g, j * 8 + 2, none⟩ = false ∧ w.frozen? ⟨g, j * 8 + 3, none⟩ = false ∧ w.frozen? ⟨g, j * 8 + 4, none⟩ = false ∧ w.frozen? ⟨g, j * 8 + 5, none⟩ = false ∧ w.frozen? ⟨g, j * 8 + 6, none⟩ = false ∧ w.frozen? ⟨g, j * 8 + 7, none⟩ = false) := by
  obtain ⟨xs, h1, h2⟩ := h.row
  have h3 := h2 j hj
  rw [hc, hu] at h3
  obtain ⟨a0, a1, a2, a3, a4, a5, a6, a7⟩ := h3
  have hl := h1.1
  exact ⟨⟨(h1.cellAt (j * 8) (by omega)).trans a0, (h1.cellAt (j * 8 + 1) (by omega)).trans a1, (h1.cellAt (j * 8 + 2) (by omega)).trans a2, (h1.cellAt (j * 8 + 3) (by omega)).trans a3, (h1.cellAt (j * 8 + 4) (by omega)).trans a4, (h1.cellAt (j * 8 + 5) (by omega)).trans a5, (h1.cellAt (j * 8 + 6) (by omega)).trans a6, (h1.cellAt (j * 8 + 7) (by omega)).trans a7⟩, h1.frozenAt _, h1.frozenAt _, h1.frozenAt _, h1.frozenAt _, h1.frozenAt _, h1.frozenAt _, h1.frozenAt _, h1.frozenAt _⟩

end Go.Proofs.YtacjgnefomdoaaaGreatDoor
