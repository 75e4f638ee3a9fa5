/- Coins that come in: their size is told, they are copied into new memory, two lists are compared. -/
import Derived.Test.YtobmongmmnldpaaDoorTxA
namespace Go.Proofs.YtobmongmmnldpaaDoor
open Go.RowKit Go.Maps Go.WideMaps

section
variable {w w2 W v : World} {b B : Nat} {c0 c1 c2 c3 c4 c5 c6 c7 : Value} {t : TypeId}
theorem cells8 (h : v.heap[b]? = some (.cells #[c0, c1, c2, c3, c4, c5, c6, c7] t (0, 0))) :
    (v.cell? ⟨b, 0, none⟩ = some c0 ∧ v.cell? ⟨b, 1, none⟩ = some c1 ∧ v.cell? ⟨b, 2, none⟩ = some c2 ∧ v.cell? ⟨b, 3, none⟩ = some c3 ∧ v.cell? ⟨b, 4, none⟩ = some c4 ∧ v.cell? ⟨b, 5, none⟩ = some c5 ∧ v.cell? ⟨b, 6, none⟩ = some c6 ∧ v.cell? ⟨b, 7, none⟩ = some c7) ∧ (v.frozen? ⟨b, 0, none⟩ = false ∧ v.frozen? ⟨b, 1, none⟩ = false ∧ v.frozen? ⟨b, 2, none⟩ = false ∧ v.frozen? ⟨b, 3, none⟩ = false ∧ v.frozen? ⟨b, 4, none⟩ = false ∧ v.frozen? ⟨b, 5, none⟩ = false ∧ v.frozen? ⟨b, 6, none⟩ = false ∧ v.frozen? ⟨b, 7, none⟩ = false) :=
  ⟨⟨by unfold World.cell?; rw [h]; rfl, by unfold World.cell?; rw [h]; rfl, by unfold World.cell?; rw [h]; rfl, by unfold World.cell?; rw [h]; rfl, by unfold World.cell?; rw [h]; rfl, by unfold World.cell?; rw [h]; rfl, by unfold World.cell?; rw [h]; rfl, by unfold World.cell?; rw [h]; rfl⟩, Joins.unfrozen_of_block h 0, Joins.unfrozen_of_block h 1, Joins.unfrozen_of_block h 2, Joins.unfrozen_of_block h 3, Joins.unfrozen_of_block h 4, Joins.unfrozen_of_block h 5, Joins.unfrozen_of_block h 6, Joins.unfrozen_of_block h 7⟩
theorem set8_1 (h : W.heap[b]? = some (.cells #[c0, c1, c2, c3, c4, c5, c6, c7] t (0, 0))) (v0 : Value) : (W.setCell ⟨b, 0, none⟩ v0).heap[b]? = some (.cells #[v0, c1, c2, c3, c4, c5, c6, c7] t (0, 0)) := by
  have := Joins.block_setCell (i := 0) h v0
  simpa using this
theorem set8_2 (h : W.heap[b]? = some (.cells #[c0, c1, c2, c3, c4, c5, c6, c7] t (0, 0))) (v0 v1 : Value) : ((W.setCell ⟨b, 0, none⟩ v0).setCell ⟨b, 1, none⟩ v1).heap[b]? = some (.cells #[v0, v1, c2, c3, c4, c5, c6, c7] t (0, 0)) := by
  have := Joins.block_setCell (i := 1) (set8_1 h v0) v1
  simpa using this
theorem set8_3 (h : W.heap[b]? = some (.cells #[c0, c1, c2, c3, c4, c5, c6, c7] t (0, 0))) (v0 v1 v2 : Value) : (((W.setCell ⟨b, 0, none⟩ v0).setCell ⟨b, 1, none⟩ v1).setCell ⟨b, 2, none⟩ v2).heap[b]? = some (.cells #[v0, v1, v2, c3, c4, c5, c6, c7] t (0, 0)) := by
  have := Joins.block_setCell (i := 2) (set8_2 h v0 v1) v2
  simpa using this
theorem set8_4 (h : W.heap[b]? = some (.cells #[c0, c1, c2, c3, c4, c5, c6, c7] t (0, 0))) (v0 v1 v2 v3 : Value) : ((((W.setCell ⟨b, 0, none⟩ v0).setCell ⟨b, 1, none⟩ v1).setCell ⟨b, 2, none⟩ v2).setCell ⟨b, 3, none⟩ v3).heap[b]? = some (.cells #[v0, v1, v2, v3, c4, c5, c6, c7] t (0, 0)) := by
  have := Joins.block_setCell (i := 3) (set8_3 h v0 v1 v2) v3
  simpa using this
theorem set8_5 (h : W.heap[b]? = some (.cells #[c0, c1, c2, c3, c4, c5, c6, c7] t (0, 0))) (v0 v1 v2 v3 v4 : Value) : (((((W.setCell ⟨b, 0, none⟩ v0).setCell ⟨b, 1, none⟩ v1).setCell ⟨b, 2, none⟩ v2).setCell ⟨b, 3, none⟩ v3).setCell ⟨b, 4, none⟩ v4).heap[b]? = some (.cells #[v0, v1, v2, v3, v4, c5, c6, c7] t (0, 0)) := by
  have := Joins.block_setCell (i := 4) (set8_4 h v0 v1 v2 v3) v4
  simpa using this
theorem set8_6 (h : W.heap[b]? = some (.cells #[c0, c1, c2, c3, c4, c5, c6, c7] t (0, 0))) (v0 v1 v2 v3 v4 v5 : Value) : ((((((W.setCell ⟨b, 0, none⟩ v0).setCell ⟨b, 1, none⟩ v1).setCell ⟨b, 2, none⟩ v2).setCell ⟨b, 3, none⟩ v3).setCell ⟨b, 4, none⟩ v4).setCell ⟨b, 5, none⟩ v5).heap[b]? = some (.cells #[v0, v1, v2, v3, v4, v5, c6, c7] t (0, 0)) := by
  have := Joins.block_setCell (i := 5) (set8_5 h v0 v1 v2 v3 v4) v5
  simpa using this
theorem set8_7 (h : W.heap[b]? = some (.cells #[c0, c1, c2, c3, c4, c5, c6, c7] t (0, 0))) (v0 v1 v2 v3 v4 v5 v6 : Value) : (((((((W.setCell ⟨b, 0, none⟩ v0).setCell ⟨b, 1, none⟩ v1).setCell ⟨b, 2, none⟩ v2).setCell ⟨b, 3, none⟩ v3).setCell ⟨b, 4, none⟩ v4).setCell ⟨b, 5, none⟩ v5).setCell ⟨b, 6, none⟩ v6).heap[b]? = some (.cells #[v0, v1, v2, v3, v4, v5, v6, c7] t (0, 0)) := by
  have := Joins.block_setCell (i := 6) (set8_6 h v0 v1 v2 v3 v4 v5) v6
  simpa using this
theorem set8_8 (h : W.heap[b]? = some (.cells #[c0, c1, c2, c3, c4, c5, c6, c7] t (0, 0))) (v0 v1 v2 v3 v4 v5 v6 v7 : Value) : ((((((((W.setCell ⟨b, 0, none⟩ v0).setCell ⟨b, 1, none⟩ v1).setCell ⟨b, 2, none⟩ v2).setCell ⟨b, 3, none⟩ v3).setCell ⟨b, 4, none⟩ v4).setCell ⟨b, 5, none⟩ v5).setCell ⟨b, 6, none⟩ v6).setCell ⟨b, 7, none⟩ v7).heap[b]? = some (.cells #[v0, v1, v2, v3, v4, v5, v6, v7] t (0, 0)) := by
  have := Joins.block_setCell (i := 7) (set8_7 h v0 v1 v2 v3 v4 v5 v6) v7
  simpa using this
theorem eight_set (h : W.heap[b]? = some (.cells #[c0, c1, c2, c3, c4, c5, c6, c7] t (0, 0))) (v0 v1 v2 v3 v4 v5 v6 v7 : Value) :
    (W.setCell ⟨b, 0, none⟩ v0).cell? ⟨b, 0, none⟩ = some v0 ∧ ((W.setCell ⟨b, 0, none⟩ v0).setCell ⟨b, 1, none⟩ v1).cell? ⟨b, 1, none⟩ = some v1 ∧ (((W.setCell ⟨b, 0, none⟩ v0).setCell ⟨b, 1, none⟩ v1).setCell ⟨b, 2, none⟩ v2).cell? ⟨b, 2, none⟩ = some v2 ∧ ((((W.setCell ⟨b, 0, none⟩ v0).setCell ⟨b, 1, none⟩ v1).setCell ⟨b, 2, none⟩ v2).setCell ⟨b, 3, none⟩ v3).cell? ⟨b, 3, none⟩ = some v3 ∧ (((((W.setCell ⟨b, 0, none⟩ v0).setCell ⟨b, 1, none⟩ v1).setCell ⟨b, 2, none⟩ v2).setCell ⟨b, 3, none⟩ v3).setCell ⟨b, 4, none⟩ v4).cell? ⟨b, 4, none⟩ = some v4 ∧ ((((((W.setCell ⟨b, 0, none⟩ v0).setCell ⟨b, 1, none⟩ v1).setCell ⟨b, 2, none⟩ v2).setCell ⟨b, 3, none⟩ v3).setCell ⟨b, 4, none⟩ v4).setCell ⟨b, 5, none⟩ v5).cell? ⟨b, 5, none⟩ = some v5 ∧ (((((((W.setCell ⟨b, 0, none⟩ v0).setCell ⟨b, 1, none⟩ v1).setCell ⟨b, 2, none⟩ v2).setCell ⟨b, 3, none⟩ v3).setCell ⟨b, 4, none⟩ v4).setCell ⟨b, 5, none⟩ v5).setCell ⟨b, 6, none⟩ v6).cell? ⟨b, 6, none⟩ = some v6 ∧ ((((((((W.setCell ⟨b, 0, none⟩ v0).setCell ⟨b, 1, none⟩ v1).setCell ⟨b, 2, none⟩ v2).setCell ⟨b, 3, none⟩ v3).setCell ⟨b, 4, none⟩ v4).setCell ⟨b, 5, none⟩ v5).setCell ⟨b, 6, none⟩ v6).setCell ⟨b, 7, none⟩ v7).cell? ⟨b, 7, none⟩ = some v7 :=
  ⟨(cells8 (set8_1 h v0)).1.1, (cells8 (set8_2 h v0 v1)).1.2.1, (cells8 (set8_3 h v0 v1 v2)).1.2.2.1, (cells8 (set8_4 h v0 v1 v2 v3)).1.2.2.2.1, (cells8 (set8_5 h v0 v1 v2 v3 v4)).1.2.2.2.2.1, (cells8 (set8_6 h v0 v1 v2 v3 v4 v5)).1.2.2.2.2.2.1, (cells8 (set8_7 h v0 v1 v2 v3 v4 v5 v6)).1.2.2.2.2.2.2.1, (cells8 (set8_8 h v0 v1 v2 v3 v4 v5 v6 v7)).1.2.2.2.2.2.2.2⟩
theorem below_set8 (h : Below B w W) (hb : B ≤ b) (v0 v1 v2 v3 v4 v5 v6 v7 : Value) : Below B w ((((((((W.setCell ⟨b, 0, none⟩ v0).setCell ⟨b, 1, none⟩ v1).setCell ⟨b, 2, none⟩ v2).setCell ⟨b, 3, none⟩ v3).setCell ⟨b, 4, none⟩ v4).setCell ⟨b, 5, none⟩ v5).setCell ⟨b, 6, none⟩ v6).setCell ⟨b, 7, none⟩ v7) :=
  ((((((((h.setCell (p := ⟨b, 0, none⟩) hb _).setCell (p := ⟨b, 1, none⟩) hb _).setCell (p := ⟨b, 2, none⟩) hb _).setCell (p := ⟨b, 3, none⟩) hb _).setCell (p := ⟨b, 4, none⟩) hb _).setCell (p := ⟨b, 5, none⟩) hb _).setCell (p := ⟨b, 6, none⟩) hb _).setCell (p := ⟨b, 7, none⟩) hb _)
theorem row_set8 {base n size : Nat} {e : TypeId} {u : Value} {xs : List Value} (h : W.ownsRow base e size u n xs) (hb : b < base) (v0 v1 v2 v3 v4 v5 v6 v7 : Value) : ((((((((W.setCell ⟨b, 0, none⟩ v0).setCell ⟨b, 1, none⟩ v1).setCell ⟨b, 2, none⟩ v2).setCell ⟨b, 3, none⟩ v3).setCell ⟨b, 4, none⟩ v4).setCell ⟨b, 5, none⟩ v5).setCell ⟨b, 6, none⟩ v6).setCell ⟨b, 7, none⟩ v7).ownsRow base e size u n xs :=
  (ownsRow_setCell_below (ownsRow_setCell_below (ownsRow_setCell_below (ownsRow_setCell_below (ownsRow_setCell_below (ownsRow_setCell_below (ownsRow_setCell_below (ownsRow_setCell_below h (a := ⟨b, 0, none⟩) hb _) (a := ⟨b, 1, none⟩) hb _) (a := ⟨b, 2, none⟩) hb _) (a := ⟨b, 3, none⟩) hb _) (a := ⟨b, 4, none⟩) hb _) (a := ⟨b, 5, none⟩) hb _) (a := ⟨b, 6, none⟩) hb _) (a := ⟨b, 7, none⟩) hb _)
end

structure Co where
  p : Int
  q : Int
  v : Int
  l : List Int
  x : Int
  y : Int
  h : Int
  m : Bool
def C0 : Co := ⟨0, 0, 0, [], 0, 0, 0, false⟩

/-- The eight cells of a coin. -/
def CoAt (w : World) (b i : Nat) (c : Co) (ka : Option Addr) (kc : Nat) : Prop :=
  w.cell? ⟨b, i, none⟩ = some (.int .i64 c.p) ∧ w.cell? ⟨b, i + 1, none⟩ = some (.int .i64 c.q) ∧ w.cell? ⟨b, i + 2, none⟩ = some (.int .i64 c.v) ∧ w.cell? ⟨b, i + 3, none⟩ = some (.slice ka c.l.length kc) ∧ w.cell? ⟨b, i + 4, none⟩ = some (.int .i64 c.x) ∧ w.cell? ⟨b, i + 5, none⟩ = some (.int .i64 c.y) ∧ w.cell? ⟨b, i + 6, none⟩ = some (.int .i64 c.h) ∧ w.cell? ⟨b, i + 7, none⟩ = some (.bool c.m)
theorem CoAt.below {w w' : World} {b i B : Nat} {c : Co} {ka : Option Addr} {kc : Nat} (h : CoAt w b i c ka kc) (hb : Below B w w') (hB : b < B) : CoAt w' b i c ka kc :=
  ⟨(hb.cell (p := ⟨b, i, none⟩) hB).trans h.1, (hb.cell (p := ⟨b, i + 1, none⟩) hB).trans h.2.1, (hb.cell (p := ⟨b, i + 2, none⟩) hB).trans h.2.2.1, (hb.cell (p := ⟨b, i + 3, none⟩) hB).trans h.2.2.2.1, (hb.cell (p := ⟨b, i + 4, none⟩) hB).trans h.2.2.2.2.1, (hb.cell (p := ⟨b, i + 5, none⟩) hB).trans h.2.2.2.2.2.1, (hb.cell (p := ⟨b, i + 6, none⟩) hB).trans h.2.2.2.2.2.2.1, (hb.cell (p := ⟨b, i + 7, none⟩) hB).trans h.2.2.2.2.2.2.2⟩

/-- What a slice of coins leads to: eight cells each, the keys behind the fourth. -/
def CAt (w : World) (a : Option Addr) (n : Nat) (cs : List Co) : Prop :=
  cs.length = n ∧ (n = 0 ∨ ∃ b off, a = some ⟨b, off, none⟩ ∧ b < w.heap.size ∧ ∀ j, j < n → ∃ ka kc, CoAt w b (off + j * 8) (cs.getD j C0) ka kc ∧ (cs.getD j C0).l.length ≤ maxLen ∧ IAt w ka (cs.getD j C0).l.length (cs.getD j C0).l)

theorem CAt.below {w w' : World} {a : Option Addr} {n : Nat} {cs : List Co} (h : CAt w a n cs) {B : Nat} (hb : Below B w w') (hB : w.heap.size ≤ B) : CAt w' a n cs := by
  obtain ⟨hn, h | ⟨b, off, rfl, hlt, hc⟩⟩ := h
  · exact ⟨hn, .inl h⟩
  · refine ⟨hn, .inr ⟨b, off, rfl, Nat.lt_of_lt_of_le hlt hb.size, fun j hj => ?_⟩⟩
    obtain ⟨ka, kc, h0, h1, h2⟩ := hc j hj
    exact ⟨ka, kc, h0.below hb (Nat.lt_of_lt_of_le hlt hB), h1, h2.below hb hB⟩

def SzC (n : Nat) (cs : List Co) (left r : Int) : Prop := r = -1 ∨ 0 ≤ r ∧ r ≤ left ∧ (n : Int) ≤ left ∧ ∀ j, j < n → ((cs.getD j C0).l.length : Int) ≤ left

theorem szCoin_any (p q v : Int) (a : Option Addr) (n cap : Nat) (x y h : Int) (m : Bool) (left : Int) (w : World) (h0 : 0 ≤ left) (h1 : left ≤ 1048576) (hl : n ≤ maxLen) :
    Calls Tryd.prog 10 #[.agg #[.int .i64 p, .int .i64 q, .int .i64 v, .slice a n cap, .int .i64 x, .int .i64 y, .int .i64 h, .bool m], .int .i64 left] w fun e w' => ∃ r : Int, e = .returned (.int .i64 r) ∧ SzG n left r ∧ Below w.heap.size w w' := by
  have hbx : Below w.heap.size w (w.alloc (.cells #[.int .i64 p, .int .i64 q, .int .i64 v, .slice a n cap, .int .i64 x, .int .i64 y, .int .i64 h, .bool m] 41)) := below_box _
  have hS := szOut_any v a n cap x y left (w.alloc (.cells #[.int .i64 p, .int .i64 q, .int .i64 v, .slice a n cap, .int .i64 x, .int .i64 y, .int .i64 h, .bool m] 41)) h0 h1 hl
  go_enter Tryd.func10, Tryd.ntmps10
  go_wp2_with (first
    | (go_at_call 17; refine hS.mono ?_; rintro e w2 ⟨r, rfl, hr, hb2⟩; have HB : Hid (Below w.heap.size w w2) := hbx.trans (hb2.mono (by simp)); clear hb2))
  · go_ret
    exact ⟨_, rfl, Or.inl rfl, HB.out⟩
  · go_ret
    exact ⟨_, rfl, hr, HB.out⟩

set_option maxHeartbeats 400000 in
theorem szCs_any (a : Option Addr) (n cap : Nat) (cs : List Co) (left : Int) (w : World) (h0 : 0 ≤ left) (h1 : left ≤ 1048576) (hl : n ≤ maxLen) (hs : CAt w a n cs) :
    Calls Tryd.prog 4 #[.slice a n cap, .int .i64 left] w fun e w' => ∃ r : Int, e = .returned (.int .i64 r) ∧ SzC n cs left r ∧ Below w.heap.size w w' := by
  have hl' := hl
  unfold maxLen at hl
  have HO : Hid (CAt w a n cs) := hs
  clear hs
  by_cases hn : left < n
  · go_enter Tryd.func4, Tryd.ntmps4
    go_wp2
    go_ret
    exact ⟨_, rfl, Or.inl rfl, Below.refl _ _⟩
  · go_enter Tryd.func4, Tryd.ntmps4
    go_wp2
    go_loopw [1, 5] (fun v i wr => ∃ k : Nat, k ≤ n ∧ i = .int .i64 k ∧ ∃ q : Int, v = .int .i64 q ∧ 0 ≤ q ∧ q ≤ left - n ∧ Hid (∀ j, j < k → ((cs.getD j C0).l.length : Int) ≤ left) ∧ Below w.heap.size w wr) (fun _ i _ => n - (intOf i).toNat)
    case atStart => exact ⟨0, Nat.zero_le _, rfl, _, rfl, by omega, by omega, fun j hj => by omega, Below.refl _ _⟩
    case round =>
      obtain ⟨k, hk, rfl, q, rfl, hq0, hq1, HJ, hbel⟩ := hrel
      by_cases hlt : k < n
      · rcases HO.out.2 with h00 | ⟨b, off, e0, l0, d0⟩
        · omega
        subst e0
        obtain ⟨o, ho⟩ : ∃ o, o = cs.getD k C0 := ⟨_, rfl⟩
        obtain ⟨ka, kc, c0, c4, c5⟩ := d0 k hlt
        rw [← ho] at c0 c4 c5
        have HS : Hid (o = cs.getD k C0) := ho
        obtain ⟨op, oq, ov, ol, ox, oy, oh, om⟩ := o
        obtain ⟨x0, x1, x2, x3, x4, x5, x6, x7⟩ := c0.below hbel l0
        simp only at x0 x1 x2 x3 x4 x5 x6 x7
        have hsz := szCoin_any op oq ov ka ol.length kc ox oy oh om q wr hq0 (by omega) c4
        clear c0 c4 c5 ho d0
        have hki : (k : Int) < (n : Int) := by omega
        go_wp2_with (go_at_call 10; refine hsz.mono ?_; clear hsz; rintro e w2 ⟨r, rfl, hr, hb2⟩)
        · go_ret
          exact ⟨_, rfl, Or.inl rfl, hbel.trans (hb2.mono hbel.size)⟩
        · have hr0 : 0 ≤ r := by assumption
          rcases hr with e | ⟨_, hr1, hr2⟩
          · omega
          go_roundw
          case rel =>
            refine ⟨k + 1, by omega, by go_num, _, rfl, hr0, by omega, fun j hj => ?_, hbel.trans (hb2.mono hbel.size)⟩
            by_cases e : j = k
            · subst e
              rw [← HS.out]
              show (ol.length : Int) ≤ left
              omega
            · exact HJ.out j (by omega)
          case measure => simp [intOf]; omega
      · go_wp2
        go_ret
        exact ⟨_, rfl, Or.inr ⟨hq0, by omega, by omega, fun j h => HJ.out j (by omega)⟩, hbel⟩

theorem Tryd.infoCoin : (Tryd.prog.info? 49).map (fun i => (i.zero, i.size, i.bytes)) = some (some (.agg #[.int .i64 0, .int .i64 0, .int .i64 0, .slice none 0 0, .int .i64 0, .int .i64 0, .int .i64 0, .bool false]), 8, 80) := by kernel_rfl

/-- A coin that is copied: what came, the answer's place and the copy, in three blocks of their own. -/
structure K3 (w v : World) (ps os : Array Value) : Prop where
  p : v.heap[w.heap.size]? = some (.cells ps 41 (0, 0))
  r : v.heap[w.heap.size + 1]? = some (.cells #[.int .i64 0, .int .i64 0, .int .i64 0, .slice none 0 0, .int .i64 0, .int .i64 0, .int .i64 0, .bool false] 49 (0, 0))
  o : v.heap[w.heap.size + 1 + 1]? = some (.cells os 49 (0, 0))
  bel : Below w.heap.size w v
section
variable {w v v' : World} {ps os os' : Array Value}
theorem K3.lt (h : K3 w v ps os) : w.heap.size + 1 + 1 < v.heap.size := lt_of_block h.o
theorem K3.step (h : K3 w v ps os) (hb : Below v.heap.size v v') : K3 w v' ps os :=
  ⟨(keepb h.p hb).out, (keepb h.r hb).out, (keepb h.o hb).out, h.bel.trans (hb.mono h.bel.size)⟩
theorem K3.set (h : K3 w v ps os) {i : Nat} {u : Value} (hq : os.setIfInBounds i u = os') : K3 w (v.setCell ⟨w.heap.size + 1 + 1, i, none⟩ u) ps os' := by
  refine ⟨(Below.heap_setCell _ ⟨w.heap.size + 1 + 1, i, none⟩ _ w.heap.size (show w.heap.size ≠ w.heap.size + 1 + 1 by omega)).trans h.p, (Below.heap_setCell _ ⟨w.heap.size + 1 + 1, i, none⟩ _ (w.heap.size + 1) (show w.heap.size + 1 ≠ w.heap.size + 1 + 1 by omega)).trans h.r, ?_, h.bel.setCell (p := ⟨w.heap.size + 1 + 1, i, none⟩) (show w.heap.size ≤ w.heap.size + 1 + 1 by omega) _⟩
  have := Joins.block_setCell (i := i) h.o u
  rw [hq] at this
  exact this
end

/-- A coin's copy: its keys lie in new memory. -/
def OutCo (w w' : World) (e : Ending) (p q v : Int) (n : Nat) (l : List Int) (x y h : Int) (m : Bool) : Prop :=
  ∃ g c, e = .returned (.agg #[.int .i64 p, .int .i64 q, .int .i64 v, .slice (some ⟨g, 0, none⟩) n c, .int .i64 x, .int .i64 y, .int .i64 h, .bool m]) ∧ w'.ownsRow w.heap.size 2 1 (.slice (some ⟨g, 0, none⟩) n c) n (ints l) ∧ Below w.heap.size w w'

set_option maxHeartbeats 2000000 in
theorem toCoin_any (p q v : Int) (a : Option Addr) (n cap : Nat) (l : List Int) (x y h : Int) (m : Bool) (w : World) (hl : n ≤ 1048576) (hI : IAt w a n l) :
    Calls Tryd.prog 13 #[.agg #[.int .i64 p, .int .i64 q, .int .i64 v, .slice a n cap, .int .i64 x, .int .i64 y, .int .i64 h, .bool m]] w fun e w' => OutCo w w' e p q v n l x y h m := by
  obtain ⟨t0, t1, t2, t3⟩ := three_blocks w (.cells #[.int .i64 p, .int .i64 q, .int .i64 v, .slice a n cap, .int .i64 x, .int .i64 y, .int .i64 h, .bool m] 41) (.cells #[.int .i64 0, .int .i64 0, .int .i64 0, .slice none 0 0, .int .i64 0, .int .i64 0, .int .i64 0, .bool false] 49) (.cells #[.int .i64 0, .int .i64 0, .int .i64 0, .slice none 0 0, .int .i64 0, .int .i64 0, .int .i64 0, .bool false] 49)
  have hT1 : K3 w (((w.alloc (.cells #[.int .i64 p, .int .i64 q, .int .i64 v, .slice a n cap, .int .i64 x, .int .i64 y, .int .i64 h, .bool m] 41)).alloc (.cells #[.int .i64 0, .int .i64 0, .int .i64 0, .slice none 0 0, .int .i64 0, .int .i64 0, .int .i64 0, .bool false] 49)).alloc (.cells #[.int .i64 0, .int .i64 0, .int .i64 0, .slice none 0 0, .int .i64 0, .int .i64 0, .int .i64 0, .bool false] 49)) #[.int .i64 p, .int .i64 q, .int .i64 v, .slice a n cap, .int .i64 x, .int .i64 y, .int .i64 h, .bool m] #[.int .i64 0, .int .i64 0, .int .i64 0, .slice none 0 0, .int .i64 0, .int .i64 0, .int .i64 0, .bool false] := ⟨t0, t1, t2, below_box3 _ _ _⟩
  have hS := toRef_any p q (((w.alloc (.cells #[.int .i64 p, .int .i64 q, .int .i64 v, .slice a n cap, .int .i64 x, .int .i64 y, .int .i64 h, .bool m] 41)).alloc (.cells #[.int .i64 0, .int .i64 0, .int .i64 0, .slice none 0 0, .int .i64 0, .int .i64 0, .int .i64 0, .bool false] 49)).alloc (.cells #[.int .i64 0, .int .i64 0, .int .i64 0, .slice none 0 0, .int .i64 0, .int .i64 0, .int .i64 0, .bool false] 49))
  have HT1 := show Hid (K3 w (((w.alloc (.cells #[.int .i64 p, .int .i64 q, .int .i64 v, .slice a n cap, .int .i64 x, .int .i64 y, .int .i64 h, .bool m] 41)).alloc (.cells #[.int .i64 0, .int .i64 0, .int .i64 0, .slice none 0 0, .int .i64 0, .int .i64 0, .int .i64 0, .bool false] 49)).alloc (.cells #[.int .i64 0, .int .i64 0, .int .i64 0, .slice none 0 0, .int .i64 0, .int .i64 0, .int .i64 0, .bool false] 49)) #[.int .i64 p, .int .i64 q, .int .i64 v, .slice a n cap, .int .i64 x, .int .i64 y, .int .i64 h, .bool m] #[.int .i64 0, .int .i64 0, .int .i64 0, .slice none 0 0, .int .i64 0, .int .i64 0, .int .i64 0, .bool false]) from hT1
  have HI : Hid (IAt w a n l) := hI
  obtain ⟨⟨s0, s1, s2, s3, s4, s5, s6, s7⟩, _⟩ := cells8 hT1.p
  clear t0 t1 t2 t3 hT1 hI
  go_enter Tryd.func13, Tryd.ntmps13
  go_wp2_with (first
    | (go_at_call 24; refine hS.mono ?_; clear hS; rintro e w2 ⟨rfl, hb2⟩; have HT2 : Hid (K3 w w2 #[.int .i64 p, .int .i64 q, .int .i64 v, .slice a n cap, .int .i64 x, .int .i64 y, .int .i64 h, .bool m] #[.int .i64 0, .int .i64 0, .int .i64 0, .slice none 0 0, .int .i64 0, .int .i64 0, .int .i64 0, .bool false]) := HT1.out.step hb2; have HT3 : Hid (K3 w ((w2.setCell ⟨w.heap.size + 1 + 1, 0, none⟩ (.int .i64 p)).setCell ⟨w.heap.size + 1 + 1, 1, none⟩ (.int .i64 q)) #[.int .i64 p, .int .i64 q, .int .i64 v, .slice a n cap, .int .i64 x, .int .i64 y, .int .i64 h, .bool m] #[.int .i64 p, .int .i64 q, .int .i64 0, .slice none 0 0, .int .i64 0, .int .i64 0, .int .i64 0, .bool false]) := (HT2.out.set (i := 0) (u := .int .i64 p) rfl).set (i := 1) (u := .int .i64 q) rfl; obtain ⟨⟨a0, a1, a2, a3, a4, a5, a6, a7⟩, f0, f1, f2, f3, f4, f5, f6, f7⟩ := cells8 HT2.out.o; obtain ⟨⟨z0, z1, z2, z3, z4, z5, z6, z7⟩, _⟩ := cells8 HT2.out.p; have hSO := toOut_any v a n cap l x y ((w2.setCell ⟨w.heap.size + 1 + 1, 0, none⟩ (.int .i64 p)).setCell ⟨w.heap.size + 1 + 1, 1, none⟩ (.int .i64 q)) hl (HI.out.below HT3.out.bel (Nat.le_refl _)); clear hb2)
    | (go_at_call 25; refine hSO.mono ?_; clear hSO; rintro e w3 ⟨g0, k0, rfl, ho0, hb3⟩; have HT4 : Hid (K3 w w3 #[.int .i64 p, .int .i64 q, .int .i64 v, .slice a n cap, .int .i64 x, .int .i64 y, .int .i64 h, .bool m] #[.int .i64 p, .int .i64 q, .int .i64 0, .slice none 0 0, .int .i64 0, .int .i64 0, .int .i64 0, .bool false]) := HT3.out.step hb3; have HROW : Hid (w3.ownsRow (w.heap.size + 1 + 1 + 1) 2 1 (.slice (some ⟨g0, 0, none⟩) n k0) n (ints l)) := Joins.ownsRow_le ho0 (by have := HT3.out.lt; omega); clear a0 a1 a2 a3 a4 a5 a6 a7 f0 f1 f2 f3 f4 f5 f6 f7 z0 z1 z2 z3 z4 z5 z6 z7; obtain ⟨⟨a0, a1, a2, a3, a4, a5, a6, a7⟩, f0, f1, f2, f3, f4, f5, f6, f7⟩ := cells8 HT4.out.o; obtain ⟨⟨z0, z1, z2, z3, z4, z5, z6, z7⟩, _⟩ := cells8 HT4.out.p; obtain ⟨⟨r0, r1, r2, r3, r4, r5, r6, r7⟩, q0, q1, q2, q3, q4, q5, q6, q7⟩ := cells8 HT4.out.r; clear ho0 hb3))
  have HT5 : Hid (K3 w ((((((w3.setCell ⟨w.heap.size + 1 + 1, 2, none⟩ (.int .i64 v)).setCell ⟨w.heap.size + 1 + 1, 3, none⟩ (.slice (some ⟨g0, 0, none⟩) n k0)).setCell ⟨w.heap.size + 1 + 1, 4, none⟩ (.int .i64 x)).setCell ⟨w.heap.size + 1 + 1, 5, none⟩ (.int .i64 y)).setCell ⟨w.heap.size + 1 + 1, 6, none⟩ (.int .i64 h)).setCell ⟨w.heap.size + 1 + 1, 7, none⟩ (.bool m)) #[.int .i64 p, .int .i64 q, .int .i64 v, .slice a n cap, .int .i64 x, .int .i64 y, .int .i64 h, .bool m] #[.int .i64 p, .int .i64 q, .int .i64 v, .slice (some ⟨g0, 0, none⟩) n k0, .int .i64 x, .int .i64 y, .int .i64 h, .bool m]) := ((((((HT4.out.set (i := 2) (u := .int .i64 v) rfl).set (i := 3) (u := .slice (some ⟨g0, 0, none⟩) n k0) rfl).set (i := 4) (u := .int .i64 x) rfl).set (i := 5) (u := .int .i64 y) rfl).set (i := 6) (u := .int .i64 h) rfl).set (i := 7) (u := .bool m) rfl)
  obtain ⟨j0, j1, j2, j3, j4, j5, j6, j7⟩ := eight_set HT5.out.r (.int .i64 p) (.int .i64 q) (.int .i64 v) (.slice (some ⟨g0, 0, none⟩) n k0) (.int .i64 x) (.int .i64 y) (.int .i64 h) (.bool m)
  refine bodyPost_ret (v := .agg #[.int .i64 p, .int .i64 q, .int .i64 v, .slice (some ⟨g0, 0, none⟩) n k0, .int .i64 x, .int .i64 y, .int .i64 h, .bool m]) (by simp [results, Tryd.results13, go_sem, j0, j1, j2, j3, j4, j5, j6, j7]) rfl ⟨g0, k0, rfl, ?_, ?_⟩
  · have := HROW.out
    replace this := ownsRow_setCell_below this (a := ⟨w.heap.size + 1 + 1, 2, none⟩) (show w.heap.size + 1 + 1 < _ by omega) (.int .i64 v); replace this := ownsRow_setCell_below this (a := ⟨w.heap.size + 1 + 1, 3, none⟩) (show w.heap.size + 1 + 1 < _ by omega) (.slice (some ⟨g0, 0, none⟩) n k0); replace this := ownsRow_setCell_below this (a := ⟨w.heap.size + 1 + 1, 4, none⟩) (show w.heap.size + 1 + 1 < _ by omega) (.int .i64 x); replace this := ownsRow_setCell_below this (a := ⟨w.heap.size + 1 + 1, 5, none⟩) (show w.heap.size + 1 + 1 < _ by omega) (.int .i64 y); replace this := ownsRow_setCell_below this (a := ⟨w.heap.size + 1 + 1, 6, none⟩) (show w.heap.size + 1 + 1 < _ by omega) (.int .i64 h); replace this := ownsRow_setCell_below this (a := ⟨w.heap.size + 1 + 1, 7, none⟩) (show w.heap.size + 1 + 1 < _ by omega) (.bool m)
    exact Joins.ownsRow_le (row_set8 this (by omega) _ _ _ _ _ _ _ _) (by omega)
  · exact below_set8 HT5.out.bel (by omega) _ _ _ _ _ _ _ _

end Go.Proofs.YtobmongmmnldpaaDoor
