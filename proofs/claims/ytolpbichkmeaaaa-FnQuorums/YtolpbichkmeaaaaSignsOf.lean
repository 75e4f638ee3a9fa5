/- What SignsOf answers: the specification's and the program's. What the specification's SignsOf answers. The marks of lists of numbers, and results that hold one compared. -/
import Derived.Test.YtolpbichkmeaaaaIdOf
import Derived.Test.YtolpbichkmeaaaaMk
import Derived.Deep.RegionLaw
namespace Go.Proofs.Ytolpbichkmeaaaa
open Go.RowKit Go.Maps Go.WideMaps
attribute [local go_sem ↓] Go.wp_at_zero Go.wp_at_succ

theorem Try.infoI64 : (Try.prog.info? 2).map (fun i => (i.zero, i.size, i.bytes)) = some (some (.int .i64 0), 1, 8) := by kernel_rfl

def ints (l : List Int) : List Value := l.map (Value.int .i64)

theorem news1 {W : World} {H : Nat} {u : Value} {t : TypeId} (h : W.heap[H]? = some (.cells #[u] t (0, 0))) : ∀ j v, [u][j]? = some v → W.cell? ((⟨H, 0, none⟩ : Addr).add j) = some v := by
  intro j v hj
  match j, hj with
  | 0, hj => simp at hj; subst hj; simp [Addr.add, World.cell?, h]
theorem one1 {a : Int} : ∀ u ∈ [Value.int .i64 a], u.oneCell' = true := by
  intro u hu
  simp at hu
  subst hu; rfl
theorem heap_alloc_at (w : World) (o : Obj) (n : Nat) (h : n = w.heap.size) : (w.alloc o).heap[n]? = some o := by rw [h]; exact heap_alloc_new w o

end Go.Proofs.Ytolpbichkmeaaaa

namespace Go.Proofs.Ytolpbichkmeaaaa
open Go.RowKit Go.Maps Go.WideMaps
attribute [local go_sem ↓] Go.wp_at_zero Go.wp_at_succ

end Go.Proofs.Ytolpbichkmeaaaa

namespace Go.Proofs.Ytolpbichkmeaaaa
open Go.RowKit Go.Maps Go.WideMaps

def IAt (w : World) (a : Option Addr) (n : Nat) (l : List Int) : Prop :=
  l.length = n ∧ (n = 0 ∨ ∃ b off, a = some ⟨b, off, none⟩ ∧ b < w.heap.size ∧ ∀ j, j < n → w.cell? ⟨b, off + j, none⟩ = some (.int .i64 (l.getD j 0)))

theorem IAt.below {w w' : World} {a : Option Addr} {n : Nat} {l : List Int} (h : IAt w a n l) {B : Nat} (hb : Below B w w') (hB : w.heap.size ≤ B) : IAt w' a n l := by
  obtain ⟨hn, h | ⟨b, off, rfl, hlt, hc⟩⟩ := h
  · exact ⟨hn, .inl h⟩
  · exact ⟨hn, .inr ⟨b, off, rfl, Nat.lt_of_lt_of_le hlt hb.size, fun j hj => (hb.cell (p := ⟨b, off + j, none⟩) (Nat.lt_of_lt_of_le hlt hB)).trans (hc j hj)⟩⟩

theorem IAt.owned {w : World} {base n c : Nat} {a : Option Addr} {l : List Int} (h : w.ownsRow base 2 1 (.slice a n c) n (ints l)) (hn : l.length = n) : IAt w a n l := by
  refine ⟨hn, ?_⟩
  rcases id h.2 with ⟨_, h0⟩ | ⟨g, cap, cur, e, _⟩
  · exact .inl h0
  · simp at e
    obtain ⟨rfl, rfl⟩ := e
    refine .inr ⟨g, 0, rfl, (h.lt g rfl).2, fun j hj => ?_⟩
    rw [Nat.zero_add, h.cellAt j (by omega)]
    simp [ints, List.getD, show j < l.length by omega]

/-- A list of numbers in memory of its own, blocks from 'lo' to 'hi'. -/
structure Own1 (w : World) (lo hi : Nat) (a : Option Addr) (n c : Nat) (xs : List Value) : Prop where
  t : w.ownsRow lo 2 1 (.slice a n c) n xs
  tb : ∀ b, Value.ownBlock (.slice a n c) = some b → b < hi
theorem Own1.chg {w w' : World} {lo hi n c : Nat} {a : Option Addr} {xs : List Value} (h : Own1 w lo hi a n c xs) {lo' hi' : Nat} (hc : Chg w w' lo' hi') (hd : hi ≤ lo' ∨ hi' ≤ lo) : Own1 w' lo hi a n c xs :=
  ⟨hc.row h.t (fun k hk => by have := h.tb k hk; have := (h.t.lt k hk).1; omega), h.tb⟩
theorem Own1.below {w w' : World} {lo hi n c : Nat} {a : Option Addr} {xs : List Value} (h : Own1 w lo hi a n c xs) (hb : Below w.heap.size w w') : Own1 w' lo hi a n c xs :=
  h.chg (Chg.of_below hb hi hi) (.inl (Nat.le_refl _))

end Go.Proofs.Ytolpbichkmeaaaa
