/- Lists of numbers in memory of one's own, marked; small helps for the laws on lists of numbers. -/
import Derived.Test.YtolpbichkmeaaaaRu
namespace Go.Proofs.Ytolpbichkmeaaaa
open Go.RowKit Go.Maps Go.WideMaps

theorem own1_new {w : World} {base n c : Nat} {a : Option Addr} {xs : List Value} (h : w.ownsRow base 2 1 (.slice a n c) n xs) : Own1 w base w.heap.size a n c xs := ⟨h, fun b hb => (h.lt b hb).2⟩
theorem row_caps1 {w : World} {base n c g : Nat} {xs : List Value} {e : TypeId} (h : w.ownsRow base e 1 (.slice (some ⟨g, 0, none⟩) n c) n xs) : n ≤ c ∧ c ≤ maxLen := by
  rcases id h.2 with ⟨e, _⟩ | ⟨g', c', cur, e, _, _, k1, k2, _⟩
  · cases e
  · simp at e
    obtain ⟨rfl, rfl⟩ := e
    exact ⟨k1, k2⟩
end Go.Proofs.Ytolpbichkmeaaaa
