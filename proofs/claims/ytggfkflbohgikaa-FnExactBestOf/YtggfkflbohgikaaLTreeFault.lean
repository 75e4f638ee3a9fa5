/- The law on TreeFault answers true, whatever tree comes in, where the program's TreeFault keeps its contract, and writes nothing that was there. -/
import Derived.Test.YtggfkflbohgikaaLc
import Derived.Test.YtggfkflbohgikaaNa
namespace Go.Proofs.Ytggfkflbohgikaa
open Go.RowKit Go.Maps Go.WideMaps

theorem ncaps {w : World} {base n c g : Nat} {xs : List Value} (h : w.ownsRow base 40 3 (.slice (some ⟨g, 0, none⟩) n c) n xs) : n ≤ c ∧ c ≤ maxLen := by
  rcases id h.2 with ⟨e, _⟩ | ⟨g', c', cur, e, _, _, k1, k2, _⟩
  · cases e
  · simp at e
    obtain ⟨rfl, rfl⟩ := e
    exact ⟨k1, k2⟩

end Go.Proofs.Ytggfkflbohgikaa
