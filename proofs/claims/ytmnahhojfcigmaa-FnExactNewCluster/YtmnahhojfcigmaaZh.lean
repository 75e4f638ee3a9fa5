/- What a voter answers that votes, for a block and for a coin: the vote, and the voter with choices of its own. -/
import Derived.Test.YtmnahhojfcigmaaZa
import Derived.Test.YtmnahhojfcigmaaTxA
import Derived.Lib.QuietBelow
import Derived.Test.YtmnahhojfcigmaaRu
import Derived.Test.YtmnahhojfcigmaaOpR
import Derived.Deep.Slices
import Derived.Test.YtmnahhojfcigmaaLc
import Derived.Test.YtmnahhojfcigmaaEe
import Derived.BigRegion
import Derived.Test.YtmnahhojfcigmaaZe
import Derived.Deep.DeepCutAuto
import Derived.Deep.RegionHeld3
namespace Go.Proofs.Ytmnahhojfcigmaa
open Go.RowKit Go.Maps Go.WideMaps

theorem row_neV {w : World} {base n z R : Nat} {e t : TypeId} {v : Value} {xs : List Value} {cs : Array Value} (h : w.ownsRow base e z v n xs) (hR : w.heap[R]? = some (.cells cs t (0, 0))) (hne : t ≠ e) : v.ownBlock ≠ some R := by
  rcases id h.2 with ⟨rfl, _⟩ | ⟨g, c, cur', rfl, _, hh, _⟩
  · simp [Value.ownBlock]
  · simp only [Value.ownBlock, ne_eq, Option.some.injEq]
    rintro rfl
    rw [hR] at hh
    simp at hh
    exact hne hh.2
end Go.Proofs.Ytmnahhojfcigmaa
