/- ForkOf: the specification's. -/
import Derived.Test.YtinlhghlmfcbfaaLd
namespace Go.Proofs.Ytinlhghlmfcbfaa
open Go.RowKit Go.Maps Go.WideMaps

theorem two_end {w2 : World} {b : Nat} {w : World} (hb : Below w.heap.size w w2) (hl : w.heap.size ≤ b) (v0 v1 : Value) : Below w.heap.size w ((w2.setCell ⟨b, 0, none⟩ v0).setCell ⟨b, 1, none⟩ v1) :=
  (hb.setCell (p := ⟨b, 0, none⟩) hl _).setCell (p := ⟨b, 1, none⟩) hl _
end Go.Proofs.Ytinlhghlmfcbfaa
