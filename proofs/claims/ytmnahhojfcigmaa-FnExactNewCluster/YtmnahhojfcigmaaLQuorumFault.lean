/- The law on QuorumFault answers true, whatever quorum comes in, and writes nothing that was there. -/
import Derived.Test.YtmnahhojfcigmaaXd
namespace Go.Proofs.Ytmnahhojfcigmaa
open Go.RowKit Go.Maps Go.WideMaps

/-- What is known behind a call of a block of two cells. -/
theorem keep2 {v v' : World} {P : Nat} {c0 c1 : Value} (hl : P < v.heap.size) (hb : Below v.heap.size v v') (h : v.cell? ⟨P, 0, none⟩ = some c0 ∧ v.cell? ⟨P, 1, none⟩ = some c1) : v'.cell? ⟨P, 0, none⟩ = some c0 ∧ v'.cell? ⟨P, 1, none⟩ = some c1 :=
  ⟨(hb.cell (p := ⟨P, 0, none⟩) hl).trans h.1, (hb.cell (p := ⟨P, 1, none⟩) hl).trans h.2⟩

end Go.Proofs.Ytmnahhojfcigmaa
