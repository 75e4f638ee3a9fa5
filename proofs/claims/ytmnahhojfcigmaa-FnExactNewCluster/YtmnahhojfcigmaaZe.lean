/- Choices of the call's own: marks in them; results with a voter: compared, marked, held; a struct in a box of its own. -/
import Derived.Test.YtmnahhojfcigmaaZa
import Derived.Test.YtmnahhojfcigmaaTxA
import Derived.Lib.QuietBelow
import Derived.Test.YtmnahhojfcigmaaEe
namespace Go.Proofs.Ytmnahhojfcigmaa
open Go.RowKit Go.Maps Go.WideMaps

section
variable {w w2 W v : World} {b B : Nat} {c0 c1 c2 c3 c4 c5 c6 c7 c8 c9 : Value} {t : TypeId}
theorem cells10V (h : v.heap[b]? = some (.cells #[c0, c1, c2, c3, c4, c5, c6, c7, c8, c9] t (0, 0))) :
    v.cell? ⟨b, 0, none⟩ = some c0 ∧ v.cell? ⟨b, 1, none⟩ = some c1 ∧ v.cell? ⟨b, 2, none⟩ = some c2 ∧ v.cell? ⟨b, 3, none⟩ = some c3 ∧ v.cell? ⟨b, 4, none⟩ = some c4 ∧ v.cell? ⟨b, 5, none⟩ = some c5 ∧ v.cell? ⟨b, 6, none⟩ = some c6 ∧ v.cell? ⟨b, 7, none⟩ = some c7 ∧ v.cell? ⟨b, 8, none⟩ = some c8 ∧ v.cell? ⟨b, 9, none⟩ = some c9 :=
  ⟨by unfold World.cell?; rw [h]; rfl, by unfold World.cell?; rw [h]; rfl, by unfold World.cell?; rw [h]; rfl, by unfold World.cell?; rw [h]; rfl, by unfold World.cell?; rw [h]; rfl, by unfold World.cell?; rw [h]; rfl, by unfold World.cell?; rw [h]; rfl, by unfold World.cell?; rw [h]; rfl, by unfold World.cell?; rw [h]; rfl, by unfold World.cell?; rw [h]; rfl⟩
end

end Go.Proofs.Ytmnahhojfcigmaa
