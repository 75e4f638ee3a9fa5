/- Rules that come in: their size is told, they are copied into new memory, two are compared. The program's iterator over a rule's keys, and those who range over it. Are all of them keys, and do they rise: the program's loops over its iterator. What keeps a rule from being one: the specification's code and the program's. The program's RuleFault. -/
import Derived.Test.YtpcgkgjmcnncdaaSignsOf
import Derived.RangeFuncFrom
import Derived.RangeFuncBox
import Derived.RangeFuncCalls
import Derived.RangeFuncLeaves
import Derived.Shelf.Abstract
import Derived.WalkKit
import Derived.OwnWalkIn
import Derived.TacticsInMore
import Derived.LoopNIn
import Derived.LoopIn
namespace Go.Proofs.Ytpcgkgjmcnncdaa
open Go.RowKit Go.Maps Go.WideMaps

section
variable {w w2 W v : World} {b B : Nat} {c0 c1 c2 : Value} {t : TypeId}
theorem cells3 (h : v.heap[b]? = some (.cells #[c0, c1, c2] t (0, 0))) : v.cell? ⟨b, 0, none⟩ = some c0 ∧ v.cell? ⟨b, 1, none⟩ = some c1 ∧ v.cell? ⟨b, 2, none⟩ = some c2 :=
  ⟨by unfold World.cell?; rw [h]; rfl, by unfold World.cell?; rw [h]; rfl, by unfold World.cell?; rw [h]; rfl⟩
theorem set3 (h : W.heap[b]? = some (.cells #[c0, c1, c2] t (0, 0))) (v0 v1 v2 : Value) :
    (((W.setCell ⟨b, 0, none⟩ v0).setCell ⟨b, 1, none⟩ v1).setCell ⟨b, 2, none⟩ v2).heap[b]? = some (.cells #[v0, v1, v2] t (0, 0)) := by
  have h1 : (W.setCell ⟨b, 0, none⟩ v0).heap[b]? = some (.cells #[v0, c1, c2] t (0, 0)) := by
    have := Joins.block_setCell (i := 0) h v0
    simpa using this
  have h2 : ((W.setCell ⟨b, 0, none⟩ v0).setCell ⟨b, 1, none⟩ v1).heap[b]? = some (.cells #[v0, v1, c2] t (0, 0)) := by
    have := Joins.block_setCell (i := 1) h1 v1
    simpa using this
  have := Joins.block_setCell (i := 2) h2 v2
  simpa using this
theorem heap_set3 {c : Nat} (h : c ≠ b) (v0 v1 v2 : Value) : (((W.setCell ⟨b, 0, none⟩ v0).setCell ⟨b, 1, none⟩ v1).setCell ⟨b, 2, none⟩ v2).heap[c]? = W.heap[c]? :=
  (Below.heap_setCell _ ⟨b, 2, none⟩ _ c h).trans ((Below.heap_setCell _ ⟨b, 1, none⟩ _ c h).trans (Below.heap_setCell _ ⟨b, 0, none⟩ _ c h))
theorem below_set3 (h : Below B w W) (hb : B ≤ b) (v0 v1 v2 : Value) : Below B w (((W.setCell ⟨b, 0, none⟩ v0).setCell ⟨b, 1, none⟩ v1).setCell ⟨b, 2, none⟩ v2) :=
  ((h.setCell (p := ⟨b, 0, none⟩) hb _).setCell (p := ⟨b, 1, none⟩) hb _).setCell (p := ⟨b, 2, none⟩) hb _
theorem row_set3 {base n size : Nat} {e : TypeId} {v : Value} {xs : List Value} (h : W.ownsRow base e size v n xs) (hb : b < base) (v0 v1 v2 : Value) : (((W.setCell ⟨b, 0, none⟩ v0).setCell ⟨b, 1, none⟩ v1).setCell ⟨b, 2, none⟩ v2).ownsRow base e size v n xs :=
  ownsRow_setCell_below (ownsRow_setCell_below (ownsRow_setCell_below h (a := ⟨b, 0, none⟩) hb _) (a := ⟨b, 1, none⟩) hb _) (a := ⟨b, 2, none⟩) hb _
end

end Go.Proofs.Ytpcgkgjmcnncdaa

namespace Go.Proofs.Ytpcgkgjmcnncdaa
open Go.RowKit Go.Shelf Go.Maps Go.WideMaps
attribute [local go_sem] Oper.semAt_some

end Go.Proofs.Ytpcgkgjmcnncdaa

namespace Go.Proofs.Ytpcgkgjmcnncdaa
open Go.RowKit Go.Shelf Go.Maps Go.WideMaps
attribute [local go_sem] Oper.semAt_some

end Go.Proofs.Ytpcgkgjmcnncdaa

namespace Go.Proofs.Ytpcgkgjmcnncdaa
open Go.RowKit Go.Shelf Go.Maps Go.WideMaps


end Go.Proofs.Ytpcgkgjmcnncdaa

namespace Go.Proofs.Ytpcgkgjmcnncdaa
open Go.RowKit Go.Shelf Go.Maps Go.WideMaps


end Go.Proofs.Ytpcgkgjmcnncdaa
