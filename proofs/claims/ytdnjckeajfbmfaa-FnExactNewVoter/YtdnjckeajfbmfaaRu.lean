/- Rules that come in: their size is told, they are copied into new memory, two are compared. The program's iterator over a rule's keys, and those who range over it. Are all of them keys, and do they rise: the program's loops over its iterator. What keeps a rule from being one: the specification's code and the program's. The program's RuleFault. -/
import Derived.Test.YtdnjckeajfbmfaaSignsOf
import Derived.RangeFuncFrom
import Derived.RangeFuncBox
import Derived.RangeFuncCalls
import Derived.RangeFuncLeaves
import Derived.Shelf.Abstract
import Derived.WalkKit
import Derived.OwnWalkIn
import Derived.TacticsInMore
import Derived.LoopNIn
import Derived.LoopIn
namespace Go.Proofs.Ytdnjckeajfbmfaa
open Go.RowKit Go.Maps Go.WideMaps

section
variable {w w2 W v : World} {b B : Nat} {c0 c1 c2 : Value} {t : TypeId}
theorem cells3 (h : v.heap[b]? = some (.cells #[c0, c1, c2] t (0, 0))) : v.cell? ⟨b, 0, none⟩ = some c0 ∧ v.cell? ⟨b, 1, none⟩ = some c1 ∧ v.cell? ⟨b, 2, none⟩ = some c2 :=
  ⟨by unfold World.cell?; rw [h]; rfl, by unfold World.cell?; rw [h]; rfl, by unfold World.cell?; rw [h]; rfl⟩
end

end Go.Proofs.Ytdnjckeajfbmfaa

namespace Go.Proofs.Ytdnjckeajfbmfaa
open Go.RowKit Go.Shelf Go.Maps Go.WideMaps
attribute [local go_sem] Oper.semAt_some

end Go.Proofs.Ytdnjckeajfbmfaa

namespace Go.Proofs.Ytdnjckeajfbmfaa
open Go.RowKit Go.Shelf Go.Maps Go.WideMaps
attribute [local go_sem] Oper.semAt_some

end Go.Proofs.Ytdnjckeajfbmfaa

namespace Go.Proofs.Ytdnjckeajfbmfaa
open Go.RowKit Go.Shelf Go.Maps Go.WideMaps


end Go.Proofs.Ytdnjckeajfbmfaa

namespace Go.Proofs.Ytdnjckeajfbmfaa
open Go.RowKit Go.Shelf Go.Maps Go.WideMaps


end Go.Proofs.Ytdnjckeajfbmfaa
