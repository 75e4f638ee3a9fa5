/- Rules that come in: their size is told, they are copied into new memory, two are compared. The program's iterator over a rule's keys, and those who range over it. Are all of them keys, and do they rise: the program's loops over its iterator. What keeps a rule from being one: the specification's code and the program's. The program's RuleFault. -/
import Derived.Test.YtapicejadjeejaaSignsOf
import Derived.RangeFuncFrom
import Derived.RangeFuncBox
import Derived.RangeFuncCalls
import Derived.RangeFuncLeaves
import Derived.Shelf.Abstract
import Derived.WalkKit
import Derived.OwnWalkIn
import Derived.TacticsInMore
import Derived.LoopNIn
import Derived.LoopIn
namespace Go.Proofs.Ytapicejadjeejaa
open Go.RowKit Go.Maps Go.WideMaps


end Go.Proofs.Ytapicejadjeejaa

namespace Go.Proofs.Ytapicejadjeejaa
open Go.RowKit Go.Shelf Go.Maps Go.WideMaps
attribute [local go_sem] Oper.semAt_some

theorem take_more {α : Type} {zs : List α} {k : Nat} {x : α} (h : zs[k]? = some x) : zs.take (k + 1) = zs.take k ++ [x] := by rw [List.take_add_one, h]; rfl

end Go.Proofs.Ytapicejadjeejaa

namespace Go.Proofs.Ytapicejadjeejaa
open Go.RowKit Go.Shelf Go.Maps Go.WideMaps
attribute [local go_sem] Oper.semAt_some

end Go.Proofs.Ytapicejadjeejaa

namespace Go.Proofs.Ytapicejadjeejaa
open Go.RowKit Go.Shelf Go.Maps Go.WideMaps


theorem take_next {l : List Int} {n k : Nat} (hn : l.length = n) (hlt : k < n) {s : Int} (hs : s = l.getD k 0) : l.take (k + 1) = l.take k ++ [s] :=
  take_more (by rw [hs]; simp [List.getD, show k < l.length by omega])
theorem take_all {l : List Int} {n k : Nat} (hn : l.length = n) (h : ¬ k < n) : l.take k = l := List.take_of_length_le (by omega)
end Go.Proofs.Ytapicejadjeejaa

namespace Go.Proofs.Ytapicejadjeejaa
open Go.RowKit Go.Shelf Go.Maps Go.WideMaps


end Go.Proofs.Ytapicejadjeejaa
