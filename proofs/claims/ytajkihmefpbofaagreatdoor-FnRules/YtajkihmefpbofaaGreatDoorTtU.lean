/- What the specification's TxText answers; what the program's owes. -/
import Derived.Test.YtajkihmefpbofaaGreatDoorTtT
import Derived.Test.YtajkihmefpbofaaGreatDoorRtU
import Derived.Test.YtajkihmefpbofaaGreatDoorRu
import Derived.Test.YtajkihmefpbofaaGreatDoorX2
import Derived.Test.YtajkihmefpbofaaGreatDoorOp
import Derived.Deep.Slices
import Derived.Test.YtajkihmefpbofaaGreatDoorX1
namespace Go.Proofs.YtajkihmefpbofaaGreatDoor
open Go.RowKit Go.Shelf Go.Maps Go.WideMaps

theorem getD_mem {α : Type} {l : List α} {j : Nat} {d : α} (h : j < l.length) : l.getD j d ∈ l := by
  rw [List.getD, List.getElem?_eq_getElem h]
  exact List.getElem_mem _
end Go.Proofs.YtajkihmefpbofaaGreatDoor
