/- Is a rule met: the specification's way and the program's. -/
import Derived.Test.YtjgilpkkfpbefaaGreatDoorNes2
import Derived.Test.YtjgilpkkfpbefaaGreatDoorNes3
import Derived.Test.YtjgilpkkfpbefaaGreatDoorHasSign
import Derived.Test.YtjgilpkkfpbefaaGreatDoorJn1
namespace Go.Proofs.YtjgilpkkfpbefaaGreatDoor
open Go.RowKit Go.Shelf Go.Maps Go.WideMaps

def cntK (l : List Int) (gs : List (Int × Int)) (id : Int) : Nat := (l.filter fun k => memB gs (k, id)).length
theorem cntK_next {l : List Int} {n k : Nat} (hn : l.length = n) (hlt : k < n) {s : Int} (hs : s = l.getD k 0) (gs : List (Int × Int)) (id : Int) : cntK (l.take (k + 1)) gs id = cntK (l.take k) gs id + (if memB gs (s, id) = true then 1 else 0) := by
  unfold cntK
  rw [take_next hn hlt hs, List.filter_append, List.length_append]
  congr 1
  by_cases h : memB gs (s, id) = true
  · simp [h]
  · simp [h]


end Go.Proofs.YtjgilpkkfpbefaaGreatDoor
