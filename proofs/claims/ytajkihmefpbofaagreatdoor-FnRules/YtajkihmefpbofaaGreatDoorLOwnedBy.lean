/- What a key alone can spend: among keys, the specification's sum and the program's; OwnedBy. -/
import Derived.Test.YtajkihmefpbofaaGreatDoorRu
import Derived.Test.YtajkihmefpbofaaGreatDoorX2
import Derived.Test.YtajkihmefpbofaaGreatDoorOp
import Derived.Deep.Slices
import Derived.Test.YtajkihmefpbofaaGreatDoorX1
namespace Go.Proofs.YtajkihmefpbofaaGreatDoor
open Go.RowKit Go.Maps Go.WideMaps

def hasK (l : List Int) (v : Int) : Bool := decide (v ∈ l)
theorem hasK_yes {l : List Int} {v : Int} (h : v ∈ l) : hasK l v = true := decide_eq_true h
end Go.Proofs.YtajkihmefpbofaaGreatDoor
