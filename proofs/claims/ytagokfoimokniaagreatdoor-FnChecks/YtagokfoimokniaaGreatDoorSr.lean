/- Two rules held against each other: the specification's way and the program's. Two rules held against each other, boxed: the specification's way. What SameRules answers: the specification's and the program's. -/
import Derived.Test.YtagokfoimokniaaGreatDoorJn2
namespace Go.Proofs.YtagokfoimokniaaGreatDoor
open Go.RowKit Go.Maps Go.WideMaps

def sameR (l l' : List Int) (x x' y y' : Int) : Bool := decide (x = x') && (decide (y = y') && decide (l = l'))
end Go.Proofs.YtagokfoimokniaaGreatDoor

namespace Go.Proofs.YtagokfoimokniaaGreatDoor
open Go.RowKit Go.Maps Go.WideMaps

end Go.Proofs.YtagokfoimokniaaGreatDoor

namespace Go.Proofs.YtagokfoimokniaaGreatDoor
open Go.RowKit Go.Maps Go.WideMaps

end Go.Proofs.YtagokfoimokniaaGreatDoor
