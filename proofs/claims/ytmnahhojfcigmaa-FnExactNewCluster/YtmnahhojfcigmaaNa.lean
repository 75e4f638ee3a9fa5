/- The program's grove: nodes that point at the one ahead of them, their list, and a map by their numbers. -/
import Derived.Test.YtmnahhojfcigmaaLc
import Derived.Test.YtmnahhojfcigmaaTw
import Derived.Maps.OwnSet
namespace Go.Proofs.Ytmnahhojfcigmaa
open Go.RowKit Go.Maps Go.WideMaps

theorem kN : Keyed Try.prog 2 := int_keyed Try.underlying2
def RvP (v : Value) : Option (DataW Value × List MemPlace) := some (.held v, [])

end Go.Proofs.Ytmnahhojfcigmaa
