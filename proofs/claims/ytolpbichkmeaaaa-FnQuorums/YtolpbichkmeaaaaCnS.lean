/- The specification's fault of coins. -/
import Derived.Test.YtolpbichkmeaaaaRu
import Derived.Test.YtolpbichkmeaaaaCp
namespace Go.Proofs.Ytolpbichkmeaaaa
open Go.RowKit Go.Maps Go.WideMaps

def cmpI (a b : Int) : Int := if a < b then -1 else if b < a then 1 else 0
def cmpR (a b : Int × Int) : Int := if cmpI a.1 b.1 = 0 then cmpI a.2 b.2 else cmpI a.1 b.1
end Go.Proofs.Ytolpbichkmeaaaa
