/- The program's numbers written and joined. -/
import Derived.Test.YtcknimklkjhfiaaDoorRtT
import Derived.Test.YtcknimklkjhfiaaDoorSh
import Derived.Stop.RegionWithIn
import Derived.Maps.AppendAt
import Derived.RangeFuncWrites
import Derived.Lib.AppendIntMem
import Derived.Lib.Join
namespace Go.Proofs.YtcknimklkjhfiaaDoor
open Go.RowKit Go.Shelf Go.Maps Go.WideMaps
attribute [local go_sem] Oper.semAt_some

def pieces (l : List Int) : List Value := l.map fun k => .string (str (dec k))

end Go.Proofs.YtcknimklkjhfiaaDoor
