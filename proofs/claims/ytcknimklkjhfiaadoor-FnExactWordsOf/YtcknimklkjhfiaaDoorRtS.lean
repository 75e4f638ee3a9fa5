/- The specification's text of a rule. -/
import Derived.Test.YtcknimklkjhfiaaDoorSignsOf
import Derived.RangeFuncFrom
import Derived.RangeFuncBox
import Derived.RangeFuncCalls
import Derived.RangeFuncLeaves
import Derived.Shelf.Abstract
import Derived.WalkKit
import Derived.OwnWalkIn
import Derived.TacticsInMore
import Derived.LoopNIn
import Derived.LoopIn
import Derived.Lib.ItoaMem
import Derived.Lib.ItoaNum
import Derived.Laws.BytesArg
import Derived.Deep.RegionWith
namespace Go.Proofs.YtcknimklkjhfiaaDoor
open Go.RowKit Go.Shelf Go.Maps Go.WideMaps

def str (l : List UInt8) : ByteArray := ⟨l.toArray⟩

end Go.Proofs.YtcknimklkjhfiaaDoor
