/- The program's refs written. -/
import Derived.Test.YtcknimklkjhfiaaDoorRtT
import Derived.Lib.ConvBytes
import Derived.Test.YtcknimklkjhfiaaDoorSignsOf
import Derived.RangeFuncFrom
import Derived.RangeFuncBox
import Derived.RangeFuncCalls
import Derived.RangeFuncLeaves
import Derived.Shelf.Abstract
import Derived.WalkKit
import Derived.OwnWalkIn
import Derived.TacticsInMore
import Derived.LoopNIn
import Derived.LoopIn
import Derived.Test.YtcknimklkjhfiaaDoorMk
import Derived.Test.YtcknimklkjhfiaaDoorIdOf
import Derived.Deep.RegionLaw
import Derived.Test.YtcknimklkjhfiaaDoorRtI
import Derived.Test.YtcknimklkjhfiaaDoorOp
import Derived.Deep.Slices
import Derived.Lib.Replace
import Derived.Lib.Join
namespace Go.Proofs.YtcknimklkjhfiaaDoor
open Go.RowKit Go.Shelf Go.Maps Go.WideMaps

def texts (ls : List (List UInt8)) : List Value := ls.map fun t => .string (str t)
theorem texts_more (ls : List (List UInt8)) (t : List UInt8) : texts (ls ++ [t]) = texts ls ++ [.string (str t)] := by simp [texts]

end Go.Proofs.YtcknimklkjhfiaaDoor
