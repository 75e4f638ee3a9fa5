/- The specification's text of a rule, the whole. -/
import Derived.Test.YtcknimklkjhfiaaDoorRtS
namespace Go.Proofs.YtcknimklkjhfiaaDoor
open Go.RowKit Go.Shelf Go.Maps Go.WideMaps

def dec (k : Int) : List UInt8 := Lib.decDigits k.toNat
end Go.Proofs.YtcknimklkjhfiaaDoor
