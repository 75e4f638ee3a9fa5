/- The specification's text of a rule, the whole. -/
import Derived.Test.YtlacmcedpphphaaGreatDoorRtS
namespace Go.Proofs.YtlacmcedpphphaaGreatDoor
open Go.RowKit Go.Shelf Go.Maps Go.WideMaps

def dec (k : Int) : List UInt8 := Lib.decDigits k.toNat
theorem dec_len {k : Int} (h : k ≤ 999) : (dec k).length ≤ 10 := digits_len _ (by omega)
end Go.Proofs.YtlacmcedpphphaaGreatDoor
