/- The specification's text of a transaction: blanks swapped for underscores. -/
import Derived.Test.YtgfhnmjpkanikaaRtT
import Derived.Lib.ConvBytes
namespace Go.Proofs.Ytgfhnmjpkanikaa
open Go.RowKit Go.Shelf Go.Maps Go.WideMaps

def swp (c : UInt8) : UInt8 := if c = 32 then 95 else c
end Go.Proofs.Ytgfhnmjpkanikaa
