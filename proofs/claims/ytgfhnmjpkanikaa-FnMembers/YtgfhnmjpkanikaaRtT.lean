/- The specification's text of a rule, the whole. -/
import Derived.Test.YtgfhnmjpkanikaaJn1
import Derived.Lib.ItoaMem
import Derived.Lib.ItoaNum
import Derived.Laws.BytesArg
import Derived.Deep.RegionWith
namespace Go.Proofs.Ytgfhnmjpkanikaa
open Go.RowKit Go.Shelf Go.Maps Go.WideMaps

def dec (k : Int) : List UInt8 := Lib.decDigits k.toNat
def tailT : List Int → List UInt8
  | [] => []
  | k :: t => 44 :: (dec k ++ tailT t)
def keysT : List Int → List UInt8
  | [] => []
  | k :: t => dec k ++ tailT t
def aftT (y : Int) : List UInt8 := if y = 0 then [] else [32, 97, 102, 116, 101, 114, 32] ++ dec y
def rtxR (l : List Int) (x y : Int) : List UInt8 := dec x ++ [32, 111, 102, 32] ++ keysT l ++ aftT y

end Go.Proofs.Ytgfhnmjpkanikaa
