/- The specification's text of a transaction, the whole. -/
import Derived.Test.YtgfhnmjpkanikaaTtS
import Derived.Test.YtgfhnmjpkanikaaJn1
namespace Go.Proofs.Ytgfhnmjpkanikaa
open Go.RowKit Go.Shelf Go.Maps Go.WideMaps

def kindT (k : Int) : List UInt8 := if k = 0 then [112, 97, 121] else if k = 1 then [106, 111, 105, 110, 32] else [108, 101, 97, 118, 101, 32]
def headT (k f : Int) : List UInt8 := kindT k ++ (if k = 0 then [] else dec f)
def refT (r : Int × Int) : List UInt8 := dec r.1 ++ (58 :: dec r.2)
def refsT : List (Int × Int) → List UInt8
  | [] => []
  | r :: t => 32 :: (refT r ++ t.flatMap fun r => 43 :: refT r)
def outT (o : Ou) : List UInt8 := 32 :: (dec o.v ++ (61 :: (rtxR o.l o.x o.y).map swp))
def txT (k f : Int) (rs : List (Int × Int)) (os : List Ou) : List UInt8 := headT k f ++ refsT rs ++ os.flatMap outT

end Go.Proofs.Ytgfhnmjpkanikaa
