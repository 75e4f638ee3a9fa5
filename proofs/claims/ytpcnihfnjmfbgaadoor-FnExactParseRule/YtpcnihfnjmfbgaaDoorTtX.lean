/- The program's refs written. -/
import Derived.Test.YtpcnihfnjmfbgaaDoorTtS
import Derived.Test.YtpcnihfnjmfbgaaDoorRu
import Derived.Test.YtpcnihfnjmfbgaaDoorCp
import Derived.Test.YtpcnihfnjmfbgaaDoorRtU
import Derived.Test.YtpcnihfnjmfbgaaDoorOp
import Derived.Deep.Slices
import Derived.Test.YtpcnihfnjmfbgaaDoorIdOf
import Derived.Lib.Replace
import Derived.Lib.Join
import Derived.Deep.RegionLaw
namespace Go.Proofs.YtpcnihfnjmfbgaaDoor
open Go.RowKit Go.Shelf Go.Maps Go.WideMaps

def texts (ls : List (List UInt8)) : List Value := ls.map fun t => .string (str t)
theorem texts_more (ls : List (List UInt8)) (t : List UInt8) : texts (ls ++ [t]) = texts ls ++ [.string (str t)] := by simp [texts]

end Go.Proofs.YtpcnihfnjmfbgaaDoor
