/- Votes that come in: their size is told, they are copied into new memory, two are compared. -/
import Derived.Test.YtpcgkgjmcnncdaaRu
import Derived.Test.YtpcgkgjmcnncdaaMk
import Derived.Test.YtpcgkgjmcnncdaaIdOf
import Derived.Deep.RegionLaw
import Derived.Lib.QuietBelow
namespace Go.Proofs.Ytpcgkgjmcnncdaa
open Go.RowKit Go.Maps Go.WideMaps Go.Sort


/-- A vote: its key, its kind, its block, the two numbers of its ref, its transaction. -/
structure Vo where
  k : Int
  d : Int
  b : Int
  p : Int
  q : Int
  t : Int
deriving DecidableEq
def V0 : Vo := ⟨0, 0, 0, 0, 0, 0⟩
end Go.Proofs.Ytpcgkgjmcnncdaa
