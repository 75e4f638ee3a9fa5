/- A transaction that comes in as a law's argument, read as data, gives its numbers, its refs and its outs. -/
import Derived.Test.YtglpbkicmpmepaaOp
import Derived.Test.YtglpbkicmpmepaaRu
import Derived.Test.YtglpbkicmpmepaaTxA
import Derived.Deep.Slices
namespace Go.Proofs.Ytglpbkicmpmepaa
open Go.ChangeShapes Go.WideShapes Go.ChangeAt Go.RowKit Go.Joins Go.Deep
open Go.ChangeMaps (open_string shut_string)

theorem Try.cellsLRef : Try.prog.cellsOf 80 = 2 := by kernel_rfl

end Go.Proofs.Ytglpbkicmpmepaa
