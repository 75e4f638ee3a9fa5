/- A transaction that comes in as a law's argument, read as data, gives its numbers, its refs and its outs. -/
import Derived.Test.YtcjcomeeifpeoaaOp
import Derived.Test.YtcjcomeeifpeoaaRu
import Derived.Test.YtcjcomeeifpeoaaTxA
import Derived.Deep.Slices
namespace Go.Proofs.Ytcjcomeeifpeoaa
open Go.ChangeShapes Go.WideShapes Go.ChangeAt Go.RowKit Go.Joins Go.Deep
open Go.ChangeMaps (open_string shut_string)

theorem Try.cellsLRef : Try.prog.cellsOf 62 = 2 := by kernel_rfl

end Go.Proofs.Ytcjcomeeifpeoaa
