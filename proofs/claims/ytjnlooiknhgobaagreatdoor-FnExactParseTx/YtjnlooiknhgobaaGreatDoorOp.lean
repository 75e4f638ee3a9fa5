/- A ledger that comes in as a law's argument, read as data, gives its texts and its signatures. -/
import Derived.Test.YtjnlooiknhgobaaGreatDoorRows
import Derived.Test.YtjnlooiknhgobaaGreatDoorX1
import Derived.ProofKit
import Derived.OpenShut
import Derived.ShutString
import Derived.ChangeOld
import Derived.SliceStrings
import Derived.Deep.SlicePairs
namespace Go.Proofs.YtjnlooiknhgobaaGreatDoor
open Go.ChangeShapes Go.WideShapes Go.ChangeAt Go.RowKit Go.Joins Go.Deep
open Go.ChangeMaps (open_string shut_string)

theorem Tryz.own : ownKnob Tryz.prog.godebug = none := by kernel_rfl

end Go.Proofs.YtjnlooiknhgobaaGreatDoor
