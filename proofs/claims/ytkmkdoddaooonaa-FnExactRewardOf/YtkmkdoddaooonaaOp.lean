/- A ledger that comes in as a law's argument, read as data, gives its texts and its signatures. -/
import Derived.Test.YtkmkdoddaooonaaRows
import Derived.Test.YtkmkdoddaooonaaTw
import Derived.Test.YtkmkdoddaooonaaSp
import Derived.Test.YtkmkdoddaooonaaLw
import Derived.ProofKit
import Derived.OpenShut
import Derived.ShutString
import Derived.ChangeOld
import Derived.SliceStrings
import Derived.Deep.SlicePairs
namespace Go.Proofs.Ytkmkdoddaooonaa
open Go.ChangeShapes Go.WideShapes Go.ChangeAt Go.RowKit Go.Joins Go.Deep
open Go.ChangeMaps (open_string shut_string)

theorem Try.own : ownKnob Try.prog.godebug = none := by kernel_rfl

end Go.Proofs.Ytkmkdoddaooonaa
