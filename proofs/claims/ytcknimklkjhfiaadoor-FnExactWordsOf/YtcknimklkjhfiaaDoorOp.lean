/- A ledger that comes in as a law's argument, read as data, gives its texts and its signatures. -/
import Derived.Test.YtcknimklkjhfiaaDoorRows
import Derived.Test.YtcknimklkjhfiaaDoorTw
import Derived.Test.YtcknimklkjhfiaaDoorBase
import Derived.Deep.QuietTactic
import Derived.BigQuiet
import Derived.Lib.SmallJoins
import Derived.Deep.RegionHeld3
import Derived.Test.YtcknimklkjhfiaaDoorLw
import Derived.ProofKit
import Derived.OpenShut
import Derived.ShutString
import Derived.ChangeOld
import Derived.SliceStrings
import Derived.Deep.SlicePairs
namespace Go.Proofs.YtcknimklkjhfiaaDoor
open Go.ChangeShapes Go.WideShapes Go.ChangeAt Go.RowKit Go.Joins Go.Deep
open Go.ChangeMaps (open_string shut_string)

theorem Tryd.own : ownKnob Tryd.prog.godebug = none := by kernel_rfl

end Go.Proofs.YtcknimklkjhfiaaDoor
