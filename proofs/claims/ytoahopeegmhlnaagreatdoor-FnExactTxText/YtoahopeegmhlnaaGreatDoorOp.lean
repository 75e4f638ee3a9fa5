/- A ledger that comes in as a law's argument, read as data, gives its texts and its signatures. -/
import Derived.Test.YtoahopeegmhlnaaGreatDoorRows
import Derived.Test.YtoahopeegmhlnaaGreatDoorTw
import Derived.Test.YtoahopeegmhlnaaGreatDoorSp
import Derived.Test.YtoahopeegmhlnaaGreatDoorLw
import Derived.ProofKit
import Derived.OpenShut
import Derived.ShutString
import Derived.ChangeOld
import Derived.SliceStrings
import Derived.Deep.SlicePairs
namespace Go.Proofs.YtoahopeegmhlnaaGreatDoor
open Go.ChangeShapes Go.WideShapes Go.ChangeAt Go.RowKit Go.Joins Go.Deep
open Go.ChangeMaps (open_string shut_string)

theorem Tryz.own : ownKnob Tryz.prog.godebug = none := by kernel_rfl
section
variable {H : Type} {enc : TypeId × Value → H} {W : World} {base : Nat} {spare : Nat → Bool} {held : Bool}

theorem add_none (b off j : Nat) : (⟨b, off, none⟩ : Addr).add j = ⟨b, off + j, none⟩ := by
  simp only [Addr.add]
  split
  · simp_all
  · rfl
theorem wf_zero : (Lit.int .i64 0).wf = true := by decide

end

end Go.Proofs.YtoahopeegmhlnaaGreatDoor
