/- Closed facts of the whole translation that each row's proof asks: proved once. -/
import Derived.Test.YtagokfoimokniaaGreatDoorRows
import Derived.Test.YtagokfoimokniaaGreatDoorChecked
import Derived.ProofKit
namespace Go.Proofs.YtagokfoimokniaaGreatDoor
open Go.RowKit

theorem Tryz.stopsHeardIs : Tryz.prog.stopsHeard = true := by kernel_rfl
theorem Tryz.mayEnterIs : Tryz.prog.mayEnter = true := by kernel_rfl
theorem Tryz.liftsIs : (false == Tryz.prog.liftsFinal) = true := by kernel_rfl
theorem Tryz.lifts_of {x : Bool} (h : x = false) : (x == Tryz.prog.liftsFinal) = true := by rw [h]; exact Tryz.liftsIs

end Go.Proofs.YtagokfoimokniaaGreatDoor
