/- Closed facts of the whole translation that each row's proof asks: proved once. -/
import Derived.Test.YtlcdhhaikhieiaaDoorRows
import Derived.Test.YtlcdhhaikhieiaaDoorChecked
import Derived.ProofKit
namespace Go.Proofs.YtlcdhhaikhieiaaDoor
open Go.RowKit

theorem Tryd.stopsHeardIs : Tryd.prog.stopsHeard = true := by kernel_rfl
theorem Tryd.mayEnterIs : Tryd.prog.mayEnter = true := by kernel_rfl
theorem Tryd.liftsIs : (false == Tryd.prog.liftsFinal) = true := by kernel_rfl
theorem Tryd.lifts_of {x : Bool} (h : x = false) : (x == Tryd.prog.liftsFinal) = true := by rw [h]; exact Tryd.liftsIs

end Go.Proofs.YtlcdhhaikhieiaaDoor
