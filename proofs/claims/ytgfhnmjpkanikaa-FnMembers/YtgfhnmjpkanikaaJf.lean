/- Closed facts of the whole translation that each row's proof asks: proved once. -/
import Derived.Test.YtgfhnmjpkanikaaRows
import Derived.Test.YtgfhnmjpkanikaaChecked
import Derived.ProofKit
namespace Go.Proofs.Ytgfhnmjpkanikaa
open Go.RowKit

theorem Try.stopsHeardIs : Try.prog.stopsHeard = true := by kernel_rfl
theorem Try.mayEnterIs : Try.prog.mayEnter = true := by kernel_rfl
theorem Try.liftsIs : (false == Try.prog.liftsFinal) = true := by kernel_rfl
theorem Try.lifts_of {x : Bool} (h : x = false) : (x == Try.prog.liftsFinal) = true := by rw [h]; exact Try.liftsIs

end Go.Proofs.Ytgfhnmjpkanikaa
