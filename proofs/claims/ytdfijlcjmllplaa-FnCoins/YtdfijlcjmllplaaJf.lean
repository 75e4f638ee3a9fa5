/- Closed facts of the whole translation that each row's proof asks: proved once. -/
import Derived.Test.YtdfijlcjmllplaaRows
import Derived.Test.YtdfijlcjmllplaaChecked
import Derived.ProofKit
namespace Go.Proofs.Ytdfijlcjmllplaa
open Go.RowKit

theorem Try.stopsHeardIs : Try.prog.stopsHeard = true := by kernel_rfl
theorem Try.mayEnterIs : Try.prog.mayEnter = true := by kernel_rfl
theorem Try.liftsIs : (false == Try.prog.liftsFinal) = true := by kernel_rfl
theorem Try.lifts_of {x : Bool} (h : x = false) : (x == Try.prog.liftsFinal) = true := by rw [h]; exact Try.liftsIs

end Go.Proofs.Ytdfijlcjmllplaa
