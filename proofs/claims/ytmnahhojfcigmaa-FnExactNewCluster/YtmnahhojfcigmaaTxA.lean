/- Refs that come in: their size is told, they are copied, two lists are compared. Outs that come in: their size is told, they are copied, two lists are compared. Outs and transactions that come in are copied into new memory. Lists of outs that come in are copied into new memory. Transactions that come in: two are compared, their size is told, they are copied. Transactions that come in are copied into new memory. -/
import Derived.Test.YtmnahhojfcigmaaRu
import Derived.Test.YtmnahhojfcigmaaCp
namespace Go.Proofs.Ytmnahhojfcigmaa
open Go.RowKit Go.Maps

theorem eqRef_any (a b : Int) (w : World) : Calls Try.prog 68 #[.agg #[.int .i64 a, .int .i64 b], .agg #[.int .i64 a, .int .i64 b]] w fun e w' => e = .returned (.bool true) ∧ Below w.heap.size w w' := by
  go_enter Try.func68, Try.ntmps68
  go_wp2
  go_ret
  exact ⟨rfl, ((Below.refl _ _).alloc (Nat.le_refl _) _).alloc (by simp) _⟩

end Go.Proofs.Ytmnahhojfcigmaa

namespace Go.Proofs.Ytmnahhojfcigmaa
open Go.RowKit Go.Maps

end Go.Proofs.Ytmnahhojfcigmaa

namespace Go.Proofs.Ytmnahhojfcigmaa
open Go.RowKit Go.Maps Go.WideMaps

end Go.Proofs.Ytmnahhojfcigmaa

namespace Go.Proofs.Ytmnahhojfcigmaa
open Go.RowKit Go.Maps Go.WideMaps

end Go.Proofs.Ytmnahhojfcigmaa

namespace Go.Proofs.Ytmnahhojfcigmaa
open Go.RowKit Go.Maps Go.WideMaps

end Go.Proofs.Ytmnahhojfcigmaa

namespace Go.Proofs.Ytmnahhojfcigmaa
open Go.RowKit Go.Maps Go.WideMaps


end Go.Proofs.Ytmnahhojfcigmaa
