/- The program's fault of a transaction: kinds, refs, outs. The program's fault of a transaction: its parts and the whole. The program's TxFault keeps its contract. -/
import Derived.Test.YtkmkdoddaooonaaTxA
import Derived.Test.YtkmkdoddaooonaaRu
import Derived.Test.YtkmkdoddaooonaaOpR
import Derived.Deep.Slices
namespace Go.Proofs.Ytkmkdoddaooonaa
open Go.RowKit Go.Maps Go.WideMaps

theorem isTxId_any (v : Int) (w : World) : Calls Try.prog 26 #[.int .i64 v] w fun e w' => e = .returned (.bool (inB v 1 60)) ∧ w' = w := by
  go_enter Try.func26, Try.ntmps26
  go_wp2_with (go_at_call 24; refine (isWithin_any _ _ _ _).mono ?_; rintro e w' ⟨rfl, rfl⟩)
  go_ret
  exact ⟨rfl, rfl⟩

end Go.Proofs.Ytkmkdoddaooonaa

namespace Go.Proofs.Ytkmkdoddaooonaa
open Go.RowKit Go.Maps Go.WideMaps

end Go.Proofs.Ytkmkdoddaooonaa

namespace Go.Proofs.Ytkmkdoddaooonaa
open Go.RowKit Go.Maps Go.WideMaps

end Go.Proofs.Ytkmkdoddaooonaa
