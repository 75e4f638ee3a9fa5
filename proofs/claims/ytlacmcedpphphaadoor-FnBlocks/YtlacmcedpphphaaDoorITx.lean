/- The program's fault of a transaction: kinds, refs, outs. The program's fault of a transaction: its parts and the whole. The program's TxFault keeps its contract. -/
import Derived.Test.YtlacmcedpphphaaDoorRu
import Derived.Test.YtlacmcedpphphaaDoorCp
import Derived.Test.YtlacmcedpphphaaDoorOp
import Derived.Deep.Slices
namespace Go.Proofs.YtlacmcedpphphaaDoor
open Go.RowKit Go.Maps Go.WideMaps

theorem isTxId_any (v : Int) (w : World) : Calls Tryd.prog 48 #[.int .i64 v] w fun e w' => e = .returned (.bool (inB v 1 60)) ∧ w' = w := by
  go_enter Tryd.func48, Tryd.ntmps48
  go_wp2_with (go_at_call 46; refine (isWithin_any _ _ _ _).mono ?_; rintro e w' ⟨rfl, rfl⟩)
  go_ret
  exact ⟨rfl, rfl⟩

end Go.Proofs.YtlacmcedpphphaaDoor

namespace Go.Proofs.YtlacmcedpphphaaDoor
open Go.RowKit Go.Maps Go.WideMaps

end Go.Proofs.YtlacmcedpphphaaDoor

namespace Go.Proofs.YtlacmcedpphphaaDoor
open Go.RowKit Go.Maps Go.WideMaps

end Go.Proofs.YtlacmcedpphphaaDoor
