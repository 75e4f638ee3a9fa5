/- The program's fault of a transaction: kinds, refs, outs. The program's fault of a transaction: its parts and the whole. The program's TxFault keeps its contract. -/
import Derived.Test.YtlacmcedpphphaaGreatDoorRu
import Derived.Test.YtlacmcedpphphaaGreatDoorCp
import Derived.Test.YtlacmcedpphphaaGreatDoorOp
import Derived.Deep.Slices
namespace Go.Proofs.YtlacmcedpphphaaGreatDoor
open Go.RowKit Go.Maps Go.WideMaps

theorem isTxId_any (v : Int) (w : World) : Calls Tryz.prog 83 #[.int .i64 v] w fun e w' => e = .returned (.bool (inB v 1 60)) ∧ w' = w := by
  go_enter Tryz.func83, Tryz.ntmps83
  go_wp2_with (go_at_call 54; refine (isWithin_any _ _ _ _).mono ?_; rintro e w' ⟨rfl, rfl⟩)
  go_ret
  exact ⟨rfl, rfl⟩

end Go.Proofs.YtlacmcedpphphaaGreatDoor

namespace Go.Proofs.YtlacmcedpphphaaGreatDoor
open Go.RowKit Go.Maps Go.WideMaps

end Go.Proofs.YtlacmcedpphphaaGreatDoor

namespace Go.Proofs.YtlacmcedpphphaaGreatDoor
open Go.RowKit Go.Maps Go.WideMaps

end Go.Proofs.YtlacmcedpphphaaGreatDoor
