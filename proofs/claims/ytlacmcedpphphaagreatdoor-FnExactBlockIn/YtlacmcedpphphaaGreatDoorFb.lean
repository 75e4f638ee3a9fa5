/- RewardOf: the program's, the specification's, and the law's walk. -/
import Derived.Test.YtlacmcedpphphaaGreatDoorIdOf
import Derived.Test.YtlacmcedpphphaaGreatDoorSp
namespace Go.Proofs.YtlacmcedpphphaaGreatDoor
open Go.RowKit Go.Maps Go.WideMaps

theorem isBH_any (h : Int) (w : World) : Calls Tryz.prog 82 #[.int .i64 h] w fun e w' => e = .returned (.bool (inB h 1 40)) ∧ w' = w := by
  go_enter Tryz.func82, Tryz.ntmps82
  go_wp2_with (go_at_call 54; refine (isWithin_any _ _ _ _).mono ?_; rintro e w' ⟨rfl, rfl⟩)
  go_ret
  exact ⟨rfl, rfl⟩

end Go.Proofs.YtlacmcedpphphaaGreatDoor
