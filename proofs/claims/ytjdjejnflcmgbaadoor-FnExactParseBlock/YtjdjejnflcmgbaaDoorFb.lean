/- RewardOf: the program's, the specification's, and the law's walk. -/
import Derived.Test.YtjdjejnflcmgbaaDoorIdOf
import Derived.Test.YtjdjejnflcmgbaaDoorSp
namespace Go.Proofs.YtjdjejnflcmgbaaDoor
open Go.RowKit Go.Maps Go.WideMaps

theorem isBH_any (h : Int) (w : World) : Calls Tryd.prog 44 #[.int .i64 h] w fun e w' => e = .returned (.bool (inB h 1 40)) ∧ w' = w := by
  go_enter Tryd.func44, Tryd.ntmps44
  go_wp2_with (go_at_call 62; refine (isWithin_any _ _ _ _).mono ?_; rintro e w' ⟨rfl, rfl⟩)
  go_ret
  exact ⟨rfl, rfl⟩

end Go.Proofs.YtjdjejnflcmgbaaDoor
