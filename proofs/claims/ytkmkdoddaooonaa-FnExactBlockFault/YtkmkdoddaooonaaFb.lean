/- RewardOf: the program's, the specification's, and the law's walk. -/
import Derived.Test.YtkmkdoddaooonaaIdOf
import Derived.Test.YtkmkdoddaooonaaSp
namespace Go.Proofs.Ytkmkdoddaooonaa
open Go.RowKit Go.Maps Go.WideMaps

theorem isBH_any (h : Int) (w : World) : Calls Try.prog 21 #[.int .i64 h] w fun e w' => e = .returned (.bool (inB h 1 40)) ∧ w' = w := by
  go_enter Try.func21, Try.ntmps21
  go_wp2_with (go_at_call 24; refine (isWithin_any _ _ _ _).mono ?_; rintro e w' ⟨rfl, rfl⟩)
  go_ret
  exact ⟨rfl, rfl⟩

end Go.Proofs.Ytkmkdoddaooonaa
