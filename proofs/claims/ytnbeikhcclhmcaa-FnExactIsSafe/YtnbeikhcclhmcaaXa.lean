/- RankOf and NeedOf: the program's, the specification's, and the laws' walks. -/
import Derived.Test.YtnbeikhcclhmcaaIdOf
import Derived.Test.YtnbeikhcclhmcaaSp
namespace Go.Proofs.Ytnbeikhcclhmcaa
open Go.RowKit Go.Maps Go.WideMaps

theorem isQS_any (v : Int) (w : World) : Calls Try.prog 33 #[.int .i64 v] w fun e w' => e = .returned (.bool (inB v 1 8)) ∧ w' = w := by
  go_enter Try.func33, Try.ntmps33
  go_wp2_with (go_at_call 37; refine (isWithin_any _ _ _ _).mono ?_; rintro e w' ⟨rfl, rfl⟩)
  go_ret
  exact ⟨rfl, rfl⟩

end Go.Proofs.Ytnbeikhcclhmcaa
