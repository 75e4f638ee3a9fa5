/- RankOf and NeedOf: the program's, the specification's, and the laws' walks. -/
import Derived.Test.YtmnahhojfcigmaaIdOf
import Derived.Test.YtmnahhojfcigmaaSp
namespace Go.Proofs.Ytmnahhojfcigmaa
open Go.RowKit Go.Maps Go.WideMaps

theorem isQS_any (v : Int) (w : World) : Calls Try.prog 58 #[.int .i64 v] w fun e w' => e = .returned (.bool (inB v 1 8)) ∧ w' = w := by
  go_enter Try.func58, Try.ntmps58
  go_wp2_with (go_at_call 33; refine (isWithin_any _ _ _ _).mono ?_; rintro e w' ⟨rfl, rfl⟩)
  go_ret
  exact ⟨rfl, rfl⟩

end Go.Proofs.Ytmnahhojfcigmaa
