/- RankOf and NeedOf: the program's, the specification's, and the laws' walks. -/
import Derived.Test.YtolpbichkmeaaaaIdOf
import Derived.Test.YtolpbichkmeaaaaSp
namespace Go.Proofs.Ytolpbichkmeaaaa
open Go.RowKit Go.Maps Go.WideMaps

theorem isQS_any (v : Int) (w : World) : Calls Try.prog 40 #[.int .i64 v] w fun e w' => e = .returned (.bool (inB v 1 8)) ∧ w' = w := by
  go_enter Try.func40, Try.ntmps40
  go_wp2_with (go_at_call 44; refine (isWithin_any _ _ _ _).mono ?_; rintro e w' ⟨rfl, rfl⟩)
  go_ret
  exact ⟨rfl, rfl⟩

end Go.Proofs.Ytolpbichkmeaaaa
