/- What is wrong with a node: the program's. -/
import Derived.Test.YtmnahhojfcigmaaNa
namespace Go.Proofs.Ytmnahhojfcigmaa
open Go.RowKit Go.Maps Go.WideMaps

theorem wf_in {v a b : Int} (h : inB v a b = true) (ha : -9223372036854775808 ≤ a) (hb : b ≤ 9223372036854775807) : (Lit.int .i64 v).wf = true := by
  have := inB_true.1 h
  exact WalkArith.wf_i64 (by omega)

end Go.Proofs.Ytmnahhojfcigmaa
