/- What TextOf and HasSign answer: the specification's and the program's. -/
import Derived.Test.YtjdjejnflcmgbaaDoorIdOf
namespace Go.Proofs.YtjdjejnflcmgbaaDoor
open Go.RowKit Go.Maps Go.WideMaps

theorem eqTextR_any (a : Int) (s : ByteArray) (w : World) : Calls Tryd.prog 10 #[.agg #[.int .i64 a, .string s], .agg #[.int .i64 a, .string s]] w fun e w' => e = .returned (.bool true) ∧ Below w.heap.size w w' := by
  go_enter Tryd.func10, Tryd.ntmps10
  go_wp2
  go_ret
  exact ⟨rfl, ((Below.refl _ _).alloc (Nat.le_refl _) _).alloc (by simp) _⟩

end Go.Proofs.YtjdjejnflcmgbaaDoor
