/- What TextOf and HasSign answer: the specification's and the program's. -/
import Derived.Test.YtoahopeegmhlnaaGreatDoorIdOf
namespace Go.Proofs.YtoahopeegmhlnaaGreatDoor
open Go.RowKit Go.Maps Go.WideMaps

theorem eqTextR_any (a : Int) (s : ByteArray) (w : World) : Calls Tryz.prog 8 #[.agg #[.int .i64 a, .string s], .agg #[.int .i64 a, .string s]] w fun e w' => e = .returned (.bool true) ∧ Below w.heap.size w w' := by
  go_enter Tryz.func8, Tryz.ntmps8
  go_wp2
  go_ret
  exact ⟨rfl, ((Below.refl _ _).alloc (Nat.le_refl _) _).alloc (by simp) _⟩

end Go.Proofs.YtoahopeegmhlnaaGreatDoor
