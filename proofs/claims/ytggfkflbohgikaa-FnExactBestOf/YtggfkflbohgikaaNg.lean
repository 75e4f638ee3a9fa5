/- Where two ways back meet: the program's; nodes of numbers, all of them. -/
import Derived.Test.YtggfkflbohgikaaNf
import Derived.Test.YtggfkflbohgikaaLf
import Derived.WalkMore
namespace Go.Proofs.Ytggfkflbohgikaa
open Go.RowKit Go.Maps Go.WideMaps

theorem number_nil (w : World) : Calls Try.prog 47 #[.pointer none] w fun e w' => e = .returned (.int .i64 0) ∧ w' = w := by
  go_enter Try.func47, Try.ntmps47
  go_wp2
  go_ret
  exact ⟨rfl, rfl⟩
theorem number_some (b : Nat) (h : Int) (w : World) (hc : w.cell? ⟨b, 0, none⟩ = some (.int .i64 h)) : Calls Try.prog 47 #[.pointer (some ⟨b, 0, none⟩)] w fun e w' => e = .returned (.int .i64 h) ∧ w' = w := by
  go_enter Try.func47, Try.ntmps47
  go_wp2
  go_ret
  exact ⟨rfl, rfl⟩
end Go.Proofs.Ytggfkflbohgikaa
