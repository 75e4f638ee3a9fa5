/- Two transactions that differ in their kind. -/
import Derived.Test.YtaopblgnmmhjfaaTxX
namespace Go.Proofs.Ytaopblgnmmhjfaa
open Go.RowKit Go.Maps Go.WideMaps

set_option maxRecDepth 20000 in
set_option maxHeartbeats 4000000 in
theorem l3Same_k (P Q : Nat) (k k' : Int) (w : World) (p0 : w.cell? ⟨P, 0, none⟩ = some (.int .i64 k)) (q0 : w.cell? ⟨Q, 0, none⟩ = some (.int .i64 k')) (h : ¬ k = k') (hb : (k == k') = false) :
    Calls Try.prog 133 #[.pointer (some ⟨P, 0, none⟩), .pointer (some ⟨Q, 0, none⟩)] w fun e w' => e = .returned (.bool false) ∧ Below w.heap.size w w' := by
  go_enter Try.func133, Try.ntmps133
  have hb2 : (k != k') = true := by simp [bne, hb]
  have hb3 : decide (k = k') = false := by simp [h]
  go_wp2_with fail
  go_quiet (fail)
  go_wp2
  go_ret
  exact ⟨rfl, Joins.below_draws _ _ _⟩

end Go.Proofs.Ytaopblgnmmhjfaa
