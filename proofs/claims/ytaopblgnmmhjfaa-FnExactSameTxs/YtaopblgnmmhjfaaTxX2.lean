/- Two transactions that differ in their member. -/
import Derived.Test.YtaopblgnmmhjfaaTxX
namespace Go.Proofs.Ytaopblgnmmhjfaa
open Go.RowKit Go.Maps Go.WideMaps

set_option maxRecDepth 20000 in
set_option maxHeartbeats 4000000 in
theorem l3Same_f (P Q : Nat) (k f f' : Int) (ia oa ib ob : Option Addr) (n c m d n' c' m' d' : Nat) (w : World) (p0 : w.cell? ⟨P, 0, none⟩ = some (.int .i64 k)) (p1 : w.cell? ⟨P, 1, none⟩ = some (.int .i64 f)) (q0 : w.cell? ⟨Q, 0, none⟩ = some (.int .i64 k)) (q1 : w.cell? ⟨Q, 1, none⟩ = some (.int .i64 f')) (_p2 : w.cell? ⟨P, 2, none⟩ = some (.slice ia n c)) (_q2 : w.cell? ⟨Q, 2, none⟩ = some (.slice ib n' c')) (_p3 : w.cell? ⟨P, 3, none⟩ = some (.slice oa m d)) (_q3 : w.cell? ⟨Q, 3, none⟩ = some (.slice ob m' d')) (h : ¬ f = f') (hb : (f == f') = false) :
    Calls Try.prog 133 #[.pointer (some ⟨P, 0, none⟩), .pointer (some ⟨Q, 0, none⟩)] w fun e w' => e = .returned (.bool false) ∧ Below w.heap.size w w' := by
  go_enter Try.func133, Try.ntmps133
  have hb2 : (f != f') = true := by simp [bne, hb]
  have hb3 : decide (f = f') = false := by simp [h]
  clear h hb
  go_wp2_with fail
  go_quiet (fail)
  go_wp2
  go_ret
  exact ⟨rfl, Joins.below_draws _ _ _⟩

end Go.Proofs.Ytaopblgnmmhjfaa
