/- Two transactions that differ in how many refs or outs they have. -/
import Derived.Test.YtaopblgnmmhjfaaTxX
namespace Go.Proofs.Ytaopblgnmmhjfaa
open Go.RowKit Go.Maps Go.WideMaps

set_option maxRecDepth 20000 in
set_option maxHeartbeats 4000000 in
theorem l3Same_n (P Q : Nat) (k f : Int) (ia ib : Option Addr) (n c n' c' : Nat) (w : World) (p0 : w.cell? ⟨P, 0, none⟩ = some (.int .i64 k)) (p1 : w.cell? ⟨P, 1, none⟩ = some (.int .i64 f)) (p2 : w.cell? ⟨P, 2, none⟩ = some (.slice ia n c)) (q0 : w.cell? ⟨Q, 0, none⟩ = some (.int .i64 k)) (q1 : w.cell? ⟨Q, 1, none⟩ = some (.int .i64 f)) (q2 : w.cell? ⟨Q, 2, none⟩ = some (.slice ib n' c')) (h : ¬ (n : Int) = (n' : Int)) (_hb : ((n : Int) == (n' : Int)) = false) :
    Calls Try.prog 133 #[.pointer (some ⟨P, 0, none⟩), .pointer (some ⟨Q, 0, none⟩)] w fun e w' => e = .returned (.bool false) ∧ Below w.heap.size w w' := by
  go_enter Try.func133, Try.ntmps133
  go_wp2
  go_quiet (fail)
  go_wp2
  go_ret
  exact ⟨rfl, Joins.below_draws _ _ _⟩

set_option maxRecDepth 20000 in
set_option maxHeartbeats 4000000 in
theorem l3Same_m (P Q : Nat) (k f : Int) (ia oa ib ob : Option Addr) (n c m d c' m' d' : Nat) (w : World) (p0 : w.cell? ⟨P, 0, none⟩ = some (.int .i64 k)) (p1 : w.cell? ⟨P, 1, none⟩ = some (.int .i64 f)) (p2 : w.cell? ⟨P, 2, none⟩ = some (.slice ia n c)) (p3 : w.cell? ⟨P, 3, none⟩ = some (.slice oa m d)) (q0 : w.cell? ⟨Q, 0, none⟩ = some (.int .i64 k)) (q1 : w.cell? ⟨Q, 1, none⟩ = some (.int .i64 f)) (q2 : w.cell? ⟨Q, 2, none⟩ = some (.slice ib n c')) (q3 : w.cell? ⟨Q, 3, none⟩ = some (.slice ob m' d')) (_h : ¬ (m : Int) = (m' : Int)) (hb : ((m : Int) == (m' : Int)) = false) :
    Calls Try.prog 133 #[.pointer (some ⟨P, 0, none⟩), .pointer (some ⟨Q, 0, none⟩)] w fun e w' => e = .returned (.bool false) ∧ Below w.heap.size w w' := by
  go_enter Try.func133, Try.ntmps133
  go_wp2
  go_quiet (fail)
  go_wp2
  go_ret
  exact ⟨rfl, Joins.below_draws _ _ _⟩

end Go.Proofs.Ytaopblgnmmhjfaa
