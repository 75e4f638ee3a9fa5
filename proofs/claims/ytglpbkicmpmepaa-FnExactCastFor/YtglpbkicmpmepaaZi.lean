/- What keeps a voter from choosing: the program's code; ChooseFor and NewVoter: the program's. -/
import Derived.Test.YtglpbkicmpmepaaZh
namespace Go.Proofs.Ytglpbkicmpmepaa
open Go.RowKit Go.Maps Go.WideMaps

/-- What is told with a code alone. -/
theorem vr_code {w W : World} {R : Nat} {c : Int} {cs : Array Value} (_H : Hid (W.heap[R]? = some (.cells cs 36 (0, 0)))) (h : w.heap.size ≤ R ∧ Below w.heap.size w W) :
    OutVr w (((((((((((W.setCell ⟨R, 0, none⟩ (.int .i64 c)).setCell ⟨R, 1, none⟩ (.int .i64 0)).setCell ⟨R, 2, none⟩ (.int .i64 0)).setCell ⟨R, 3, none⟩ (.int .i64 0)).setCell ⟨R, 4, none⟩ (.int .i64 0)).setCell ⟨R, 5, none⟩ (.int .i64 0)).setCell ⟨R, 6, none⟩ (.int .i64 0)).setCell ⟨R, 7, none⟩ (.int .i64 0)).setCell ⟨R, 8, none⟩ (.int .i64 0)).setCell ⟨R, 9, none⟩ (.slice none 0 0))) (.returned (.agg #[.int .i64 c, .int .i64 0, .int .i64 0, .int .i64 0, .int .i64 0, .int .i64 0, .int .i64 0, .int .i64 0, .int .i64 0, .slice none 0 0])) (vrBad c) :=
  ⟨none, 0, rfl, World.ownsRow_nil _ _ _ _, below_set10V h.2 h.1 _ _ _ _ _ _ _ _ _ _⟩

theorem vr_keep {w V w4 : World} {R m vc : Nat} {va : Option Addr} {v : Vo} {k l : Int} {ms : List Mb} (hm : ms.length = m) (hO : Hid (w4.ownsRow V.heap.size 74 3 (.slice va m vc) m (mcells ms))) (h : w.heap.size ≤ R ∧ R < V.heap.size ∧ Below w.heap.size w w4) :
    OutVr w (((((((((((w4.setCell ⟨R, 0, none⟩ (.int .i64 0)).setCell ⟨R, 1, none⟩ (.int .i64 v.k)).setCell ⟨R, 2, none⟩ (.int .i64 v.d)).setCell ⟨R, 3, none⟩ (.int .i64 v.b)).setCell ⟨R, 4, none⟩ (.int .i64 v.p)).setCell ⟨R, 5, none⟩ (.int .i64 v.q)).setCell ⟨R, 6, none⟩ (.int .i64 v.t)).setCell ⟨R, 7, none⟩ (.int .i64 k)).setCell ⟨R, 8, none⟩ (.int .i64 l)).setCell ⟨R, 9, none⟩ (.slice va m vc))) (.returned (.agg #[.int .i64 0, .int .i64 v.k, .int .i64 v.d, .int .i64 v.b, .int .i64 v.p, .int .i64 v.q, .int .i64 v.t, .int .i64 k, .int .i64 l, .slice va m vc])) ⟨0, v, k, l, ms⟩ := by
  subst hm
  exact ⟨va, vc, rfl, Joins.ownsRow_le (row_set10V hO.out h.2.1 _ _ _ _ _ _ _ _ _ _) (by omega), below_set10V h.2.2 h.1 _ _ _ _ _ _ _ _ _ _⟩

end Go.Proofs.Ytglpbkicmpmepaa
