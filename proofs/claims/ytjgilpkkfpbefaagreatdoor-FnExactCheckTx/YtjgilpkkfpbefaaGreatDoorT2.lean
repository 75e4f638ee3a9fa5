/- Two transactions that came in, boxed side by side. -/
import Derived.Test.YtjgilpkkfpbefaaGreatDoorJn3
namespace Go.Proofs.YtjgilpkkfpbefaaGreatDoor
open Go.RowKit Go.Maps Go.WideMaps

structure T2 (w v : World) (k f : Int) (ia : Option Addr) (n c : Nat) (oa : Option Addr) (m d : Nat) (k' f' : Int) (ib : Option Addr) (n' c' : Nat) (ob : Option Addr) (m' d' : Nat) : Prop where
  p : v.heap[w.heap.size]? = some (.cells #[.int .i64 k, .int .i64 f, .slice ia n c, .slice oa m d] 30 (0, 0))
  q : v.heap[w.heap.size + 1]? = some (.cells #[.int .i64 k', .int .i64 f', .slice ib n' c', .slice ob m' d'] 30 (0, 0))
  bel : Below w.heap.size w v
section
variable {w v v' : World} {k f : Int} {ia : Option Addr} {n c : Nat} {oa : Option Addr} {m d : Nat} {k' f' : Int} {ib : Option Addr} {n' c' : Nat} {ob : Option Addr} {m' d' : Nat}
theorem T2.start : T2 w ((w.alloc (.cells #[.int .i64 k, .int .i64 f, .slice ia n c, .slice oa m d] 30)).alloc (.cells #[.int .i64 k', .int .i64 f', .slice ib n' c', .slice ob m' d'] 30)) k f ia n c oa m d k' f' ib n' c' ob m' d' := ⟨block_at2, heap_alloc_at _ _ _ (by simp), below_box2 _ _⟩
theorem T2.step (h : T2 w v k f ia n c oa m d k' f' ib n' c' ob m' d') (hb : Below v.heap.size v v') : T2 w v' k f ia n c oa m d k' f' ib n' c' ob m' d' := ⟨(keepb h.p hb).out, (keepb h.q hb).out, h.bel.trans (hb.mono h.bel.size)⟩
theorem T2.cells (h : T2 w v k f ia n c oa m d k' f' ib n' c' ob m' d') : (v.cell? ⟨w.heap.size, 0, none⟩ = some (.int .i64 k) ∧ v.cell? ⟨w.heap.size, 1, none⟩ = some (.int .i64 f) ∧ v.cell? ⟨w.heap.size, 2, none⟩ = some (.slice ia n c) ∧ v.cell? ⟨w.heap.size, 3, none⟩ = some (.slice oa m d)) ∧ (v.cell? ⟨w.heap.size + 1, 0, none⟩ = some (.int .i64 k') ∧ v.cell? ⟨w.heap.size + 1, 1, none⟩ = some (.int .i64 f') ∧ v.cell? ⟨w.heap.size + 1, 2, none⟩ = some (.slice ib n' c') ∧ v.cell? ⟨w.heap.size + 1, 3, none⟩ = some (.slice ob m' d')) := by
  obtain ⟨a0, a1, a2, a3, _⟩ := cells4 h.p
  obtain ⟨b0, b1, b2, b3, _⟩ := cells4 h.q
  exact ⟨⟨a0, a1, a2, a3⟩, b0, b1, b2, b3⟩
end

end Go.Proofs.YtjgilpkkfpbefaaGreatDoor
