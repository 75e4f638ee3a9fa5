/- What SignsOf answers: the specification's and the program's. What the specification's SignsOf answers. The marks of lists of numbers, and results that hold one compared. -/
import Derived.Test.YtglpbkicmpmepaaIdOf
import Derived.Test.YtglpbkicmpmepaaMk
import Derived.Deep.RegionLaw
namespace Go.Proofs.Ytglpbkicmpmepaa
open Go.RowKit Go.Maps Go.WideMaps
attribute [local go_sem ↓] Go.wp_at_zero Go.wp_at_succ

theorem heap_alloc_at (w : World) (o : Obj) (n : Nat) (h : n = w.heap.size) : (w.alloc o).heap[n]? = some o := by rw [h]; exact heap_alloc_new w o

end Go.Proofs.Ytglpbkicmpmepaa

namespace Go.Proofs.Ytglpbkicmpmepaa
open Go.RowKit Go.Maps Go.WideMaps
attribute [local go_sem ↓] Go.wp_at_zero Go.wp_at_succ

end Go.Proofs.Ytglpbkicmpmepaa

namespace Go.Proofs.Ytglpbkicmpmepaa
open Go.RowKit Go.Maps Go.WideMaps

def mkI (k n : Nat) : List Value := (List.range n).map fun j => .int .i64 (k + j : Nat)
theorem mkI_of {xs : List Value} {k n : Nat} (hl : xs.length = n * 1) (h : ∀ j, j < n → xs[j]? = some (.int .i64 (k + j : Nat))) : xs = mkI k n := by
  apply List.ext_getElem?
  intro j
  by_cases hj : j < n
  · rw [h j hj]; simp [mkI, hj]
  · rw [List.getElem?_eq_none (by omega), List.getElem?_eq_none (by simp [mkI]; omega)]
theorem mkI_at {k n j : Nat} (hj : j < n) : (mkI k n)[j]? = some (.int .i64 (k + j : Nat)) := by simp [mkI, hj]

end Go.Proofs.Ytglpbkicmpmepaa
