/- What the laws' own helpers do with a ledger that came in: its size is told, it is copied into new memory, two are compared. The laws' own copies and comparisons of ledgers. The laws' own copies and comparisons of signatures and of whole ledgers. The laws' own copies, sizes and comparisons of whole ledgers. -/
import Derived.Test.YtoahopeegmhlnaaGreatDoorBase
import Derived.Deep.QuietTactic
import Derived.BigQuiet
import Derived.Lib.SmallJoins
import Derived.Deep.RegionHeld3
namespace Go.Proofs.YtoahopeegmhlnaaGreatDoor
open Go.RowKit Go.Maps

def SzG (n : Nat) (left r : Int) : Prop := r = -1 ∨ 0 ≤ r ∧ r ≤ left ∧ (n : Int) ≤ left

end Go.Proofs.YtoahopeegmhlnaaGreatDoor

namespace Go.Proofs.YtoahopeegmhlnaaGreatDoor
open Go.RowKit Go.Maps

theorem all_signs {xs : List Value} {gs : List (Int × Int)} {n : Nat} (hn : gs.length = n) (hl : xs.length = n * 2) (h : ∀ j, j < n → xs[j * 2]? = some (.int .i64 (gs.getD j G0).1) ∧ xs[j * 2 + 1]? = some (.int .i64 (gs.getD j G0).2)) : xs = gcells gs := by
  apply List.ext_getElem?
  intro j
  by_cases hj : j < n * 2
  · have h1 := h (j / 2) (by omega)
    have h2 := gcells_at gs (j / 2) (by omega)
    rcases Nat.mod_two_eq_zero_or_one j with e | e
    · rw [show j = j / 2 * 2 by omega, h1.1, h2.1]
    · rw [show j = j / 2 * 2 + 1 by omega, h1.2, h2.2]
  · rw [List.getElem?_eq_none (by omega), List.getElem?_eq_none (by rw [gcells_length]; omega)]

end Go.Proofs.YtoahopeegmhlnaaGreatDoor

namespace Go.Proofs.YtoahopeegmhlnaaGreatDoor
open Go.RowKit Go.Maps

end Go.Proofs.YtoahopeegmhlnaaGreatDoor

namespace Go.Proofs.YtoahopeegmhlnaaGreatDoor
open Go.RowKit Go.Maps

theorem below_box {w : World} (o : Obj) : Below w.heap.size w (w.alloc o) := (Below.refl _ _).alloc (Nat.le_refl _) _
theorem below_box2 {w : World} (o o' : Obj) : Below w.heap.size w ((w.alloc o).alloc o') := (below_box o).alloc (by simp) _
theorem below_box3 {w : World} (o o' o2 : Obj) : Below w.heap.size w (((w.alloc o).alloc o').alloc o2) := (below_box2 o o').alloc (by simp; omega) _

theorem block_at2 {w : World} {o o' : Obj} : ((w.alloc o).alloc o').heap[w.heap.size]? = some o := (Below.heap_alloc _ _ _ (by simp)).trans (heap_alloc_new w o)

/-- The three blocks that a ledger's copy lays. -/
theorem three_blocks (w : World) (o o' o2 : Obj) : (((w.alloc o).alloc o').alloc o2).heap[w.heap.size]? = some o ∧ (((w.alloc o).alloc o').alloc o2).heap[w.heap.size + 1]? = some o' ∧ (((w.alloc o).alloc o').alloc o2).heap[w.heap.size + 1 + 1]? = some o2 ∧ (((w.alloc o).alloc o').alloc o2).heap.size = w.heap.size + 1 + 1 + 1 := by
  refine ⟨(Below.heap_alloc _ _ _ (by simp; omega)).trans block_at2, ?_, ?_, by simp⟩
  · have := Below.heap_alloc ((w.alloc o).alloc o') o2 (w.heap.size + 1) (by simp)
    rw [this, show w.heap.size + 1 = (w.alloc o).heap.size by simp]
    exact heap_alloc_new _ _
  · rw [show w.heap.size + 1 + 1 = ((w.alloc o).alloc o').heap.size by simp]
    exact heap_alloc_new _ _

end Go.Proofs.YtoahopeegmhlnaaGreatDoor
