/- What the laws' own helpers do with a ledger that came in: its size is told, it is copied into new memory, two are compared. The laws' own copies and comparisons of ledgers. The laws' own copies and comparisons of signatures and of whole ledgers. The laws' own copies, sizes and comparisons of whole ledgers. -/
import Derived.Test.YtobmongmmnldpaaDoorBase
import Derived.Deep.QuietTactic
import Derived.BigQuiet
import Derived.Lib.SmallJoins
import Derived.Deep.RegionHeld3
namespace Go.Proofs.YtobmongmmnldpaaDoor
open Go.RowKit Go.Maps

def SzG (n : Nat) (left r : Int) : Prop := r = -1 ∨ 0 ≤ r ∧ r ≤ left ∧ (n : Int) ≤ left

end Go.Proofs.YtobmongmmnldpaaDoor

namespace Go.Proofs.YtobmongmmnldpaaDoor
open Go.RowKit Go.Maps

end Go.Proofs.YtobmongmmnldpaaDoor

namespace Go.Proofs.YtobmongmmnldpaaDoor
open Go.RowKit Go.Maps

end Go.Proofs.YtobmongmmnldpaaDoor

namespace Go.Proofs.YtobmongmmnldpaaDoor
open Go.RowKit Go.Maps

theorem below_box {w : World} (o : Obj) : Below w.heap.size w (w.alloc o) := (Below.refl _ _).alloc (Nat.le_refl _) _
theorem below_box2 {w : World} (o o' : Obj) : Below w.heap.size w ((w.alloc o).alloc o') := (below_box o).alloc (by simp) _
theorem below_box3 {w : World} (o o' o2 : Obj) : Below w.heap.size w (((w.alloc o).alloc o').alloc o2) := (below_box2 o o').alloc (by simp; omega) _

theorem block_at2 {w : World} {o o' : Obj} : ((w.alloc o).alloc o').heap[w.heap.size]? = some o := (Below.heap_alloc _ _ _ (by simp)).trans (heap_alloc_new w o)

/-- The three blocks that a ledger's copy lays. -/
theorem three_blocks (w : World) (o o' o2 : Obj) : (((w.alloc o).alloc o').alloc o2).heap[w.heap.size]? = some o ∧ (((w.alloc o).alloc o').alloc o2).heap[w.heap.size + 1]? = some o' ∧ (((w.alloc o).alloc o').alloc o2).heap[w.heap.size + 1 + 1]? = some o2 ∧ (((w.alloc o).alloc o').alloc o2).heap.size = w.heap.size + 1 + 1 + 1 := by
  refine ⟨(Below.heap_alloc _ _ _ (by simp; omega)).trans block_at2, ?_, ?_, by simp⟩
  · have := Below.heap_alloc ((w.alloc o).alloc o') o2 (w.heap.size + 1) (by simp)
    rw [this, show w.heap.size + 1 = (w.alloc o).heap.size by simp]
    exact heap_alloc_new _ _
  · rw [show w.heap.size + 1 + 1 = ((w.alloc o).alloc o').heap.size by simp]
    exact heap_alloc_new _ _

end Go.Proofs.YtobmongmmnldpaaDoor
