/- What the laws' own helpers do with a ledger that came in: its size is told, it is copied into new memory, two are compared. The laws' own copies and comparisons of ledgers. The laws' own copies and comparisons of signatures and of whole ledgers. The laws' own copies, sizes and comparisons of whole ledgers. -/
import Derived.Test.YtpcnihfnjmfbgaaDoorBase
import Derived.Deep.QuietTactic
import Derived.BigQuiet
import Derived.Lib.SmallJoins
import Derived.Deep.RegionHeld3
namespace Go.Proofs.YtpcnihfnjmfbgaaDoor
open Go.RowKit Go.Maps

end Go.Proofs.YtpcnihfnjmfbgaaDoor

namespace Go.Proofs.YtpcnihfnjmfbgaaDoor
open Go.RowKit Go.Maps

end Go.Proofs.YtpcnihfnjmfbgaaDoor

namespace Go.Proofs.YtpcnihfnjmfbgaaDoor
open Go.RowKit Go.Maps

end Go.Proofs.YtpcnihfnjmfbgaaDoor

namespace Go.Proofs.YtpcnihfnjmfbgaaDoor
open Go.RowKit Go.Maps

theorem below_box {w : World} (o : Obj) : Below w.heap.size w (w.alloc o) := (Below.refl _ _).alloc (Nat.le_refl _) _
theorem below_box2 {w : World} (o o' : Obj) : Below w.heap.size w ((w.alloc o).alloc o') := (below_box o).alloc (by simp) _
theorem block_at2 {w : World} {o o' : Obj} : ((w.alloc o).alloc o').heap[w.heap.size]? = some o := (Below.heap_alloc _ _ _ (by simp)).trans (heap_alloc_new w o)

end Go.Proofs.YtpcnihfnjmfbgaaDoor
