/- What SignsOf answers: the specification's and the program's. What the specification's SignsOf answers. The marks of lists of numbers, and results that hold one compared. -/
import Derived.Test.YtcknimklkjhfiaaDoorIdOf
import Derived.Test.YtcknimklkjhfiaaDoorMk
import Derived.Deep.RegionLaw
namespace Go.Proofs.YtcknimklkjhfiaaDoor
open Go.RowKit Go.Maps Go.WideMaps
attribute [local go_sem ↓] Go.wp_at_zero Go.wp_at_succ

theorem heap_alloc_at (w : World) (o : Obj) (n : Nat) (h : n = w.heap.size) : (w.alloc o).heap[n]? = some o := by rw [h]; exact heap_alloc_new w o

end Go.Proofs.YtcknimklkjhfiaaDoor

namespace Go.Proofs.YtcknimklkjhfiaaDoor
open Go.RowKit Go.Maps Go.WideMaps
attribute [local go_sem ↓] Go.wp_at_zero Go.wp_at_succ

end Go.Proofs.YtcknimklkjhfiaaDoor

namespace Go.Proofs.YtcknimklkjhfiaaDoor
open Go.RowKit Go.Maps Go.WideMaps

end Go.Proofs.YtcknimklkjhfiaaDoor
