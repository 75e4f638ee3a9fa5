/- The specification's ParseBlock keeps its contract. -/
import Derived.Test.YtlcdhhaikhieiaaDoorX3
import Derived.Test.YtlcdhhaikhieiaaDoorX1
namespace Go.Proofs.YtlcdhhaikhieiaaDoor
open Go.RowKit Go.Shelf Go.Maps Go.WideMaps

theorem Chg.cell {w w' : World} {lo hi b i : Nat} (h : Chg w w' lo hi) (hb : b < w.heap.size) (hd : b < lo ∨ hi ≤ b) : w'.cell? ⟨b, i, none⟩ = w.cell? ⟨b, i, none⟩ := World.cell?_of_block (h.block b hb hd)
end Go.Proofs.YtlcdhhaikhieiaaDoor
