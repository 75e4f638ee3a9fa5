/- The law on SpentBy answers true, whatever comes in, and writes nothing that was there. -/
import Derived.Test.YtjgilpkkfpbefaaGreatDoorQm
import Derived.Test.YtjgilpkkfpbefaaGreatDoorQp
import Derived.Test.YtjgilpkkfpbefaaGreatDoorJn3
import Derived.Test.YtjgilpkkfpbefaaGreatDoorQu
namespace Go.Proofs.YtjgilpkkfpbefaaGreatDoor
open Go.RowKit Go.Maps Go.WideMaps

theorem keptG {w u : World} {v : Value} (h : w.cell? ⟨0, 0, none⟩ = some v) (hb : Below w.heap.size w u) : u.cell? ⟨0, 0, none⟩ = some v := (hb.cell (p := ⟨0, 0, none⟩) (block_lt_of_cell h)).trans h

end Go.Proofs.YtjgilpkkfpbefaaGreatDoor
