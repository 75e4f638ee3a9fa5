/- The law on SpentBy answers true, whatever comes in, and writes nothing that was there. -/
import Derived.Test.YtacjgnefomdoaaaGreatDoorQm
import Derived.Test.YtacjgnefomdoaaaGreatDoorQp
import Derived.Test.YtacjgnefomdoaaaGreatDoorITx
import Derived.Test.YtacjgnefomdoaaaGreatDoorQu
namespace Go.Proofs.YtacjgnefomdoaaaGreatDoor
open Go.RowKit Go.Maps Go.WideMaps

theorem keptG {w u : World} {v : Value} (h : w.cell? ⟨0, 0, none⟩ = some v) (hb : Below w.heap.size w u) : u.cell? ⟨0, 0, none⟩ = some v := (hb.cell (p := ⟨0, 0, none⟩) (block_lt_of_cell h)).trans h

end Go.Proofs.YtacjgnefomdoaaaGreatDoor
