/- The law on SpentBy answers true, whatever comes in, and writes nothing that was there. -/
import Derived.Test.YthjolannlefbcaaGreatDoorQm
import Derived.Test.YthjolannlefbcaaGreatDoorQq
import Derived.Test.YthjolannlefbcaaGreatDoorQh
import Derived.Test.YthjolannlefbcaaGreatDoorJn4
import Derived.Test.YthjolannlefbcaaGreatDoorJn7
import Derived.Test.YthjolannlefbcaaGreatDoorJn5
import Derived.Test.YthjolannlefbcaaGreatDoorJn3
import Derived.Deep.DeepCutAuto
namespace Go.Proofs.YthjolannlefbcaaGreatDoor
open Go.RowKit Go.Maps Go.WideMaps

theorem keptG {w u : World} {v : Value} (h : w.cell? ⟨0, 0, none⟩ = some v) (hb : Below w.heap.size w u) : u.cell? ⟨0, 0, none⟩ = some v := (hb.cell (p := ⟨0, 0, none⟩) (block_lt_of_cell h)).trans h

end Go.Proofs.YthjolannlefbcaaGreatDoor
