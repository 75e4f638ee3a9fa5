/- The law on SpentBy answers true, whatever comes in, and writes nothing that was there. -/
import Derived.Test.YtagokfoimokniaaGreatDoorQm
import Derived.Test.YtagokfoimokniaaGreatDoorQq
import Derived.Test.YtagokfoimokniaaGreatDoorQh
import Derived.Test.YtagokfoimokniaaGreatDoorJn4
import Derived.Test.YtagokfoimokniaaGreatDoorJn8
import Derived.Test.YtagokfoimokniaaGreatDoorJn6
import Derived.Test.YtagokfoimokniaaGreatDoorJn3
import Derived.Deep.DeepCutAuto
namespace Go.Proofs.YtagokfoimokniaaGreatDoor
open Go.RowKit Go.Maps Go.WideMaps

theorem keptG {w u : World} {v : Value} (h : w.cell? ⟨1, 0, none⟩ = some v) (hb : Below w.heap.size w u) : u.cell? ⟨1, 0, none⟩ = some v := (hb.cell (p := ⟨1, 0, none⟩) (block_lt_of_cell h)).trans h

end Go.Proofs.YtagokfoimokniaaGreatDoor
