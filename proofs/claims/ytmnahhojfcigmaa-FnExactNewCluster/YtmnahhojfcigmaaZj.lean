/- A result with a voter in a block of its own; what a copy of a voter or of nodes gives to read. -/
import Derived.Test.YtmnahhojfcigmaaZe
import Derived.Test.YtmnahhojfcigmaaZh
namespace Go.Proofs.Ytmnahhojfcigmaa
open Go.RowKit Go.Maps Go.WideMaps

theorem cell_newV {W : World} {A : Addr} {o : Obj} {v : Value} (h : W.cell? A = some v) : (W.alloc o).cell? A = some v := (World.cell?_alloc_lt _ _ _ (World.block_lt_of_cell? W A h)).trans h
end Go.Proofs.Ytmnahhojfcigmaa
