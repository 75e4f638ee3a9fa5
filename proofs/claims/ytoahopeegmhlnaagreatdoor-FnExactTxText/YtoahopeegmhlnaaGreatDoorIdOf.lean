/- What IdOf and TextOf and HasSign answer: the specification's and the program's. The law on IdOf answers true, whatever ledger and text come in, and writes nothing that was there. -/
import Derived.Test.YtoahopeegmhlnaaGreatDoorTw
import Derived.Test.YtoahopeegmhlnaaGreatDoorSp
import Derived.Test.YtoahopeegmhlnaaGreatDoorLw
namespace Go.Proofs.YtoahopeegmhlnaaGreatDoor
open Go.RowKit Go.Maps Go.WideMaps

/-- Below, behind the result's two stores. -/
theorem below_res {w w2 : World} (h : Below w.heap.size w w2) (v0 v1 : Value) : Below w.heap.size w ((w2.setCell ⟨w.heap.size + 1, 0, none⟩ v0).setCell ⟨w.heap.size + 1, 1, none⟩ v1) :=
  (h.setCell (p := ⟨w.heap.size + 1, 0, none⟩) (show w.heap.size ≤ w.heap.size + 1 by omega) _).setCell (p := ⟨w.heap.size + 1, 1, none⟩) (show w.heap.size ≤ w.heap.size + 1 by omega) _

end Go.Proofs.YtoahopeegmhlnaaGreatDoor

namespace Go.Proofs.YtoahopeegmhlnaaGreatDoor
open Go.RowKit Go.Maps Go.WideMaps

theorem keepb {v v' : World} {b : Nat} {o : Obj} (h : v.heap[b]? = some o) (hb : Below v.heap.size v v') : Hid (v'.heap[b]? = some o) := (hb.block b (lt_of_block h)).trans h
theorem cells2 {v : World} {b : Nat} {a0 a1 : Value} {t : TypeId} (h : v.heap[b]? = some (.cells #[a0, a1] t (0, 0))) : v.cell? ⟨b, 0, none⟩ = some a0 ∧ v.cell? ⟨b, 1, none⟩ = some a1 := ⟨by unfold World.cell?; rw [h]; rfl, by unfold World.cell?; rw [h]; rfl⟩

end Go.Proofs.YtoahopeegmhlnaaGreatDoor
