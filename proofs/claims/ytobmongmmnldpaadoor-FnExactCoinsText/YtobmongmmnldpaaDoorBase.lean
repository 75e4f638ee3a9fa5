/- Plain mathematics of the ledger: what a list of texts and a list of signatures answer when they are asked for faults, element by element, and the number of an element in a list. No program is named here. Closed facts of the translation, and what it says that a slice value leads to a list of texts or of signatures. -/
import Derived.Maps.OwnSet
import Derived.Test.YtobmongmmnldpaaDoorProg
import Derived.WalkKit
import Derived.WalkSpells
import Derived.WalkLawsBesides
import Derived.Maps.Own
import Derived.Maps.OwnOps
import Derived.Lib.SmallJoins
namespace Go.Proofs.YtobmongmmnldpaaDoor


instance : DecidableEq ByteArray := fun a b => decidable_of_iff (a.data = b.data) ⟨fun h => by cases a; cases b; simp_all, fun h => by rw [h]⟩

end Go.Proofs.YtobmongmmnldpaaDoor

namespace Go.Proofs.YtobmongmmnldpaaDoor
open Go.RowKit Go.Maps

theorem Tryd.infoStr : (Tryd.prog.info? 9).map (fun i => (i.zero, i.size, i.bytes)) = some (some (.string ByteArray.empty), 1, 16) := by kernel_rfl
def inB (v lo hi : Int) : Bool := decide (lo ≤ v ∧ v ≤ hi)

theorem inB_true {v lo hi : Int} : inB v lo hi = true ↔ lo ≤ v ∧ v ≤ hi := by simp [inB]
theorem two_set {w : World} {b : Nat} {c0 c1 : Value} {t : TypeId} (h : w.heap[b]? = some (.cells #[c0, c1] t (0, 0))) (v0 v1 : Value) :
    (w.setCell ⟨b, 0, none⟩ v0).cell? ⟨b, 0, none⟩ = some v0 ∧ ((w.setCell ⟨b, 0, none⟩ v0).setCell ⟨b, 1, none⟩ v1).cell? ⟨b, 1, none⟩ = some v1 ∧ ((w.setCell ⟨b, 0, none⟩ v0).setCell ⟨b, 1, none⟩ v1).cell? ⟨b, 0, none⟩ = some v0 := by
  have h1 : (w.setCell ⟨b, 0, none⟩ v0).heap[b]? = some (.cells #[v0, c1] t (0, 0)) := by
    have := Joins.block_setCell (i := 0) h v0
    simpa using this
  have h2 : ((w.setCell ⟨b, 0, none⟩ v0).setCell ⟨b, 1, none⟩ v1).heap[b]? = some (.cells #[v0, v1] t (0, 0)) := by
    have := Joins.block_setCell (i := 1) h1 v1
    simpa using this
  exact ⟨by unfold World.cell?; rw [h1]; rfl, by unfold World.cell?; rw [h2]; rfl, by unfold World.cell?; rw [h2]; rfl⟩

/-- What is known of the block of the result behind a call. -/
theorem res_cells {w w2 : World} {b : Nat} {c0 c1 : Value} {t : TypeId} {B : Nat} (h : w.heap[b]? = some (.cells #[c0, c1] t (0, 0))) (hb : Below B w w2) (hB : b < B) :
    w2.cell? ⟨b, 0, none⟩ = some c0 ∧ w2.cell? ⟨b, 1, none⟩ = some c1 ∧ w2.frozen? ⟨b, 0, none⟩ = false ∧ w2.frozen? ⟨b, 1, none⟩ = false ∧ Hid (w2.heap[b]? = some (.cells #[c0, c1] t (0, 0))) := by
  have h2 := (hb.block b hB).trans h
  exact ⟨by unfold World.cell?; rw [h2]; rfl, by unfold World.cell?; rw [h2]; rfl, Joins.unfrozen_of_block h2 0, Joins.unfrozen_of_block h2 1, h2⟩

end Go.Proofs.YtobmongmmnldpaaDoor
