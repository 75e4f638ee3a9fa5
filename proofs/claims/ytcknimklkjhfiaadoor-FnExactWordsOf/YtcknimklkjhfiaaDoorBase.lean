/- Plain mathematics of the ledger: what a list of texts and a list of signatures answer when they are asked for faults, element by element, and the number of an element in a list. No program is named here. Closed facts of the translation, and what it says that a slice value leads to a list of texts or of signatures. -/
import Derived.Maps.OwnSet
import Derived.Test.YtcknimklkjhfiaaDoorProg
import Derived.WalkKit
import Derived.WalkSpells
import Derived.WalkLawsBesides
import Derived.Maps.Own
import Derived.Maps.OwnOps
import Derived.Lib.SmallJoins
namespace Go.Proofs.YtcknimklkjhfiaaDoor


instance : DecidableEq ByteArray := fun a b => decidable_of_iff (a.data = b.data) ⟨fun h => by cases a; cases b; simp_all, fun h => by rw [h]⟩

def E0 : ByteArray := ByteArray.empty
end Go.Proofs.YtcknimklkjhfiaaDoor

namespace Go.Proofs.YtcknimklkjhfiaaDoor
open Go.RowKit Go.Maps

theorem Tryd.infoStr : (Tryd.prog.info? 9).map (fun i => (i.zero, i.size, i.bytes)) = some (some (.string ByteArray.empty), 1, 16) := by kernel_rfl
/-- The slice value '.slice a n _' leads to the texts ss. -/
def SAt (w : World) (a : Option Addr) (n : Nat) (ss : List ByteArray) : Prop :=
  ss.length = n ∧ (n = 0 ∨ ∃ b off, a = some ⟨b, off, none⟩ ∧ b < w.heap.size ∧ ∀ j, j < n → w.cell? ⟨b, off + j, none⟩ = some (.string (ss.getD j E0)))

theorem SAt.below {w w' : World} {a : Option Addr} {n : Nat} {ss : List ByteArray} (h : SAt w a n ss) {B : Nat} (hb : Below B w w') (hB : w.heap.size ≤ B) : SAt w' a n ss := by
  obtain ⟨hn, h | ⟨b, off, rfl, hlt, hc⟩⟩ := h
  · exact ⟨hn, .inl h⟩
  · exact ⟨hn, .inr ⟨b, off, rfl, Nat.lt_of_lt_of_le hlt hb.size, fun j hj => (hb.cell (p := ⟨b, off + j, none⟩) (Nat.lt_of_lt_of_le hlt hB)).trans (hc j hj)⟩⟩

/-- Of a row that the call owns. -/
theorem SAt.owned {w : World} {base n cap g : Nat} {ss : List ByteArray} {e : TypeId} (h : w.ownsRow base e 1 (.slice (some ⟨g, 0, none⟩) n cap) n (ss.map Value.string)) (hn : ss.length = n) : SAt w (some ⟨g, 0, none⟩) n ss := by
  refine ⟨hn, .inr ⟨g, 0, rfl, (h.lt g rfl).2, fun j hj => ?_⟩⟩
  rw [Nat.zero_add, h.cellAt j (by omega)]
  simp [List.getD, show j < ss.length by omega]

theorem ret_int {k : IntKind} {a b : Int} (h : a = b) : Ending.returned (.int k a) = .returned (.int k b) := by rw [h]

theorem SAt.take {w : World} {a : Option Addr} {n k : Nat} {ss : List ByteArray} (h : SAt w a n ss) (hk : k ≤ n) : SAt w a k (ss.take k) := by
  obtain ⟨hn, h⟩ := h
  refine ⟨by simp; omega, ?_⟩
  rcases h with h | ⟨b, off, rfl, hb, hc⟩
  · exact .inl (by omega)
  · refine .inr ⟨b, off, rfl, hb, fun j hj => ?_⟩
    rw [hc j (by omega)]
    simp [List.getD, hj]

theorem two_set {w : World} {b : Nat} {c0 c1 : Value} {t : TypeId} (h : w.heap[b]? = some (.cells #[c0, c1] t (0, 0))) (v0 v1 : Value) :
    (w.setCell ⟨b, 0, none⟩ v0).cell? ⟨b, 0, none⟩ = some v0 ∧ ((w.setCell ⟨b, 0, none⟩ v0).setCell ⟨b, 1, none⟩ v1).cell? ⟨b, 1, none⟩ = some v1 ∧ ((w.setCell ⟨b, 0, none⟩ v0).setCell ⟨b, 1, none⟩ v1).cell? ⟨b, 0, none⟩ = some v0 := by
  have h1 : (w.setCell ⟨b, 0, none⟩ v0).heap[b]? = some (.cells #[v0, c1] t (0, 0)) := by
    have := Joins.block_setCell (i := 0) h v0
    simpa using this
  have h2 : ((w.setCell ⟨b, 0, none⟩ v0).setCell ⟨b, 1, none⟩ v1).heap[b]? = some (.cells #[v0, v1] t (0, 0)) := by
    have := Joins.block_setCell (i := 1) h1 v1
    simpa using this
  exact ⟨by unfold World.cell?; rw [h1]; rfl, by unfold World.cell?; rw [h2]; rfl, by unfold World.cell?; rw [h2]; rfl⟩

/-- What is known of the block of the result behind a call. -/
theorem res_cells {w w2 : World} {b : Nat} {c0 c1 : Value} {t : TypeId} {B : Nat} (h : w.heap[b]? = some (.cells #[c0, c1] t (0, 0))) (hb : Below B w w2) (hB : b < B) :
    w2.cell? ⟨b, 0, none⟩ = some c0 ∧ w2.cell? ⟨b, 1, none⟩ = some c1 ∧ w2.frozen? ⟨b, 0, none⟩ = false ∧ w2.frozen? ⟨b, 1, none⟩ = false ∧ Hid (w2.heap[b]? = some (.cells #[c0, c1] t (0, 0))) := by
  have h2 := (hb.block b hB).trans h
  exact ⟨by unfold World.cell?; rw [h2]; rfl, by unfold World.cell?; rw [h2]; rfl, Joins.unfrozen_of_block h2 0, Joins.unfrozen_of_block h2 1, h2⟩

end Go.Proofs.YtcknimklkjhfiaaDoor
