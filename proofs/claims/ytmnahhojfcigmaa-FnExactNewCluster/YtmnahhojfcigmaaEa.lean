/- Members that come in: their size is told, they are copied into new memory, two lists are compared. -/
import Derived.Test.YtmnahhojfcigmaaTxA
namespace Go.Proofs.Ytmnahhojfcigmaa
open Go.RowKit Go.Maps

/-- A member: its key, and the two numbers of its ref. -/
abbrev Mb := Int × Int × Int
def Z3 : Mb := (0, 0, 0)
/-- The slice value '.slice a n _' leads to the members ms, three cells each. -/
def MAt (w : World) (a : Option Addr) (n : Nat) (ms : List Mb) : Prop :=
  ms.length = n ∧ (n = 0 ∨ ∃ b off, a = some ⟨b, off, none⟩ ∧ b < w.heap.size ∧
    ∀ j, j < n → w.cell? ⟨b, off + j * 3, none⟩ = some (.int .i64 (ms.getD j Z3).1) ∧ w.cell? ⟨b, off + j * 3 + 1, none⟩ = some (.int .i64 (ms.getD j Z3).2.1) ∧ w.cell? ⟨b, off + j * 3 + 2, none⟩ = some (.int .i64 (ms.getD j Z3).2.2))
theorem MAt.below {w w' : World} {a : Option Addr} {n : Nat} {ms : List Mb} (h : MAt w a n ms) {B : Nat} (hb : Below B w w') (hB : w.heap.size ≤ B) : MAt w' a n ms := by
  obtain ⟨hn, h | ⟨b, off, rfl, hlt, hc⟩⟩ := h
  · exact ⟨hn, .inl h⟩
  · exact ⟨hn, .inr ⟨b, off, rfl, Nat.lt_of_lt_of_le hlt hb.size, fun j hj =>
      ⟨(hb.cell (p := ⟨b, off + j * 3, none⟩) (Nat.lt_of_lt_of_le hlt hB)).trans (hc j hj).1, (hb.cell (p := ⟨b, off + j * 3 + 1, none⟩) (Nat.lt_of_lt_of_le hlt hB)).trans (hc j hj).2.1, (hb.cell (p := ⟨b, off + j * 3 + 2, none⟩) (Nat.lt_of_lt_of_le hlt hB)).trans (hc j hj).2.2⟩⟩⟩
def mcells (ms : List Mb) : List Value := ms.flatMap fun g => [.int .i64 g.1, .int .i64 g.2.1, .int .i64 g.2.2]
theorem mcells_at (ms : List Mb) (j : Nat) (hj : j < ms.length) : (mcells ms)[j * 3]? = some (.int .i64 (ms.getD j Z3).1) ∧ (mcells ms)[j * 3 + 1]? = some (.int .i64 (ms.getD j Z3).2.1) ∧ (mcells ms)[j * 3 + 2]? = some (.int .i64 (ms.getD j Z3).2.2) := by
  induction ms generalizing j with
  | nil => simp at hj
  | cons x t ih =>
    cases j with
    | zero => simp [mcells]
    | succ j =>
      have hj' : j < t.length := by simpa using hj
      have h := ih j hj'
      have e : mcells (x :: t) = .int .i64 x.1 :: .int .i64 x.2.1 :: .int .i64 x.2.2 :: mcells t := by simp [mcells]
      have e0 : (j + 1) * 3 = j * 3 + 1 + 1 + 1 := by omega
      rw [e, e0]
      simpa using h
theorem MAt.owned {w : World} {base n cap g : Nat} {ms : List Mb} {e : TypeId} (h : w.ownsRow base e 3 (.slice (some ⟨g, 0, none⟩) n cap) n (mcells ms)) (hn : ms.length = n) : MAt w (some ⟨g, 0, none⟩) n ms := by
  refine ⟨hn, .inr ⟨g, 0, rfl, (h.lt g rfl).2, fun j hj => ?_⟩⟩
  have := mcells_at ms j (by omega)
  rw [Nat.zero_add, h.cellAt (j * 3) (by omega), h.cellAt (j * 3 + 1) (by omega), h.cellAt (j * 3 + 2) (by omega)]
  exact this

end Go.Proofs.Ytmnahhojfcigmaa
