/- Plain mathematics of the ledger: what a list of texts and a list of signatures answer when they are asked for faults, element by element, and the number of an element in a list. No program is named here. Closed facts of the translation, and what it says that a slice value leads to a list of texts or of signatures. -/
import Derived.Maps.OwnSet
import Derived.Test.YtoahopeegmhlnaaGreatDoorProg
import Derived.WalkKit
import Derived.WalkSpells
import Derived.WalkLawsBesides
import Derived.Maps.Own
import Derived.Maps.OwnOps
import Derived.Lib.SmallJoins
namespace Go.Proofs.YtoahopeegmhlnaaGreatDoor

/-- The number of x in l: its first place and 1; 0: it is not there. -/
def num {A : Type} [DecidableEq A] : List A → A → Nat
  | [], _ => 0
  | y :: l, x => if y = x then 1 else if num l x = 0 then 0 else num l x + 1

section
variable {A : Type} [DecidableEq A]

theorem num_zero (l : List A) (x : A) : num l x = 0 ↔ x ∉ l := by
  induction l with
  | nil => simp [num]
  | cons y l ih =>
    unfold num
    by_cases h : y = x
    · simp [h]
    · by_cases h2 : num l x = 0
      · have := ih.1 h2
        simp [h, h2]
        exact ⟨fun e => h e.symm, this⟩
      · have h3 : x ∈ l := Classical.byContradiction fun hn => h2 (ih.2 hn)
        simp [h, h2, h3]

theorem num_hit (l : List A) (x : A) (d : A) (k : Nat) (hk : k < l.length) (he : l.getD k d = x) (hn : x ∉ l.take k) : num l x = k + 1 := by
  induction l generalizing k with
  | nil => simp at hk
  | cons y l ih =>
    cases k with
    | zero => simp at he; simp [num, he]
    | succ k =>
      simp at hk he hn
      have := ih k hk (by simpa using he) hn.2
      have hyx : ¬ y = x := fun e => hn.1 e.symm
      simp [num, hyx, this]

omit [DecidableEq A] in
theorem take_snoc (l : List A) (d : A) (k : Nat) (hk : k < l.length) : l.take (k + 1) = l.take k ++ [l.getD k d] := by
  rw [List.take_succ_eq_append_getElem hk]
  simp [List.getD, hk]

end

instance : DecidableEq ByteArray := fun a b => decidable_of_iff (a.data = b.data) ⟨fun h => by cases a; cases b; simp_all, fun h => by rw [h]⟩

def G0 : Int × Int := (0, 0)

end Go.Proofs.YtoahopeegmhlnaaGreatDoor

namespace Go.Proofs.YtoahopeegmhlnaaGreatDoor
open Go.RowKit Go.Maps

theorem Tryz.infoStr : (Tryz.prog.info? 9).map (fun i => (i.zero, i.size, i.bytes)) = some (some (.string ByteArray.empty), 1, 16) := by kernel_rfl
/-- The slice value '.slice a n _' leads to the signatures gs, two cells each. -/
def GAt (w : World) (a : Option Addr) (n : Nat) (gs : List (Int × Int)) : Prop :=
  gs.length = n ∧ (n = 0 ∨ ∃ b off, a = some ⟨b, off, none⟩ ∧ b < w.heap.size ∧
    ∀ j, j < n → w.cell? ⟨b, off + j * 2, none⟩ = some (.int .i64 (gs.getD j G0).1) ∧ w.cell? ⟨b, off + j * 2 + 1, none⟩ = some (.int .i64 (gs.getD j G0).2))

theorem GAt.below {w w' : World} {a : Option Addr} {n : Nat} {gs : List (Int × Int)} (h : GAt w a n gs) {B : Nat} (hb : Below B w w') (hB : w.heap.size ≤ B) : GAt w' a n gs := by
  obtain ⟨hn, h | ⟨b, off, rfl, hlt, hc⟩⟩ := h
  · exact ⟨hn, .inl h⟩
  · exact ⟨hn, .inr ⟨b, off, rfl, Nat.lt_of_lt_of_le hlt hb.size, fun j hj =>
      ⟨(hb.cell (p := ⟨b, off + j * 2, none⟩) (Nat.lt_of_lt_of_le hlt hB)).trans (hc j hj).1, (hb.cell (p := ⟨b, off + j * 2 + 1, none⟩) (Nat.lt_of_lt_of_le hlt hB)).trans (hc j hj).2⟩⟩⟩

def gcells (gs : List (Int × Int)) : List Value := gs.flatMap fun g => [.int .i64 g.1, .int .i64 g.2]

theorem gcells_length (gs : List (Int × Int)) : (gcells gs).length = gs.length * 2 := by
  induction gs with
  | nil => rfl
  | cons g r ih => simp [gcells] at ih ⊢; omega

theorem gcells_at (gs : List (Int × Int)) (j : Nat) (hj : j < gs.length) : (gcells gs)[j * 2]? = some (.int .i64 (gs.getD j G0).1) ∧ (gcells gs)[j * 2 + 1]? = some (.int .i64 (gs.getD j G0).2) := by
  induction gs generalizing j with
  | nil => simp at hj
  | cons g r ih =>
    cases j with
    | zero => simp [gcells]
    | succ j =>
      have := ih j (by simpa using hj)
      have e : gcells (g :: r) = .int .i64 g.1 :: .int .i64 g.2 :: gcells r := by simp [gcells]
      rw [e, show (j + 1) * 2 = j * 2 + 1 + 1 by omega]
      simpa using this

theorem GAt.owned {w : World} {base n cap g : Nat} {gs : List (Int × Int)} {e : TypeId} (h : w.ownsRow base e 2 (.slice (some ⟨g, 0, none⟩) n cap) n (gcells gs)) (hn : gs.length = n) : GAt w (some ⟨g, 0, none⟩) n gs := by
  refine ⟨hn, .inr ⟨g, 0, rfl, (h.lt g rfl).2, fun j hj => ?_⟩⟩
  have := gcells_at gs j (by omega)
  rw [Nat.zero_add, h.cellAt (j * 2) (by omega), h.cellAt (j * 2 + 1) (by omega)]
  exact this

def inB (v lo hi : Int) : Bool := decide (lo ≤ v ∧ v ≤ hi)

theorem inB_true {v lo hi : Int} : inB v lo hi = true ↔ lo ≤ v ∧ v ≤ hi := by simp [inB]
theorem GAt.take {w : World} {a : Option Addr} {n k : Nat} {gs : List (Int × Int)} (h : GAt w a n gs) (hk : k ≤ n) : GAt w a k (gs.take k) := by
  obtain ⟨hn, h⟩ := h
  refine ⟨by simp; omega, ?_⟩
  rcases h with h | ⟨b, off, rfl, hb, hc⟩
  · exact .inl (by omega)
  · refine .inr ⟨b, off, rfl, hb, fun j hj => ?_⟩
    rw [(hc j (by omega)).1, (hc j (by omega)).2]
    simp [List.getD, hj]

theorem two_set {w : World} {b : Nat} {c0 c1 : Value} {t : TypeId} (h : w.heap[b]? = some (.cells #[c0, c1] t (0, 0))) (v0 v1 : Value) :
    (w.setCell ⟨b, 0, none⟩ v0).cell? ⟨b, 0, none⟩ = some v0 ∧ ((w.setCell ⟨b, 0, none⟩ v0).setCell ⟨b, 1, none⟩ v1).cell? ⟨b, 1, none⟩ = some v1 ∧ ((w.setCell ⟨b, 0, none⟩ v0).setCell ⟨b, 1, none⟩ v1).cell? ⟨b, 0, none⟩ = some v0 := by
  have h1 : (w.setCell ⟨b, 0, none⟩ v0).heap[b]? = some (.cells #[v0, c1] t (0, 0)) := by
    have := Joins.block_setCell (i := 0) h v0
    simpa using this
  have h2 : ((w.setCell ⟨b, 0, none⟩ v0).setCell ⟨b, 1, none⟩ v1).heap[b]? = some (.cells #[v0, v1] t (0, 0)) := by
    have := Joins.block_setCell (i := 1) h1 v1
    simpa using this
  exact ⟨by unfold World.cell?; rw [h1]; rfl, by unfold World.cell?; rw [h2]; rfl, by unfold World.cell?; rw [h2]; rfl⟩

/-- What is known of the block of the result behind a call. -/
theorem res_cells {w w2 : World} {b : Nat} {c0 c1 : Value} {t : TypeId} {B : Nat} (h : w.heap[b]? = some (.cells #[c0, c1] t (0, 0))) (hb : Below B w w2) (hB : b < B) :
    w2.cell? ⟨b, 0, none⟩ = some c0 ∧ w2.cell? ⟨b, 1, none⟩ = some c1 ∧ w2.frozen? ⟨b, 0, none⟩ = false ∧ w2.frozen? ⟨b, 1, none⟩ = false ∧ Hid (w2.heap[b]? = some (.cells #[c0, c1] t (0, 0))) := by
  have h2 := (hb.block b hB).trans h
  exact ⟨by unfold World.cell?; rw [h2]; rfl, by unfold World.cell?; rw [h2]; rfl, Joins.unfrozen_of_block h2 0, Joins.unfrozen_of_block h2 1, h2⟩

end Go.Proofs.YtoahopeegmhlnaaGreatDoor
