/- The specification's text of a transaction: blanks swapped for underscores. -/
import Derived.Test.YtajkihmefpbofaaGreatDoorRtT
import Derived.Lib.ConvBytes
namespace Go.Proofs.YtajkihmefpbofaaGreatDoor
open Go.RowKit Go.Shelf Go.Maps Go.WideMaps

def swp (c : UInt8) : UInt8 := if c = 32 then 95 else c
structure SwAt (w wr : World) (t : List UInt8) (k : Nat) : Prop where
  bel : Below w.heap.size w wr
  c : ∀ j, j < t.length → wr.cell? ⟨w.heap.size, j, none⟩ = some (.int .u8 (if j < k then swp (t.getD j 0) else t.getD j 0).toNat)
  f : ∀ j, j < t.length → wr.frozen? ⟨w.heap.size, j, none⟩ = false

theorem bytes_below (w : World) (e : TypeId) (s : ByteArray) : Below w.heap.size w (Lib.bytesWorld w e s) :=
  ⟨rfl, rfl, rfl, by rw [Lib.bytesWorld_size]; omega, fun k hk => Lib.bytesWorld_at_old w e s k hk⟩
theorem SwAt.start (w : World) (t : List UInt8) : SwAt w (Lib.bytesWorld w 5 (str t)) t 0 := by
  refine ⟨bytes_below _ _ _, fun j hj => ?_, fun j hj => ?_⟩
  · have := Lib.bytesWorld_cell w 5 (str t) j hj
    simpa [str] using this
  · have hs : t.length ≤ (Lib.bytesCells w 5 (str t)).size := by simp [Lib.bytesCells, str]
    unfold World.frozen?
    rw [Lib.bytesWorld_at_new]
    simp
    omega
theorem SwAt.same {w wr : World} {t : List UInt8} {k : Nat} (h : SwAt w wr t k) (hs : swp (t.getD k 0) = t.getD k 0) : SwAt w wr t (k + 1) := by
  refine ⟨h.bel, fun j hj => ?_, h.f⟩
  rw [h.c j hj]
  by_cases e : j = k
  · subst e; simp only [Nat.lt_irrefl, if_false, Nat.lt_succ_self, if_true, hs]
  · by_cases e2 : j < k
    · rw [if_pos e2, if_pos (by omega)]
    · rw [if_neg e2, if_neg (by omega)]
theorem SwAt.set {w wr : World} {t : List UInt8} {k : Nat} (h : SwAt w wr t k) (hk : k < t.length) (hs : swp (t.getD k 0) = 95) : SwAt w (wr.setCell ⟨w.heap.size, k, none⟩ (.int .u8 95)) t (k + 1) := by
  refine ⟨h.bel.setCell (p := ⟨w.heap.size, k, none⟩) (Nat.le_refl _) _, fun j hj => ?_, fun j hj => by rw [World.frozen?_setCell]; exact h.f j hj⟩
  by_cases e : j = k
  · subst e
    rw [World.cell?_setCell_same _ _ _ (h.c j hj), if_pos (Nat.lt_succ_self _), hs]
    rfl
  · rw [World.cell?_setCell_other _ _ _ _ (by intro e2; cases e2; exact e rfl), h.c j hj]
    by_cases e2 : j < k
    · rw [if_pos e2, if_pos (by omega)]
    · rw [if_neg e2, if_neg (by omega)]
theorem SwAt.conv {w wr : World} {t : List UInt8} {k cap : Nat} (h : SwAt w wr t k) (hk : ¬ k < t.length) : (convert 22 9 (.slice (some ⟨w.heap.size, 0, none⟩) t.length cap)).run Tryz.prog wr = .ok (.string (str (t.map swp))) wr := by
  have := run_convert_bytes_arg wr 22 5 Tryz.underlying22 Tryz.underlying5 w.heap.size 0 t.length cap ((t.map swp).map fun b => (b.toNat : Int)) (by simp) (fun i hi => by
    have e := h.c i hi
    rw [if_pos (by omega)] at e
    simpa [List.getD, hi] using e) 9 Tryz.underlying9
  rw [this]
  have e : strOfNums ((t.map swp).map fun b => (b.toNat : Int)) = str (t.map swp) := by
    simp [strOfNums, str, Function.comp_def]
  rw [e]

end Go.Proofs.YtajkihmefpbofaaGreatDoor
