/- What the laws on coins and a transaction share: results in their block, copies that are handed on. -/
import Derived.Test.YtjgilpkkfpbefaaGreatDoorQh
import Derived.Test.YtjgilpkkfpbefaaGreatDoorJn3
import Derived.Test.YtjgilpkkfpbefaaGreatDoorJn5
import Derived.Test.YtjgilpkkfpbefaaGreatDoorEv
import Derived.Deep.DeepCutAuto
namespace Go.Proofs.YtjgilpkkfpbefaaGreatDoor
open Go.RowKit Go.Maps Go.WideMaps

theorem keepU {W : World} {b i R : Nat} {v u u' : Value} (h : W.cell? ⟨b, i, none⟩ = some v) (hne : b ≠ R) : ((W.setCell ⟨R, 0, none⟩ u).setCell ⟨R, 1, none⟩ u').cell? ⟨b, i, none⟩ = some v :=
  (World.cell?_of_block ((Below.heap_setCell _ ⟨R, 1, none⟩ u' b hne).trans (Below.heap_setCell _ ⟨R, 0, none⟩ u b hne))).trans h
theorem keepU4 {W : World} {b R : Nat} {v0 v1 v2 v3 u u' : Value} (h : W.cell? ⟨b, 0, none⟩ = some v0 ∧ W.cell? ⟨b, 1, none⟩ = some v1 ∧ W.cell? ⟨b, 2, none⟩ = some v2 ∧ W.cell? ⟨b, 3, none⟩ = some v3) (hne : b ≠ R) :
    ((W.setCell ⟨R, 0, none⟩ u).setCell ⟨R, 1, none⟩ u').cell? ⟨b, 0, none⟩ = some v0 ∧ ((W.setCell ⟨R, 0, none⟩ u).setCell ⟨R, 1, none⟩ u').cell? ⟨b, 1, none⟩ = some v1 ∧ ((W.setCell ⟨R, 0, none⟩ u).setCell ⟨R, 1, none⟩ u').cell? ⟨b, 2, none⟩ = some v2 ∧ ((W.setCell ⟨R, 0, none⟩ u).setCell ⟨R, 1, none⟩ u').cell? ⟨b, 3, none⟩ = some v3 :=
  ⟨keepU h.1 hne, keepU h.2.1 hne, keepU h.2.2.1 hne, keepU h.2.2.2 hne⟩
theorem cellsU {B : Nat} {w w' : World} {b : Nat} {v0 v1 v2 v3 : Value} (hb : Below B w w') (hl : b < B) (h : w.cell? ⟨b, 0, none⟩ = some v0 ∧ w.cell? ⟨b, 1, none⟩ = some v1 ∧ w.cell? ⟨b, 2, none⟩ = some v2 ∧ w.cell? ⟨b, 3, none⟩ = some v3) :
    w'.cell? ⟨b, 0, none⟩ = some v0 ∧ w'.cell? ⟨b, 1, none⟩ = some v1 ∧ w'.cell? ⟨b, 2, none⟩ = some v2 ∧ w'.cell? ⟨b, 3, none⟩ = some v3 :=
  ⟨(hb.cell (p := ⟨b, 0, none⟩) hl).trans h.1, (hb.cell (p := ⟨b, 1, none⟩) hl).trans h.2.1, (hb.cell (p := ⟨b, 2, none⟩) hl).trans h.2.2.1, (hb.cell (p := ⟨b, 3, none⟩) hl).trans h.2.2.2⟩
theorem keepF {w w' : World} {b : Nat} {v0 v1 v2 v3 : Value} (hl : b < w.heap.size) (hb : Below w.heap.size w w') (h : w.cell? ⟨b, 0, none⟩ = some v0 ∧ w.cell? ⟨b, 1, none⟩ = some v1 ∧ w.cell? ⟨b, 2, none⟩ = some v2 ∧ w.cell? ⟨b, 3, none⟩ = some v3) :
    w'.cell? ⟨b, 0, none⟩ = some v0 ∧ w'.cell? ⟨b, 1, none⟩ = some v1 ∧ w'.cell? ⟨b, 2, none⟩ = some v2 ∧ w'.cell? ⟨b, 3, none⟩ = some v3 := cellsU hb hl h

/-- A copy of a transaction that can be read; copies of coins; all that UndoTx is given. -/
def TCU (W : World) (n2 m2 g0 c0 g1 : Nat) (rs : List (Int × Int)) (os : List Ou) : Prop := TxAt W (some ⟨g0, 0, none⟩) n2 (some ⟨g1, 0, none⟩) m2 rs os ∧ n2 ≤ c0 ∧ c0 ≤ maxLen
theorem hidTU {W W' : World} {n2 m2 g0 c0 g1 : Nat} {rs : List (Int × Int)} {os : List Ou} (h : Hid (TCU W n2 m2 g0 c0 g1 rs os)) (hb : Below W.heap.size W W') : Hid (TCU W' n2 m2 g0 c0 g1 rs os) := ⟨h.out.1.below hb (Nat.le_refl _), h.out.2⟩
def PU (u : World) (g n cc : Nat) (cs : List Co) : Prop := ∃ lo hi kv, COwn u lo hi (.slice (some ⟨g, 0, none⟩) n cc) n (fun j => cs.getD j C0) kv ∧ lo ≤ hi ∧ hi ≤ u.heap.size
theorem hidPU {u u' : World} {g n cc : Nat} {cs : List Co} (h : Hid (PU u g n cc cs)) (hb : Below u.heap.size u u') : Hid (PU u' g n cc cs) := by
  obtain ⟨lo, hi, kv, h1, h2, h3⟩ := h.out
  exact ⟨lo, hi, kv, h1.below hb, h2, Nat.le_trans h3 hb.size⟩
end Go.Proofs.YtjgilpkkfpbefaaGreatDoor
