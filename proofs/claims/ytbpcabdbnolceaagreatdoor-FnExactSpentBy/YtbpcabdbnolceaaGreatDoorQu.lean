/- What the laws on coins and a transaction share: results in their block, copies that are handed on. -/
import Derived.Test.YtbpcabdbnolceaaGreatDoorQh
import Derived.Test.YtbpcabdbnolceaaGreatDoorCh
import Derived.Test.YtbpcabdbnolceaaGreatDoorCt
import Derived.Test.YtbpcabdbnolceaaGreatDoorDi
import Derived.Test.YtbpcabdbnolceaaGreatDoorEv
import Derived.Test.YtbpcabdbnolceaaGreatDoorLTxFault
import Derived.Deep.DeepCutAuto
namespace Go.Proofs.YtbpcabdbnolceaaGreatDoor
open Go.RowKit Go.Maps Go.WideMaps

/-- A result of coins in block R: its code, its coins in memory of their own. -/
def SRc (w1 wc : World) (R : Nat) (cd : Int) (res : List Co) : Prop :=
  w1.heap.size ≤ R ∧ Below w1.heap.size w1 wc ∧ ∃ va vc, wc.heap[R]? = some (.cells #[.int .i64 cd, .slice va res.length vc] 31 (0, 0)) ∧ CAt wc va res.length res
/-- The result's block, still empty. -/
structure ZAt (W u : World) (R : Nat) : Prop where
  lo : W.heap.size ≤ R
  blk : u.heap[R]? = some (.cells #[.int .i64 0, .slice none 0 0] 31 (0, 0))
theorem hidZ {W u u' : World} {R : Nat} (h : Hid (ZAt W u R)) (hb : Below u.heap.size u u') : Hid (ZAt W u' R) := ⟨h.out.lo, (keepb h.out.blk hb).out⟩
theorem zat_new {W u : World} (h : Hid (Below W.heap.size W u)) : Hid (ZAt W (u.alloc (.cells #[.int .i64 0, .slice none 0 0] 31)) u.heap.size) := ⟨h.out.size, heap_alloc_new _ _⟩
theorem zlt {W u : World} {R : Nat} (h : Hid (ZAt W u R)) : Hid (R < u.heap.size) := lt_of_block h.out.blk
theorem zne {W u : World} {R b : Nat} (hb : b < W.heap.size) (h : Hid (ZAt W u R)) : Hid (b ≠ R) := by have := h.out.lo; show b ≠ R; omega
theorem src_set {w1 uC : World} {R lo : Nat} {cd : Int} {res : List Co} {va : Option Addr} {vc : Nat} (hk : ∀ j, j < res.length → (res.getD j C0).l.length ≤ 1048576) (HOC : Hid (∃ kv, COwn uC lo uC.heap.size (.slice va res.length vc) res.length (fun j => res.getD j C0) kv)) (HCC : Hid (Below w1.heap.size w1 uC)) (HZ : Hid (ZAt w1 uC R)) (hR2 : Hid (R < lo)) :
    Hid (SRc w1 ((uC.setCell ⟨R, 0, none⟩ (.int .i64 cd)).setCell ⟨R, 1, none⟩ (.slice va res.length vc)) R cd res) := by
  have b1 := Joins.block_setCell (i := 0) HZ.out.blk (.int .i64 cd)
  have b2 := Joins.block_setCell (i := 1) b1 (.slice va res.length vc)
  have hR := hR2.out
  obtain ⟨kv, hO⟩ := HOC.out
  have nv : (Value.slice va res.length vc).ownBlock ≠ some R := fun e => by
    obtain ⟨xs, h1, _⟩ := hO.row
    have := (h1.lt _ e).1
    omega
  have nk : ∀ j, j < res.length → (kv j).ownBlock ≠ some R := fun j hj e => by have := ((hO.keys j hj).1.lt _ e).1; omega
  exact ⟨HZ.out.lo, (HCC.out.setCell (p := ⟨R, 0, none⟩) HZ.out.lo _).setCell (p := ⟨R, 1, none⟩) HZ.out.lo _, va, vc, b2, own_at2 ((hO.set2 nv nk 0 (.int .i64 cd)).set2 nv nk 1 (.slice va res.length vc)) rfl hk⟩
theorem src_new {w1 uC : World} {lo : Nat} {cd : Int} {res : List Co} {va : Option Addr} {vc : Nat} (hk : ∀ j, j < res.length → (res.getD j C0).l.length ≤ 1048576) (HOC : Hid (∃ kv, COwn uC lo uC.heap.size (.slice va res.length vc) res.length (fun j => res.getD j C0) kv)) (HCC : Hid (Below w1.heap.size w1 uC)) :
    Hid (SRc w1 (uC.alloc (.cells #[.int .i64 cd, .slice va res.length vc] 31)) uC.heap.size cd res) := by
  obtain ⟨kv, hO⟩ := HOC.out
  exact ⟨HCC.out.size, HCC.out.trans ((below_box _).mono HCC.out.size), va, vc, heap_alloc_new _ _, own_at2 (hO.below (below_box _)) rfl hk⟩
theorem keepU {W : World} {b i R : Nat} {v u u' : Value} (h : W.cell? ⟨b, i, none⟩ = some v) (hne : b ≠ R) : ((W.setCell ⟨R, 0, none⟩ u).setCell ⟨R, 1, none⟩ u').cell? ⟨b, i, none⟩ = some v :=
  (World.cell?_of_block ((Below.heap_setCell _ ⟨R, 1, none⟩ u' b hne).trans (Below.heap_setCell _ ⟨R, 0, none⟩ u b hne))).trans h
theorem keepU4 {W : World} {b R : Nat} {v0 v1 v2 v3 u u' : Value} (h : W.cell? ⟨b, 0, none⟩ = some v0 ∧ W.cell? ⟨b, 1, none⟩ = some v1 ∧ W.cell? ⟨b, 2, none⟩ = some v2 ∧ W.cell? ⟨b, 3, none⟩ = some v3) (hne : b ≠ R) :
    ((W.setCell ⟨R, 0, none⟩ u).setCell ⟨R, 1, none⟩ u').cell? ⟨b, 0, none⟩ = some v0 ∧ ((W.setCell ⟨R, 0, none⟩ u).setCell ⟨R, 1, none⟩ u').cell? ⟨b, 1, none⟩ = some v1 ∧ ((W.setCell ⟨R, 0, none⟩ u).setCell ⟨R, 1, none⟩ u').cell? ⟨b, 2, none⟩ = some v2 ∧ ((W.setCell ⟨R, 0, none⟩ u).setCell ⟨R, 1, none⟩ u').cell? ⟨b, 3, none⟩ = some v3 :=
  ⟨keepU h.1 hne, keepU h.2.1 hne, keepU h.2.2.1 hne, keepU h.2.2.2 hne⟩
theorem cellsU {B : Nat} {w w' : World} {b : Nat} {v0 v1 v2 v3 : Value} (hb : Below B w w') (hl : b < B) (h : w.cell? ⟨b, 0, none⟩ = some v0 ∧ w.cell? ⟨b, 1, none⟩ = some v1 ∧ w.cell? ⟨b, 2, none⟩ = some v2 ∧ w.cell? ⟨b, 3, none⟩ = some v3) :
    w'.cell? ⟨b, 0, none⟩ = some v0 ∧ w'.cell? ⟨b, 1, none⟩ = some v1 ∧ w'.cell? ⟨b, 2, none⟩ = some v2 ∧ w'.cell? ⟨b, 3, none⟩ = some v3 :=
  ⟨(hb.cell (p := ⟨b, 0, none⟩) hl).trans h.1, (hb.cell (p := ⟨b, 1, none⟩) hl).trans h.2.1, (hb.cell (p := ⟨b, 2, none⟩) hl).trans h.2.2.1, (hb.cell (p := ⟨b, 3, none⟩) hl).trans h.2.2.2⟩
theorem keepF {w w' : World} {b : Nat} {v0 v1 v2 v3 : Value} (hl : b < w.heap.size) (hb : Below w.heap.size w w') (h : w.cell? ⟨b, 0, none⟩ = some v0 ∧ w.cell? ⟨b, 1, none⟩ = some v1 ∧ w.cell? ⟨b, 2, none⟩ = some v2 ∧ w.cell? ⟨b, 3, none⟩ = some v3) :
    w'.cell? ⟨b, 0, none⟩ = some v0 ∧ w'.cell? ⟨b, 1, none⟩ = some v1 ∧ w'.cell? ⟨b, 2, none⟩ = some v2 ∧ w'.cell? ⟨b, 3, none⟩ = some v3 := cellsU hb hl h

/-- A copy of a transaction that can be read; copies of coins; all that UndoTx is given. -/
def TCU (W : World) (n2 m2 g0 c0 g1 : Nat) (rs : List (Int × Int)) (os : List Ou) : Prop := TxAt W (some ⟨g0, 0, none⟩) n2 (some ⟨g1, 0, none⟩) m2 rs os ∧ n2 ≤ c0 ∧ c0 ≤ maxLen
theorem hidTU {W W' : World} {n2 m2 g0 c0 g1 : Nat} {rs : List (Int × Int)} {os : List Ou} (h : Hid (TCU W n2 m2 g0 c0 g1 rs os)) (hb : Below W.heap.size W W') : Hid (TCU W' n2 m2 g0 c0 g1 rs os) := ⟨h.out.1.below hb (Nat.le_refl _), h.out.2⟩
def PU (u : World) (g n cc : Nat) (cs : List Co) : Prop := ∃ lo hi kv, COwn u lo hi (.slice (some ⟨g, 0, none⟩) n cc) n (fun j => cs.getD j C0) kv ∧ lo ≤ hi ∧ hi ≤ u.heap.size
theorem hidPU {u u' : World} {g n cc : Nat} {cs : List Co} (h : Hid (PU u g n cc cs)) (hb : Below u.heap.size u u') : Hid (PU u' g n cc cs) := by
  obtain ⟨lo, hi, kv, h1, h2, h3⟩ := h.out
  exact ⟨lo, hi, kv, h1.below hb, h2, Nat.le_trans h3 hb.size⟩
theorem mkU1 {w : World} {f : Nat} {v : Value} {K K1 : Nat} {Q : World → Prop} (hK : K = K1) (h : Calls Tryz.prog f #[v, .int .i64 ((1 : Nat) : Int)] w fun e w' => e = .returned (.int .i64 (K : Nat)) ∧ Q w') : Calls Tryz.prog f #[v, .int .i64 1] w fun e w' => e = .returned (.int .i64 (K1 : Nat)) ∧ Q w' := by subst hK; exact h

end Go.Proofs.YtbpcabdbnolceaaGreatDoor
