/- The law on CoinAt answers true, whatever coins and ref come in, and writes nothing that was there. -/
import Derived.Test.YtdfijlcjmllplaaDa
import Derived.Deep.DeepCutAuto
namespace Go.Proofs.Ytdfijlcjmllplaa
open Go.RowKit Go.Maps Go.WideMaps

/-- A result of coins in block R: its code, its coins in memory of their own. -/
def SR (w1 wc : World) (R : Nat) (cd : Int) (res : List Co) : Prop :=
  w1.heap.size ≤ R ∧ Below w1.heap.size w1 wc ∧ ∃ va vc, wc.heap[R]? = some (.cells #[.int .i64 cd, .slice va res.length vc] 29 (0, 0)) ∧ CAt wc va res.length res
theorem keepS {W : World} {b i R : Nat} {v u u' : Value} (h : W.cell? ⟨b, i, none⟩ = some v) (hne : b ≠ R) : ((W.setCell ⟨R, 0, none⟩ u).setCell ⟨R, 1, none⟩ u').cell? ⟨b, i, none⟩ = some v :=
  (World.cell?_of_block ((Below.heap_setCell _ ⟨R, 1, none⟩ u' b hne).trans (Below.heap_setCell _ ⟨R, 0, none⟩ u b hne))).trans h

theorem sr_set {w1 uC : World} {R lo : Nat} {cd : Int} {res : List Co} {va : Option Addr} {vc : Nat} (hl : ∀ j, j < res.length → (res.getD j C0).l.length ≤ 1048576) (HOC : Hid (∃ kv, COwn uC lo uC.heap.size (.slice va res.length vc) res.length (fun j => res.getD j C0) kv)) (HCC : Hid (Below w1.heap.size w1 uC)) (HZ : Hid (uC.heap[R]? = some (.cells #[.int .i64 0, .slice none 0 0] 29 (0, 0)))) (hR1 : w1.heap.size ≤ R) (hR2 : R < lo) :
    Hid (SR w1 ((uC.setCell ⟨R, 0, none⟩ (.int .i64 cd)).setCell ⟨R, 1, none⟩ (.slice va res.length vc)) R cd res) := by
  obtain ⟨kv, hO⟩ := HOC.out
  have nv : (Value.slice va res.length vc).ownBlock ≠ some R := fun e => by
    obtain ⟨xs, h1, _⟩ := hO.row
    have := (h1.lt _ e).1
    omega
  have nk : ∀ j, j < res.length → (kv j).ownBlock ≠ some R := fun j hj e => by have := ((hO.keys j hj).1.lt _ e).1; omega
  obtain ⟨a', c', e1, h2⟩ := ((hO.set2 nv nk 0 (.int .i64 cd)).set2 nv nk 1 (.slice va res.length vc)).at (cs := res) rfl (fun j _ => rfl) hl
  cases e1
  have b1 := Joins.block_setCell (i := 0) HZ.out (.int .i64 cd)
  have b2 := Joins.block_setCell (i := 1) b1 (.slice va res.length vc)
  exact ⟨hR1, (HCC.out.setCell (p := ⟨R, 0, none⟩) hR1 _).setCell (p := ⟨R, 1, none⟩) hR1 _, va, vc, b2, h2⟩
theorem sr_new {w1 uC : World} {lo : Nat} {cd : Int} {res : List Co} {va : Option Addr} {vc : Nat} (hl : ∀ j, j < res.length → (res.getD j C0).l.length ≤ 1048576) (HOC : Hid (∃ kv, COwn uC lo uC.heap.size (.slice va res.length vc) res.length (fun j => res.getD j C0) kv)) (HCC : Hid (Below w1.heap.size w1 uC)) :
    Hid (SR w1 (uC.alloc (.cells #[.int .i64 cd, .slice va res.length vc] 29)) uC.heap.size cd res) := by
  obtain ⟨kv, hO⟩ := HOC.out
  obtain ⟨a', c', e1, h2⟩ := (hO.below (below_box (.cells #[.int .i64 cd, .slice va res.length vc] 29))).at (cs := res) rfl (fun j _ => rfl) hl
  cases e1
  exact ⟨HCC.out.size, HCC.out.trans ((below_box _).mono HCC.out.size), va, vc, heap_alloc_new _ _, h2⟩
theorem own_at {w : World} {lo hi n : Nat} {a : Option Addr} {c : Nat} {cs : List Co} {kv : Nat → Value} (h : COwn w lo hi (.slice a n c) n (fun j => cs.getD j C0) kv) (hn : cs.length = n) (hl : ∀ j, j < n → (cs.getD j C0).l.length ≤ 1048576) : Hid (CAt w a n cs) := by
  obtain ⟨a', c', e, h2⟩ := h.at hn (fun j _ => rfl) hl
  cases e
  exact h2

end Go.Proofs.Ytdfijlcjmllplaa
