/- What IdOf and TextOf and HasSign answer: the specification's and the program's. The law on IdOf answers true, whatever ledger and text come in, and writes nothing that was there. -/
import Derived.Test.YtlacmcedpphphaaGreatDoorFa
namespace Go.Proofs.YtlacmcedpphphaaGreatDoor
open Go.RowKit Go.Maps Go.WideMaps

/-- What is known behind a call of two blocks that lie boxed ahead of it. -/
theorem box2_facts {w w2 : World} {a0 a1 b0 b1 : Value} {t t' : TypeId} (hb : Below ((w.alloc (.cells #[a0, a1] t)).alloc (.cells #[b0, b1] t')).heap.size ((w.alloc (.cells #[a0, a1] t)).alloc (.cells #[b0, b1] t')) w2) :
    w2.cell? ⟨w.heap.size, 0, none⟩ = some a0 ∧ w2.cell? ⟨w.heap.size, 1, none⟩ = some a1 ∧ w2.cell? ⟨w.heap.size + 1, 0, none⟩ = some b0 ∧ w2.cell? ⟨w.heap.size + 1, 1, none⟩ = some b1 ∧ w2.frozen? ⟨w.heap.size + 1, 0, none⟩ = false ∧ w2.frozen? ⟨w.heap.size + 1, 1, none⟩ = false ∧
    Hid (w2.heap[w.heap.size + 1]? = some (.cells #[b0, b1] t' (0, 0)) ∧ Below w.heap.size w w2 ∧ w2.heap[w.heap.size]? = some (.cells #[a0, a1] t (0, 0))) := by
  have h1 : ((w.alloc (.cells #[a0, a1] t)).alloc (.cells #[b0, b1] t')).heap[w.heap.size + 1]? = some (.cells #[b0, b1] t' (0, 0)) := by
    rw [show w.heap.size + 1 = (w.alloc (.cells #[a0, a1] t)).heap.size by simp]; exact heap_alloc_new _ _
  obtain ⟨x0, x1, _, _, HX⟩ := res_cells (block_at2 (w := w) (o := .cells #[a0, a1] t) (o' := .cells #[b0, b1] t')) hb (by simp; omega)
  obtain ⟨y0, y1, y2, y3, HY⟩ := res_cells h1 hb (by simp)
  exact ⟨x0, x1, y0, y1, y2, y3, HY.out, (below_box2 _ _).trans (hb.mono (by simp; omega)), HX.out⟩

/-- Below, behind the result's two stores. -/
theorem below_res {w w2 : World} (h : Below w.heap.size w w2) (v0 v1 : Value) : Below w.heap.size w ((w2.setCell ⟨w.heap.size + 1, 0, none⟩ v0).setCell ⟨w.heap.size + 1, 1, none⟩ v1) :=
  (h.setCell (p := ⟨w.heap.size + 1, 0, none⟩) (show w.heap.size ≤ w.heap.size + 1 by omega) _).setCell (p := ⟨w.heap.size + 1, 1, none⟩) (show w.heap.size ≤ w.heap.size + 1 by omega) _

/-- The specification's fault where the ledger lies boxed, a result behind it. -/
theorem l1Fault_box (n m tc gc : Nat) (ta ga : Option Addr) (ss : List ByteArray) (gs : List (Int × Int)) (w : World) (b0 b1 : Value) (t' : TypeId)
    (htc : n ≤ tc) (hgc : m ≤ gc) (htm : tc ≤ maxLen) (hgm : gc ≤ maxLen) (hf : Fine ss gs) (h : LedAt w ta n ga m ss gs) :
    Calls Tryz.prog 28 #[.pointer (some ⟨w.heap.size, 0, none⟩)] ((w.alloc (.cells #[.slice ta n tc, .slice ga m gc] 35)).alloc (.cells #[b0, b1] t')) fun e w' => e = .returned (.int .i64 (flt ss gs)) ∧
      Below ((w.alloc (.cells #[.slice ta n tc, .slice ga m gc] 35)).alloc (.cells #[b0, b1] t')).heap.size ((w.alloc (.cells #[.slice ta n tc, .slice ga m gc] 35)).alloc (.cells #[b0, b1] t')) w' := by
  have hb : Below w.heap.size w ((w.alloc (.cells #[.slice ta n tc, .slice ga m gc] 35)).alloc (.cells #[b0, b1] t')) := below_box2 _ _
  have hx := block_at2 (w := w) (o := .cells #[.slice ta n tc, .slice ga m gc] 35) (o' := .cells #[b0, b1] t')
  exact l1Fault_any w.heap.size n m tc gc ta ga ss gs _ (lt_of_block hx) (by unfold World.cell?; rw [hx]; rfl) (by unfold World.cell?; rw [hx]; rfl) htc hgc htm hgm hf.s (h.s.below hb (Nat.le_refl _)) (h.g.below hb (Nat.le_refl _))

end Go.Proofs.YtlacmcedpphphaaGreatDoor

namespace Go.Proofs.YtlacmcedpphphaaGreatDoor
open Go.RowKit Go.Maps Go.WideMaps

theorem keepb {v v' : World} {b : Nat} {o : Obj} (h : v.heap[b]? = some o) (hb : Below v.heap.size v v') : Hid (v'.heap[b]? = some o) := (hb.block b (lt_of_block h)).trans h
theorem cells2 {v : World} {b : Nat} {a0 a1 : Value} {t : TypeId} (h : v.heap[b]? = some (.cells #[a0, a1] t (0, 0))) : v.cell? ⟨b, 0, none⟩ = some a0 ∧ v.cell? ⟨b, 1, none⟩ = some a1 := ⟨by unfold World.cell?; rw [h]; rfl, by unfold World.cell?; rw [h]; rfl⟩

end Go.Proofs.YtlacmcedpphphaaGreatDoor
