/- What IdOf and TextOf and HasSign answer: the specification's and the program's. The law on IdOf answers true, whatever ledger and text come in, and writes nothing that was there. -/
import Derived.Test.YtapicejadjeejaaFa
namespace Go.Proofs.Ytapicejadjeejaa
open Go.RowKit Go.Maps Go.WideMaps

/-- What is known behind a call of two blocks that lie boxed ahead of it. -/
theorem box2_facts {w w2 : World} {a0 a1 b0 b1 : Value} {t t' : TypeId} (hb : Below ((w.alloc (.cells #[a0, a1] t)).alloc (.cells #[b0, b1] t')).heap.size ((w.alloc (.cells #[a0, a1] t)).alloc (.cells #[b0, b1] t')) w2) :
    w2.cell? ⟨w.heap.size, 0, none⟩ = some a0 ∧ w2.cell? ⟨w.heap.size, 1, none⟩ = some a1 ∧ w2.cell? ⟨w.heap.size + 1, 0, none⟩ = some b0 ∧ w2.cell? ⟨w.heap.size + 1, 1, none⟩ = some b1 ∧ w2.frozen? ⟨w.heap.size + 1, 0, none⟩ = false ∧ w2.frozen? ⟨w.heap.size + 1, 1, none⟩ = false ∧
    Hid (w2.heap[w.heap.size + 1]? = some (.cells #[b0, b1] t' (0, 0)) ∧ Below w.heap.size w w2 ∧ w2.heap[w.heap.size]? = some (.cells #[a0, a1] t (0, 0))) := by
  have h1 : ((w.alloc (.cells #[a0, a1] t)).alloc (.cells #[b0, b1] t')).heap[w.heap.size + 1]? = some (.cells #[b0, b1] t' (0, 0)) := by
    rw [show w.heap.size + 1 = (w.alloc (.cells #[a0, a1] t)).heap.size by simp]; exact heap_alloc_new _ _
  obtain ⟨x0, x1, _, _, HX⟩ := res_cells (block_at2 (w := w) (o := .cells #[a0, a1] t) (o' := .cells #[b0, b1] t')) hb (by simp; omega)
  obtain ⟨y0, y1, y2, y3, HY⟩ := res_cells h1 hb (by simp)
  exact ⟨x0, x1, y0, y1, y2, y3, HY.out, (below_box2 _ _).trans (hb.mono (by simp; omega)), HX.out⟩

/-- Below, behind the result's two stores. -/
theorem below_res {w w2 : World} (h : Below w.heap.size w w2) (v0 v1 : Value) : Below w.heap.size w ((w2.setCell ⟨w.heap.size + 1, 0, none⟩ v0).setCell ⟨w.heap.size + 1, 1, none⟩ v1) :=
  (h.setCell (p := ⟨w.heap.size + 1, 0, none⟩) (show w.heap.size ≤ w.heap.size + 1 by omega) _).setCell (p := ⟨w.heap.size + 1, 1, none⟩) (show w.heap.size ≤ w.heap.size + 1 by omega) _

theorem numG_tw {w : World} {base p : Nat} {l : List (Int × Int)} {a b : Int} (ha : (Lit.int .i64 a).wf = true) (hb : (Lit.int .i64 b).wf = true) (h : TwG w base p l) :
    Calls Try.prog 19 #[.pointer (some ⟨p, 0, none⟩), .agg #[.int .i64 a, .int .i64 b]] w fun e w' => e = .returned (.int .i64 (num l (a, b) : Nat)) ∧ Below w.heap.size w w' := by
  obtain ⟨iv, B, hp, hbp, hbB, ho, ht⟩ := h
  exact numG_any p B l a b w ha hb (lt_of_block hp) (by unfold World.cell?; rw [hp]; rfl) ht

/-- The program's reading of a ledger that lies boxed, a result behind it: where it has no fault. -/
theorem read_ok {w : World} {n m tc gc : Nat} {ta ga : Option Addr} {ss : List ByteArray} {gs : List (Int × Int)} {b0 b1 : Value} {t' : TypeId} (hf : Fine ss gs) (h : LedAt w ta n ga m ss gs) (h0 : 0 = flt ss gs) :
    Calls Try.prog 16 #[.agg #[.slice ta n tc, .slice ga m gc]] ((w.alloc (.cells #[.slice ta n tc, .slice ga m gc] 27)).alloc (.cells #[b0, b1] t')) fun e w' => ∃ p q top, e = .returned (.tuple #[.agg #[.pointer (some ⟨p, 0, none⟩), .pointer (some ⟨q, 0, none⟩)], .int .i64 0]) ∧
      Below ((w.alloc (.cells #[.slice ta n tc, .slice ga m gc] 27)).alloc (.cells #[b0, b1] t')).heap.size ((w.alloc (.cells #[.slice ta n tc, .slice ga m gc] 27)).alloc (.cells #[b0, b1] t')) w' ∧
      Hid (TwS w' (w.heap.size + 2) p ss ∧ TopS w' p top ∧ TwG w' top q gs ∧ w.heap.size + 2 ≤ top) := by
  have hb : Below w.heap.size w ((w.alloc (.cells #[.slice ta n tc, .slice ga m gc] 27)).alloc (.cells #[b0, b1] t')) := below_box2 _ _
  refine (readLedger_any n m tc gc ta ga ss gs _ hf.s hf.g (h.s.below hb (Nat.le_refl _)) (h.g.below hb (Nat.le_refl _))).mono fun e w' hr => ?_
  rcases hr with ⟨hbl, ⟨_, p, q, top, he, h1, h2, h3, h4⟩ | ⟨hn, _⟩⟩
  · have hs : ((w.alloc (.cells #[.slice ta n tc, .slice ga m gc] 27)).alloc (.cells #[b0, b1] t')).heap.size = w.heap.size + 2 := by simp
    rw [hs] at h1 h4
    exact ⟨p, q, top, he, hbl, h1, h2, h3, h4⟩
  · exact absurd h0.symm hn

/-- .. and where it has one. -/
theorem read_bad {w : World} {n m tc gc : Nat} {ta ga : Option Addr} {ss : List ByteArray} {gs : List (Int × Int)} {b0 b1 : Value} {t' : TypeId} {c : Int} (hf : Fine ss gs) (h : LedAt w ta n ga m ss gs) (hc : c = flt ss gs) (h0 : ¬ c = 0) :
    Calls Try.prog 16 #[.agg #[.slice ta n tc, .slice ga m gc]] ((w.alloc (.cells #[.slice ta n tc, .slice ga m gc] 27)).alloc (.cells #[b0, b1] t')) fun e w' => e = .returned (.tuple #[.agg #[.pointer none, .pointer none], .int .i64 c]) ∧
      Below ((w.alloc (.cells #[.slice ta n tc, .slice ga m gc] 27)).alloc (.cells #[b0, b1] t')).heap.size ((w.alloc (.cells #[.slice ta n tc, .slice ga m gc] 27)).alloc (.cells #[b0, b1] t')) w' := by
  have hb : Below w.heap.size w ((w.alloc (.cells #[.slice ta n tc, .slice ga m gc] 27)).alloc (.cells #[b0, b1] t')) := below_box2 _ _
  refine (readLedger_any n m tc gc ta ga ss gs _ hf.s hf.g (h.s.below hb (Nat.le_refl _)) (h.g.below hb (Nat.le_refl _))).mono fun e w' hr => ?_
  rcases hr with ⟨hbl, ⟨hn, _⟩ | ⟨_, he⟩⟩
  · exact absurd (hc.trans hn) h0
  · exact ⟨by rw [hc]; exact he, hbl⟩

/-- The blocks of before behind one block more. -/
theorem box2_more {w w2 : World} {b0 b1 : Value} {t' : TypeId} {o : Obj} (h : w2.heap[w.heap.size + 1]? = some (.cells #[b0, b1] t' (0, 0)) ∧ Below w.heap.size w w2) :
    (w2.alloc o).cell? ⟨w.heap.size + 1, 0, none⟩ = some b0 ∧ (w2.alloc o).cell? ⟨w.heap.size + 1, 1, none⟩ = some b1 ∧ (w2.alloc o).frozen? ⟨w.heap.size + 1, 0, none⟩ = false ∧ (w2.alloc o).frozen? ⟨w.heap.size + 1, 1, none⟩ = false ∧
      Hid ((w2.alloc o).heap[w.heap.size + 1]? = some (.cells #[b0, b1] t' (0, 0)) ∧ Below w.heap.size w (w2.alloc o)) := by
  obtain ⟨x0, x1, x2, x3, HX⟩ := res_cells h.1 (below_box o) (lt_of_block h.1)
  exact ⟨x0, x1, x2, x3, HX.out, h.2.alloc h.2.size _⟩

end Go.Proofs.Ytapicejadjeejaa

namespace Go.Proofs.Ytapicejadjeejaa
open Go.RowKit Go.Maps Go.WideMaps

theorem keepb {v v' : World} {b : Nat} {o : Obj} (h : v.heap[b]? = some o) (hb : Below v.heap.size v v') : Hid (v'.heap[b]? = some o) := (hb.block b (lt_of_block h)).trans h
theorem cells2 {v : World} {b : Nat} {a0 a1 : Value} {t : TypeId} (h : v.heap[b]? = some (.cells #[a0, a1] t (0, 0))) : v.cell? ⟨b, 0, none⟩ = some a0 ∧ v.cell? ⟨b, 1, none⟩ = some a1 := ⟨by unfold World.cell?; rw [h]; rfl, by unfold World.cell?; rw [h]; rfl⟩

end Go.Proofs.Ytapicejadjeejaa
