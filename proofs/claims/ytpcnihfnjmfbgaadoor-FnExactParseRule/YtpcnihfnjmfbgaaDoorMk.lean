/- The marks that the laws write into lists, and the looks that they are there. The marks of signatures and numbers, and of whole ledgers. The marks of whole ledgers and of results that hold one; results compared. -/
import Derived.Test.YtpcnihfnjmfbgaaDoorIdOf
namespace Go.Proofs.YtpcnihfnjmfbgaaDoor
open Go.RowKit Go.Maps Go.WideMaps

/-- Only blocks from 'lo' to 'hi' may have turned. -/
structure Chg (w w' : World) (lo hi : Nat) : Prop where
  os : w'.os = w.os
  tape : w'.tape = w.tape
  output : w'.output = w.output
  size : w.heap.size ≤ w'.heap.size
  block : ∀ b, b < w.heap.size → (b < lo ∨ hi ≤ b) → w'.heap[b]? = w.heap[b]?

theorem Chg.of_below {w w' : World} (h : Below w.heap.size w w') (lo hi : Nat) : Chg w w' lo hi := ⟨h.os, h.tape, h.output, h.size, fun b hb _ => h.block b hb⟩
theorem Chg.of_grown {w w' : World} {row : Option Nat} {lo hi : Nat} (h : w.grownBy w' row) (hr : ∀ k, row = some k → lo ≤ k ∧ k < hi) : Chg w w' lo hi :=
  ⟨h.os, h.tape, h.output, h.size, fun b hb ho => h.block b hb (fun e => by have := hr b e.symm; omega)⟩
theorem Chg.trans {w w' w2 : World} {lo hi : Nat} (h : Chg w w' lo hi) (k : Chg w' w2 lo hi) : Chg w w2 lo hi :=
  ⟨k.os.trans h.os, k.tape.trans h.tape, k.output.trans h.output, Nat.le_trans h.size k.size, fun b hb ho => (k.block b (Nat.lt_of_lt_of_le hb h.size) ho).trans (h.block b hb ho)⟩
theorem Chg.below {w w' : World} {lo hi B : Nat} (h : Chg w w' lo hi) (hB : B ≤ lo) (hs : B ≤ w.heap.size) : Below B w w' := ⟨h.os, h.tape, h.output, h.size, fun k hk => h.block k (by omega) (by omega)⟩
theorem Chg.keep {w w' : World} {lo hi b : Nat} {o : Obj} (h : Chg w w' lo hi) (hb : w.heap[b]? = some o) (ho : b < lo ∨ hi ≤ b) : w'.heap[b]? = some o := (h.block b (lt_of_block hb) ho).trans hb
theorem Chg.row {w w' : World} {lo hi : Nat} (h : Chg w w' lo hi) {base : Nat} {e : TypeId} {size : Nat} {v : Value} {n : Nat} {xs : List Value} (ho : w.ownsRow base e size v n xs) (hv : ∀ k, v.ownBlock = some k → k < lo ∨ hi ≤ k) : w'.ownsRow base e size v n xs := by
  refine ⟨ho.1, ?_⟩
  rcases ho.2 with hn | ⟨g, cap, cur, rfl, hb, hgg, rest⟩
  · exact .inl hn
  · exact .inr ⟨g, cap, cur, rfl, hb, h.keep hgg (hv g rfl), rest⟩

end Go.Proofs.YtpcnihfnjmfbgaaDoor

namespace Go.Proofs.YtpcnihfnjmfbgaaDoor
open Go.RowKit Go.Maps Go.WideMaps

end Go.Proofs.YtpcnihfnjmfbgaaDoor

namespace Go.Proofs.YtpcnihfnjmfbgaaDoor
open Go.RowKit Go.Maps Go.WideMaps


end Go.Proofs.YtpcnihfnjmfbgaaDoor
