/- The program's readWords: a transaction is read word by word, or the reading panics. -/
import Derived.Test.YtgfhnmjpkanikaaBe
import Derived.Test.YtgfhnmjpkanikaaDr
import Derived.Test.YtgfhnmjpkanikaaEv
namespace Go.Proofs.Ytgfhnmjpkanikaa
open Go.RowKit Go.Shelf Go.Maps Go.WideMaps

theorem OOwn.up {w : World} {lo hi hi' n : Nat} {v : Value} {f : Nat → Ou} {kv : Nat → Value} (h : OOwn w lo hi v n f kv) (hle : hi ≤ hi') : OOwn w lo hi' v n f kv :=
  ⟨h.row, fun b hb => Nat.lt_of_lt_of_le (h.top b hb) hle, fun j hj => ⟨(h.keys j hj).1, fun b hb => Nat.lt_of_lt_of_le ((h.keys j hj).2 b hb) hle⟩, h.apart⟩
theorem OOwn.ext {w : World} {lo hi n : Nat} {v : Value} {f f' : Nat → Ou} {kv : Nat → Value} (h : OOwn w lo hi v n f kv) (he : ∀ j, j < n → f j = f' j) : OOwn w lo hi v n f' kv := by
  obtain ⟨xs, h1, h2⟩ := h.row
  exact ⟨⟨xs, h1, fun j hj => by rw [← he j hj]; exact h2 j hj⟩, h.top, fun j hj => by rw [← he j hj]; exact h.keys j hj, h.apart⟩
theorem OOwn.none {w : World} {lo hi : Nat} {f : Nat → Ou} {kv : Nat → Value} : OOwn w lo hi (.slice Option.none 0 0) 0 f kv :=
  ⟨⟨[], World.ownsRow_nil _ _ _ _, fun j hj => by omega⟩, fun b hb => by simp [Value.ownBlock] at hb, fun j hj => by omega, fun i j _ hj => by omega⟩
theorem Chg.setNew {w W : World} {lo hi T i : Nat} (h : Chg w W lo hi) (hT : w.heap.size ≤ T) (u : Value) : Chg w (W.setCell ⟨T, i, none⟩ u) lo hi :=
  ⟨h.os, h.tape, h.output, by simpa using h.size, fun b hb ho => (Below.heap_setCell _ ⟨T, i, none⟩ u b (show b ≠ T by omega)).trans (h.block b hb ho)⟩

end Go.Proofs.Ytgfhnmjpkanikaa

