/- Coins of the call's own: their row and their keys' rows; marks are written into them, and read back. -/
import Derived.Test.YtajkihmefpbofaaGreatDoorRu
import Derived.Test.YtajkihmefpbofaaGreatDoorX2
import Derived.Test.YtajkihmefpbofaaGreatDoorX1
import Derived.OneCell
namespace Go.Proofs.YtajkihmefpbofaaGreatDoor
open Go.RowKit Go.Maps Go.WideMaps

theorem Chg.refl (w : World) (lo hi : Nat) : Chg w w lo hi := ⟨rfl, rfl, rfl, Nat.le_refl _, fun _ _ _ => rfl⟩
theorem Chg.setCell {w W : World} {lo hi g t : Nat} (h : Chg w W lo hi) (hg : lo ≤ g ∧ g < hi) (u : Value) : Chg w (W.setCell ⟨g, t, none⟩ u) lo hi :=
  ⟨h.os, h.tape, h.output, by simpa using h.size, fun b hb ho => (Below.heap_setCell _ ⟨g, t, none⟩ u b (show b ≠ g by omega)).trans (h.block b hb ho)⟩

end Go.Proofs.YtajkihmefpbofaaGreatDoor
