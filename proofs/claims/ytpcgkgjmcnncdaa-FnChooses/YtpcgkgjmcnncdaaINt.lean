/- A new text in the table, and what of other memory stays. What the program's NoteText answers. -/
import Derived.Test.YtpcgkgjmcnncdaaMk
import Derived.Test.YtpcgkgjmcnncdaaIdOf
import Derived.Deep.RegionLaw
namespace Go.Proofs.Ytpcgkgjmcnncdaa
open Go.RowKit Go.Maps Go.WideMaps

theorem Chg.of_set {w : World} {lo hi b : Nat} (h1 : lo ≤ b) (h2 : b < hi) (i : Nat) (v : Value) : Chg w (w.setCell ⟨b, i, none⟩ v) lo hi :=
  ⟨rfl, rfl, rfl, by simp, fun k _ ho => Below.heap_setCell w ⟨b, i, none⟩ v k (show k ≠ b by omega)⟩

end Go.Proofs.Ytpcgkgjmcnncdaa

namespace Go.Proofs.Ytpcgkgjmcnncdaa
open Go.RowKit Go.Maps Go.WideMaps

end Go.Proofs.Ytpcgkgjmcnncdaa
