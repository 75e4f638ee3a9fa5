/- The specification's copy of a ledger; the program's tables handed out as a ledger. The specification's copy of a ledger: two rows of new memory. What a result with a ledger is, and what the specification's NoteText answers. -/
import Derived.Test.YtmnahhojfcigmaaMk
import Derived.Test.YtmnahhojfcigmaaIdOf
import Derived.Deep.RegionLaw
namespace Go.Proofs.Ytmnahhojfcigmaa
open Go.RowKit Go.Maps Go.WideMaps
attribute [local go_sem ↓] Go.wp_at_zero Go.wp_at_succ

/-- An empty row that has just been laid is owned. -/
theorem own_empty {W : World} {base X : Nat} {t : TypeId} {size : Nat} (h : W.heap[X]? = some (.cells #[] t (0, 0))) (hb : base ≤ X) : W.ownsRow base t size (.slice (some ⟨X, 0, none⟩) 0 0) 0 [] :=
  ⟨by simp, .inr ⟨X, 0, #[], rfl, hb, h, Nat.le_refl _, by unfold maxLen; omega, by simp, by simp⟩⟩

end Go.Proofs.Ytmnahhojfcigmaa

namespace Go.Proofs.Ytmnahhojfcigmaa
open Go.RowKit Go.Maps Go.WideMaps
attribute [local go_sem ↓] Go.wp_at_zero Go.wp_at_succ

end Go.Proofs.Ytmnahhojfcigmaa

namespace Go.Proofs.Ytmnahhojfcigmaa
open Go.RowKit Go.Maps Go.WideMaps


end Go.Proofs.Ytmnahhojfcigmaa
