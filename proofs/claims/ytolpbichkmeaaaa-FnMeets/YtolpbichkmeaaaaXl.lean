/- Who is chosen, as data: those with fewer than so many ahead of them by rank, each put in its place; and that these are the first so many by rank, sorted. -/
import Derived.Test.YtolpbichkmeaaaaRu
import Derived.Test.YtolpbichkmeaaaaCv
import Derived.Test.YtolpbichkmeaaaaSi
import Derived.Shelf.SlSortCmp.NoneTotal
import Derived.Laws.CopyRow
import Derived.Laws.CopyOwn
import Derived.Laws.IdiomCopy
import Derived.Test.YtolpbichkmeaaaaXa
import Derived.Test.YtolpbichkmeaaaaCp
import Derived.Test.YtolpbichkmeaaaaOp
import Derived.Deep.Slices
import Derived.Test.YtolpbichkmeaaaaXb
import Derived.Test.YtolpbichkmeaaaaXh
namespace Go.Proofs.Ytolpbichkmeaaaa
open Go.RowKit Go.Maps Go.WideMaps Go.Shelf

theorem rise_lt : ∀ {p : Int} {l : List Int}, riseB p l = true ↔ (∀ x ∈ l, p < x) ∧ l.Pairwise (· < ·)
  | p, [] => by simp [riseB]
  | p, x :: t => by
    simp only [riseB, Bool.and_eq_true, decide_eq_true_eq, rise_lt (p := x) (l := t), List.pairwise_cons, List.mem_cons]
    constructor
    · rintro ⟨h1, h2, h3⟩
      refine ⟨?_, h2, h3⟩
      rintro y (e | e)
      · subst e; exact h1
      · have := h2 y e; omega
    · rintro ⟨h1, h2, h3⟩
      exact ⟨h1 x (.inl rfl), h2, h3⟩
end Go.Proofs.Ytolpbichkmeaaaa
