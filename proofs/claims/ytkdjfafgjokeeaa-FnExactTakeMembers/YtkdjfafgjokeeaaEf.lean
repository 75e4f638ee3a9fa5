/- The program's and the specification's KeysOf. -/
import Derived.Test.YtkdjfafgjokeeaaEe
namespace Go.Proofs.Ytkdjfafgjokeeaa
open Go.RowKit Go.Maps Go.WideMaps

theorem mems_few {ms : List Mb} {n : Nat} (hn : ms.length = n) (h : memsR ms = 0) : n ≤ 8 := by
  rcases Nat.lt_or_ge 8 n with h' | h'
  · unfold memsR at h
    rw [if_pos (by rw [hn]; exact h')] at h
    cases h
  · exact h'

end Go.Proofs.Ytkdjfafgjokeeaa
