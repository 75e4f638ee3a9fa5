/- What noting a text comes to: pure. -/
import Derived.Test.YtapicejadjeejaaINt
import Derived.Test.YtapicejadjeejaaTextOf
import Derived.Test.YtapicejadjeejaaIdOf
namespace Go.Proofs.Ytapicejadjeejaa
open Go.RowKit

theorem flt_parts {ss : List ByteArray} {gs : List (Int × Int)} (h : flt ss gs = 0) : ss.length ≤ 60 ∧ gs.length ≤ 120 ∧ tgo [] ss = 0 ∧ sgo ss.length [] gs = 0 := by
  unfold flt at h
  split at h
  · cases h
  · rename_i h1
    split at h
    · rename_i h2; exact absurd h h2
    · rename_i h2
      exact ⟨by omega, by omega, by simpa using h2, h⟩
theorem flt_make {ss : List ByteArray} {gs : List (Int × Int)} (h1 : ss.length ≤ 60) (h2 : gs.length ≤ 120) (h3 : tgo [] ss = 0) (h4 : sgo ss.length [] gs = 0) : flt ss gs = 0 := by
  unfold flt
  rw [if_neg (by omega), if_neg (by simp [h3]), h4]

end Go.Proofs.Ytapicejadjeejaa
