/- The specification's SpendTx keeps its contract. -/
import Derived.Test.YtagokfoimokniaaGreatDoorQm
import Derived.Test.YtagokfoimokniaaGreatDoorQq
import Derived.Test.YtagokfoimokniaaGreatDoorQr
import Derived.Test.YtagokfoimokniaaGreatDoorJn9
import Derived.Test.YtagokfoimokniaaGreatDoorJn8
namespace Go.Proofs.YtagokfoimokniaaGreatDoor
open Go.RowKit Go.Maps Go.WideMaps

theorem spentR_facts {cs : List Co} {k f : Int} {rs : List (Int × Int)} {os : List Ou} (h : (spentR cs k f rs os).1 = 0) : coinsR cs = 0 ∧ txR k f rs os = 0 ∧ rs.all (hasC cs) = true := by
  unfold spentR at h
  by_cases h1 : coinsR cs ≠ 0
  · rw [if_pos h1] at h; exact absurd h h1
  rw [if_neg h1] at h
  by_cases h2 : txR k f rs os ≠ 0
  · rw [if_pos h2] at h; exact absurd h h2
  rw [if_neg h2] at h
  by_cases h3 : rs.all (hasC cs) = true
  · exact ⟨by simpa using h1, by simpa using h2, h3⟩
  · rw [if_neg h3] at h; cases h

end Go.Proofs.YtagokfoimokniaaGreatDoor
