/- Results that hold a rule: alike, marked, held. -/
import Derived.Test.YtciefdphjkjikaaGreatDoorAk
namespace Go.Proofs.YtciefdphjkjikaaGreatDoor
open Go.RowKit Go.Shelf Go.Maps Go.WideMaps

theorem prR_len (t : List UInt8) : (prR t).2.1.length ≤ 3 := by
  unfold prR
  by_cases e : (parU t).2 = true
  · rw [if_pos e]; exact (ruleR_zero rfl (parU_sound e).1).1.2
  · rw [if_neg e]; simp

end Go.Proofs.YtciefdphjkjikaaGreatDoor
