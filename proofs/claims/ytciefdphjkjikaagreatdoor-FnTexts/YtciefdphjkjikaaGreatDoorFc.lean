/- The fault of a block: what it comes to, the specification's, the program's. -/
import Derived.Test.YtciefdphjkjikaaGreatDoorJn2
import Derived.Test.YtciefdphjkjikaaGreatDoorJn3
import Derived.Test.YtciefdphjkjikaaGreatDoorJn4
import Derived.Test.YtciefdphjkjikaaGreatDoorJn1
namespace Go.Proofs.YtciefdphjkjikaaGreatDoor
open Go.RowKit Go.Maps Go.WideMaps

theorem IAt.take {w : World} {a : Option Addr} {n k : Nat} {l : List Int} (h : IAt w a n l) (hk : k ≤ n) : IAt w a k (l.take k) := by
  obtain ⟨hn, h⟩ := h
  refine ⟨by simp; omega, ?_⟩
  rcases h with h | ⟨b, off, rfl, hb, hc⟩
  · exact .inl (by omega)
  · refine .inr ⟨b, off, rfl, hb, fun j hj => ?_⟩
    rw [hc j (by omega)]
    simp [List.getD, hj]
end Go.Proofs.YtciefdphjkjikaaGreatDoor
