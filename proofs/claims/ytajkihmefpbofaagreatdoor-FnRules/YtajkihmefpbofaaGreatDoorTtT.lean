/- The specification's text of a transaction, the whole. -/
import Derived.Test.YtajkihmefpbofaaGreatDoorTtS
import Derived.Test.YtajkihmefpbofaaGreatDoorRu
import Derived.Test.YtajkihmefpbofaaGreatDoorX2
namespace Go.Proofs.YtajkihmefpbofaaGreatDoor
open Go.RowKit Go.Shelf Go.Maps Go.WideMaps

theorem tail_len {l : List Int} (hk : ∀ k ∈ l, k ≤ 999) : (tailT l).length ≤ 11 * l.length := by
  induction l with
  | nil => simp [tailT]
  | cons a t ih =>
    have h1 := dec_len (hk a (by simp))
    have h2 := ih fun k hk' => hk k (by simp [hk'])
    simp [tailT]; omega
end Go.Proofs.YtajkihmefpbofaaGreatDoor
