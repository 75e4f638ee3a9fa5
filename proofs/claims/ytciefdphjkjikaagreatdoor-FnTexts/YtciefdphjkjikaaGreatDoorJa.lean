/- Blocks that are drawn: whatever the bytes, some block, its numbers in memory of its own. -/
import Derived.Test.YtciefdphjkjikaaGreatDoorJn1
import Derived.Test.YtciefdphjkjikaaGreatDoorJn4
import Derived.Test.YtciefdphjkjikaaGreatDoorFc
import Derived.Test.YtciefdphjkjikaaGreatDoorGd
import Derived.Test.YtciefdphjkjikaaGreatDoorJn3
import Derived.Test.YtciefdphjkjikaaGreatDoorJn2
namespace Go.Proofs.YtciefdphjkjikaaGreatDoor
open Go.RowKit Go.Shelf Go.Maps Go.WideMaps

section
variable {w v V V' : World} {SB : Nat} {ca : Option Addr} {cn cc t t' LB : Nat} {p h m : Int} {va : Option Addr} {vc : Nat} {l : List Int}
theorem Chg.more {lo hi B : Nat} (h : Chg v V lo hi) (hb : Below B V V') (hB : v.heap.size ≤ B) : Chg v V' lo hi := ⟨hb.os.trans h.os, hb.tape.trans h.tape, hb.output.trans h.output, Nat.le_trans h.size hb.size, fun b hbs ho => (hb.block b (by omega)).trans (h.block b hbs ho)⟩
end

end Go.Proofs.YtciefdphjkjikaaGreatDoor
