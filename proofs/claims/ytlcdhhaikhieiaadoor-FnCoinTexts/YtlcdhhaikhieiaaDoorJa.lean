/- Blocks that are drawn: whatever the bytes, some block, its numbers in memory of its own. -/
import Derived.Test.YtlcdhhaikhieiaaDoorX1
import Derived.Test.YtlcdhhaikhieiaaDoorX3
import Derived.Test.YtlcdhhaikhieiaaDoorGd
import Derived.Test.YtlcdhhaikhieiaaDoorX2
import Derived.Test.YtlcdhhaikhieiaaDoorOp
import Derived.Deep.Slices
namespace Go.Proofs.YtlcdhhaikhieiaaDoor
open Go.RowKit Go.Shelf Go.Maps Go.WideMaps

section
variable {w v V V' : World} {SB : Nat} {ca : Option Addr} {cn cc t t' LB : Nat} {p h m : Int} {va : Option Addr} {vc : Nat} {l : List Int}
theorem Chg.more {lo hi B : Nat} (h : Chg v V lo hi) (hb : Below B V V') (hB : v.heap.size ≤ B) : Chg v V' lo hi := ⟨hb.os.trans h.os, hb.tape.trans h.tape, hb.output.trans h.output, Nat.le_trans h.size hb.size, fun b hbs ho => (hb.block b (by omega)).trans (h.block b hbs ho)⟩
end

end Go.Proofs.YtlcdhhaikhieiaaDoor
