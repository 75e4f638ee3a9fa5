/- The law on ledgers answers true, whatever is drawn, and writes nothing that was there. -/
import Derived.Test.YtajkihmefpbofaaGreatDoorKb
import Derived.Test.YtajkihmefpbofaaGreatDoorRv
import Derived.Laws.OwnMore
import Derived.Test.YtajkihmefpbofaaGreatDoorX2
import Derived.Test.YtajkihmefpbofaaGreatDoorNtO
import Derived.Lib.QuietBelow
namespace Go.Proofs.YtajkihmefpbofaaGreatDoor
open Go.RowKit Go.Maps Go.WideMaps Go.Sort

theorem lwBigK_any (cn cc : Nat) (ca : Option Addr) (w : World) : Calls Tryz.prog 4 #[.slice ca cn cc] w fun e w' => e = .returned (.bool (decide ((1048576 : Int) < (cn : Int)))) ∧ w' = w := by
  go_enter Tryz.func4, Tryz.ntmps4
  go_wp2
  go_ret
  exact ⟨rfl, rfl⟩
theorem led_row {V : World} {b1 b2 n tc m gc : Nat} {ta ga : Option Addr} {ss : List ByteArray} {gs : List (Int × Int)} (hs : V.ownsRow b1 9 1 (.slice ta n tc) n (ss.map Value.string)) (hg : V.ownsRow b2 83 2 (.slice ga m gc) m (gcells gs)) : LedAt V ta n ga m ss gs := ⟨satO hs, gatO hg⟩

end Go.Proofs.YtajkihmefpbofaaGreatDoor
