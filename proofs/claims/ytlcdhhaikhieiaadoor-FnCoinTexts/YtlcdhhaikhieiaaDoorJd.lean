/- The law on blocks: a block is read back from its text. -/
import Derived.Test.YtlcdhhaikhieiaaDoorJc
import Derived.Test.YtlcdhhaikhieiaaDoorGi
import Derived.Test.YtlcdhhaikhieiaaDoorX3
import Derived.Test.YtlcdhhaikhieiaaDoorX2
import Derived.Lib.SplitLaws
import Derived.Test.YtlcdhhaikhieiaaDoorX1
import Derived.Lib.QuietBelow
namespace Go.Proofs.YtlcdhhaikhieiaaDoor
open Go.RowKit Go.Shelf Go.Maps Go.WideMaps Go.Sort

theorem lwBig_any (cn cc : Nat) (ca : Option Addr) (w : World) : Calls Tryd.prog 4 #[.slice ca cn cc] w fun e w' => e = .returned (.bool (decide ((1048576 : Int) < (cn : Int)))) ∧ w' = w := by
  go_enter Tryd.func4, Tryd.ntmps4
  go_wp2
  go_ret
  exact ⟨rfl, rfl⟩
end Go.Proofs.YtlcdhhaikhieiaaDoor
