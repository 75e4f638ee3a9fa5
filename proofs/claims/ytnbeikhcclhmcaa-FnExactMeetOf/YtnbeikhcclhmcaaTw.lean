/- The program's two-way tables: a slice of what is noted and a map from it to its number, behind a pointer; what their methods do. What the program's own reading of a ledger comes to: the tables of its texts, or the first fault. The program's table of signatures, as the one of texts. A new signature is put into the table: the slice one longer, the map one more. What the program's own reading of the signatures comes to. What the program's own reading of a whole ledger comes to: the two tables, or its fault. -/
import Derived.Test.YtnbeikhcclhmcaaBase
import Derived.Deep.QuietTactic
import Derived.BigQuiet
import Derived.Lib.SmallJoins
import Derived.Deep.RegionHeld3
import Derived.Deep.AppendLies
import Derived.DeepKeys4
import Derived.Deep.DrawnRows
import Derived.Deep.RegionLaw
namespace Go.Proofs.Ytnbeikhcclhmcaa
open Go.RowKit Go.Maps Go.WideMaps

theorem Try.laidOut : laidOutB Try.prog = true := by kernel_rfl

end Go.Proofs.Ytnbeikhcclhmcaa

namespace Go.Proofs.Ytnbeikhcclhmcaa
open Go.RowKit Go.Maps Go.WideMaps

end Go.Proofs.Ytnbeikhcclhmcaa

namespace Go.Proofs.Ytnbeikhcclhmcaa
open Go.RowKit Go.Maps Go.WideMaps

theorem Try.cellsI64 : Try.prog.cellsOf 2 = 1 := by kernel_rfl
end Go.Proofs.Ytnbeikhcclhmcaa

namespace Go.Proofs.Ytnbeikhcclhmcaa
open Go.RowKit Go.Maps Go.WideMaps
attribute [local go_sem ↓] Go.wp_at_zero Go.wp_at_succ

end Go.Proofs.Ytnbeikhcclhmcaa

namespace Go.Proofs.Ytnbeikhcclhmcaa
open Go.RowKit Go.Maps Go.WideMaps

end Go.Proofs.Ytnbeikhcclhmcaa

namespace Go.Proofs.Ytnbeikhcclhmcaa
open Go.RowKit Go.Maps Go.WideMaps

end Go.Proofs.Ytnbeikhcclhmcaa
