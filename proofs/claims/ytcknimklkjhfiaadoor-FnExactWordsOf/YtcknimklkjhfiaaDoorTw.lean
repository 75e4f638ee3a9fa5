/- The program's two-way tables: a slice of what is noted and a map from it to its number, behind a pointer; what their methods do. What the program's own reading of a ledger comes to: the tables of its texts, or the first fault. The program's table of signatures, as the one of texts. A new signature is put into the table: the slice one longer, the map one more. What the program's own reading of the signatures comes to. What the program's own reading of a whole ledger comes to: the two tables, or its fault. -/
import Derived.Test.YtcknimklkjhfiaaDoorBase
import Derived.Deep.QuietTactic
import Derived.BigQuiet
import Derived.Lib.SmallJoins
import Derived.Deep.RegionHeld3
import Derived.Deep.AppendLies
import Derived.DeepKeys4
import Derived.Deep.DrawnRows
import Derived.Deep.RegionLaw
namespace Go.Proofs.YtcknimklkjhfiaaDoor
open Go.RowKit Go.Maps Go.WideMaps


end Go.Proofs.YtcknimklkjhfiaaDoor

namespace Go.Proofs.YtcknimklkjhfiaaDoor
open Go.RowKit Go.Maps Go.WideMaps

end Go.Proofs.YtcknimklkjhfiaaDoor

namespace Go.Proofs.YtcknimklkjhfiaaDoor
open Go.RowKit Go.Maps Go.WideMaps

theorem grown_of_below {w w' : World} (h : Below w.heap.size w w') : w.grownBy w' none := ⟨h.os, h.tape, h.output, h.size, fun k hk _ => h.block k hk⟩

end Go.Proofs.YtcknimklkjhfiaaDoor

namespace Go.Proofs.YtcknimklkjhfiaaDoor
open Go.RowKit Go.Maps Go.WideMaps
attribute [local go_sem ↓] Go.wp_at_zero Go.wp_at_succ

end Go.Proofs.YtcknimklkjhfiaaDoor

namespace Go.Proofs.YtcknimklkjhfiaaDoor
open Go.RowKit Go.Maps Go.WideMaps

end Go.Proofs.YtcknimklkjhfiaaDoor

namespace Go.Proofs.YtcknimklkjhfiaaDoor
open Go.RowKit Go.Maps Go.WideMaps

end Go.Proofs.YtcknimklkjhfiaaDoor
