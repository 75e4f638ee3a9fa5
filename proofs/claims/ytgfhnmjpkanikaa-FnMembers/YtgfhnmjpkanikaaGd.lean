/- The specification's ParseBlock keeps its contract. -/
import Derived.Test.YtgfhnmjpkanikaaJn1
import Derived.Lib.ItoaMem
import Derived.Lib.ItoaNum
import Derived.Laws.BytesArg
import Derived.Deep.RegionWith
import Derived.Test.YtgfhnmjpkanikaaTtX
import Derived.Test.YtgfhnmjpkanikaaCv
import Derived.Test.YtgfhnmjpkanikaaRtT
import Derived.Stop.RegionWithIn
import Derived.Maps.AppendAt
import Derived.RangeFuncWrites
import Derived.Lib.AppendIntMem
import Derived.Lib.Join
import Derived.Test.YtgfhnmjpkanikaaFc
import Derived.Test.YtgfhnmjpkanikaaJn2
namespace Go.Proofs.Ytgfhnmjpkanikaa
open Go.RowKit Go.Shelf Go.Maps Go.WideMaps

theorem Chg.cell {w w' : World} {lo hi b i : Nat} (h : Chg w w' lo hi) (hb : b < w.heap.size) (hd : b < lo ∨ hi ≤ b) : w'.cell? ⟨b, i, none⟩ = w.cell? ⟨b, i, none⟩ := World.cell?_of_block (h.block b hb hd)
end Go.Proofs.Ytgfhnmjpkanikaa
