/- What the specification's TxText answers; what the program's owes. -/
import Derived.Test.YtgfhnmjpkanikaaTtT
import Derived.Test.YtgfhnmjpkanikaaRtT
import Derived.Stop.RegionWithIn
import Derived.Maps.AppendAt
import Derived.RangeFuncWrites
import Derived.Lib.AppendIntMem
import Derived.Lib.Join
import Derived.Test.YtgfhnmjpkanikaaJn1
import Derived.Test.YtgfhnmjpkanikaaJn2
namespace Go.Proofs.Ytgfhnmjpkanikaa
open Go.RowKit Go.Shelf Go.Maps Go.WideMaps

theorem getD_mem {α : Type} {l : List α} {j : Nat} {d : α} (h : j < l.length) : l.getD j d ∈ l := by
  rw [List.getD, List.getElem?_eq_getElem h]
  exact List.getElem_mem _
end Go.Proofs.Ytgfhnmjpkanikaa
