/- An iterator that turns a box of its own: the pieces of a text, told one by one. -/
import Derived.RangeFuncNested
import Derived.RangeFuncWrites
import Derived.Test.YtgfhnmjpkanikaaJn1
import Derived.Lib.ItoaMem
import Derived.Lib.ItoaNum
import Derived.Laws.BytesArg
import Derived.Deep.RegionWith
import Derived.Test.YtgfhnmjpkanikaaTtX
import Derived.Test.YtgfhnmjpkanikaaCv
import Derived.Test.YtgfhnmjpkanikaaRtT
import Derived.Stop.RegionWithIn
import Derived.Maps.AppendAt
import Derived.Lib.AppendIntMem
import Derived.Lib.Join
import Derived.Test.YtgfhnmjpkanikaaFc
import Derived.Lib.IndexMore
import Derived.Lib.ParseIntBTie
namespace Go.Proofs.Ytgfhnmjpkanikaa
open Go.RowKit Go.Shelf Go.Maps Go.WideMaps
attribute [local go_sem] Oper.semAt_some

theorem grownBy_setCell (W : World) (a : Addr) (v : Value) : W.grownBy (W.setCell a v) (some a.block) :=
  ⟨rfl, rfl, rfl, by simp, fun k _ hk => Below.heap_setCell _ a v k (fun e => hk (by rw [e]))⟩
end Go.Proofs.Ytgfhnmjpkanikaa
