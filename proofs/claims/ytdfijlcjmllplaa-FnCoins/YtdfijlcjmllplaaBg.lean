/- The program's readTx: what is read is told again and held against the text. -/
import Derived.Test.YtdfijlcjmllplaaBf
import Derived.Test.YtdfijlcjmllplaaTtX
import Derived.Test.YtdfijlcjmllplaaJn3
import Derived.Test.YtdfijlcjmllplaaTtU
import Derived.Lib.SplitLaws
import Derived.RangeFuncNested
import Derived.RangeFuncWrites
import Derived.Test.YtdfijlcjmllplaaJn1
import Derived.Lib.ItoaMem
import Derived.Lib.ItoaNum
import Derived.Laws.BytesArg
import Derived.Deep.RegionWith
import Derived.Test.YtdfijlcjmllplaaRtT
import Derived.Stop.RegionWithIn
import Derived.Maps.AppendAt
import Derived.Lib.AppendIntMem
import Derived.Lib.Join
import Derived.Test.YtdfijlcjmllplaaFc
import Derived.Lib.IndexMore
import Derived.Lib.ParseIntBTie
import Derived.Test.YtdfijlcjmllplaaTtS
import Derived.RangeFuncBox
import Derived.Maps.OwnIn
import Derived.Test.YtdfijlcjmllplaaGd
namespace Go.Proofs.Ytdfijlcjmllplaa
open Go.RowKit Go.Shelf Go.Maps Go.WideMaps

theorem OOwn.at2 {w : World} {lo hi m oc : Nat} {oa : Option Addr} {os : List Ou} {kv : Nat → Value} (h : OOwn w lo hi (.slice oa m oc) m (fun j => os.getD j O0) kv) (hn : os.length = m) (hl : ∀ o ∈ os, o.l.length ≤ 3) : OAt w oa m os := by
  obtain ⟨xs, h1, _⟩ := h.row
  rcases h1.2 with ⟨q, q0⟩ | ⟨g, cap, cur, q, _⟩
  · exact ⟨hn, .inl q0⟩
  · cases q
    exact h.at hn fun j hj => Nat.le_trans (hl _ (getD_mem (by omega))) (by omega)
end Go.Proofs.Ytdfijlcjmllplaa
