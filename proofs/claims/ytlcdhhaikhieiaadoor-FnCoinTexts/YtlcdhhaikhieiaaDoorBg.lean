/- The program's readTx: what is read is told again and held against the text. -/
import Derived.Test.YtlcdhhaikhieiaaDoorBf
import Derived.Test.YtlcdhhaikhieiaaDoorX3
import Derived.Test.YtlcdhhaikhieiaaDoorX2
import Derived.Lib.SplitLaws
import Derived.Test.YtlcdhhaikhieiaaDoorAg
import Derived.Test.YtlcdhhaikhieiaaDoorAe
import Derived.Test.YtlcdhhaikhieiaaDoorSh
import Derived.RangeFuncBox
import Derived.Maps.OwnIn
import Derived.Maps.AppendAt
import Derived.Test.YtlcdhhaikhieiaaDoorGd
namespace Go.Proofs.YtlcdhhaikhieiaaDoor
open Go.RowKit Go.Shelf Go.Maps Go.WideMaps

theorem OOwn.at2 {w : World} {lo hi m oc : Nat} {oa : Option Addr} {os : List Ou} {kv : Nat → Value} (h : OOwn w lo hi (.slice oa m oc) m (fun j => os.getD j O0) kv) (hn : os.length = m) (hl : ∀ o ∈ os, o.l.length ≤ 3) : OAt w oa m os := by
  obtain ⟨xs, h1, _⟩ := h.row
  rcases h1.2 with ⟨q, q0⟩ | ⟨g, cap, cur, q, _⟩
  · exact ⟨hn, .inl q0⟩
  · cases q
    exact h.at hn fun j hj => Nat.le_trans (hl _ (getD_mem (by omega))) (by omega)
end Go.Proofs.YtlcdhhaikhieiaaDoor
