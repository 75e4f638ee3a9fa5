/- A transaction is taken back in the program's purse. -/
import Derived.Test.YtdfijlcjmllplaaJn5
import Derived.Maps.RangeWalk
import Derived.Test.YtdfijlcjmllplaaISm
import Derived.Lib.QuietBelow
import Derived.Test.YtdfijlcjmllplaaJn3
import Derived.Test.YtdfijlcjmllplaaDk
namespace Go.Proofs.Ytdfijlcjmllplaa
open Go.RowKit Go.Maps Go.WideMaps

def IsMap (w : World) (B : Nat) : Prop := ∃ es cl, w.heap[B]? = some (.map es cl)
theorem Pu.isMap {w : World} {lo B : Nat} {ps : List (Co × Value)} (h : Pu w lo B ps) : IsMap w B := by
  obtain ⟨D, ⟨es, cl, hb, _⟩, _⟩ := h.map
  exact ⟨es, cl, hb⟩
end Go.Proofs.Ytdfijlcjmllplaa
