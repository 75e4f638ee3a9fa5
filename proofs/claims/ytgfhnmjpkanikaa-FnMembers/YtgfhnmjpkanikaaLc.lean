/- The fault of a tree: the specification's whole. -/
import Derived.Test.YtgfhnmjpkanikaaEh
import Derived.Test.YtgfhnmjpkanikaaJn1
import Derived.Lib.QuietBelow
namespace Go.Proofs.Ytgfhnmjpkanikaa
open Go.RowKit Go.Maps Go.WideMaps Go.Sort

theorem MAt.take {w : World} {a : Option Addr} {n : Nat} {ms : List Mb} (h : MAt w a n ms) {j : Nat} (hj : j ≤ n) : MAt w a j (ms.take j) := by
  refine ⟨by rw [List.length_take, h.1]; omega, ?_⟩
  rcases h.2 with h0 | ⟨b, off, e, hl, hc⟩
  · exact .inl (by omega)
  · refine .inr ⟨b, off, e, hl, fun t ht => ?_⟩
    have e1 : (ms.take j).getD t Z3 = ms.getD t Z3 := by
      rw [List.getD, List.getD, List.getElem?_take_of_lt ht]
    rw [e1]
    exact hc t (by omega)
end Go.Proofs.Ytgfhnmjpkanikaa
