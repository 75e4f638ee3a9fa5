/- The fault of a tree: the specification's whole. -/
import Derived.Test.YtpcgkgjmcnncdaaEe
import Derived.Test.YtpcgkgjmcnncdaaRu
import Derived.Test.YtpcgkgjmcnncdaaMk
import Derived.Test.YtpcgkgjmcnncdaaIdOf
import Derived.Deep.RegionLaw
import Derived.Test.YtpcgkgjmcnncdaaTxS
import Derived.Test.YtpcgkgjmcnncdaaITx
import Derived.Test.YtpcgkgjmcnncdaaEa
import Derived.Lib.QuietBelow
namespace Go.Proofs.Ytpcgkgjmcnncdaa
open Go.RowKit Go.Maps Go.WideMaps Go.Sort

theorem MAt.take {w : World} {a : Option Addr} {n : Nat} {ms : List Mb} (h : MAt w a n ms) {j : Nat} (hj : j ≤ n) : MAt w a j (ms.take j) := by
  refine ⟨by rw [List.length_take, h.1]; omega, ?_⟩
  rcases h.2 with h0 | ⟨b, off, e, hl, hc⟩
  · exact .inl (by omega)
  · refine .inr ⟨b, off, e, hl, fun t ht => ?_⟩
    have e1 : (ms.take j).getD t Z3 = ms.getD t Z3 := by
      rw [List.getD, List.getD, List.getElem?_take_of_lt ht]
    rw [e1]
    exact hc t (by omega)
theorem next_nd {ms : List Mb} {n j : Nat} {o : Mb} (hn : ms.length = n) (hlt : j < n) (ho : o = ms.getD j Z3) : ms.drop j = o :: ms.drop (j + 1) ∧ ms.take (j + 1) = ms.take j ++ [o] := by
  have hj : j < ms.length := by omega
  have e : ms.getD j Z3 = ms[j]'hj := by simp [List.getD, List.getElem?_eq_getElem hj]
  refine ⟨?_, ?_⟩
  · rw [ho, e]; exact List.drop_eq_getElem_cons hj
  · rw [List.take_add_one, ho, e, List.getElem?_eq_getElem hj]; rfl
end Go.Proofs.Ytpcgkgjmcnncdaa
