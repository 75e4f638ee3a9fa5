/- A node that comes in as a law's argument, read as data, gives its numbers; so do numbers. -/
import Derived.Test.YtggfkflbohgikaaOpN
import Derived.Test.YtggfkflbohgikaaOpR
import Derived.Test.YtggfkflbohgikaaNh
namespace Go.Proofs.Ytggfkflbohgikaa
open Go.ChangeShapes Go.WideShapes Go.ChangeAt Go.RowKit Go.Joins Go.Deep

section
variable {H : Type} {enc : TypeId × Value → H} {W : World} {base : Nat} {spare : Nat → Bool} {held : Bool}
set_option maxRecDepth 100000 in
theorem open_lockS {b0 : Nat} {r : Reach} {v : Value} {d : DataW H} {p : List MemPlace} (hv : Value.okWide Try.prog W r b0 24 v) (h : DataW.Trod enc Try.prog W base spare held 24 v d p) :
    ∃ a n cap l, v = .slice a n cap ∧ n ≤ maxLen ∧ IAt W a n l ∧ FineI l := by
  obtain ⟨a, len, cap, rfl⟩ := okWide_slice Try.underlying24 hv
  obtain ⟨fuel, hf⟩ := h
  obtain ⟨a', n, cap', l, e, h1, h2, h3⟩ := open_keys (c := .slice a len cap) hf
  refine ⟨a', n, cap', l, e, h1, h2, fun j => ?_⟩
  by_cases hj : j < l.length
  · have : l.getD j 0 = l[j] := by simp [List.getD, hj]
    rw [this]
    exact h3 _ (List.getElem_mem hj)
  · have : l.getD j 0 = 0 := by rw [List.getD, List.getElem?_eq_none (by omega)]; rfl
    rw [this]
    decide
end
end Go.Proofs.Ytggfkflbohgikaa
