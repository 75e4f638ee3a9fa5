/- Numbers that come in as a law's argument, read as data. -/
import Derived.Test.YtobcjpoejlcloaaOpR
namespace Go.Proofs.Ytobcjpoejlcloaa
open Go.ChangeShapes Go.WideShapes Go.ChangeAt Go.RowKit Go.Joins Go.Deep

set_option maxRecDepth 100000 in
theorem open_numS {H : Type} {enc : TypeId × Value → H} {W : World} {base b0 : Nat} {spare : Nat → Bool} {held : Bool} {r : Reach} {v : Value} {d : DataW H} {p : List MemPlace} (hv : Value.okWide Try.prog W r b0 22 v) (h : DataW.Trod enc Try.prog W base spare held 22 v d p) :
    ∃ a n cap l, v = .slice a n cap ∧ n ≤ maxLen ∧ IAt W a n l := by
  obtain ⟨a, len, cap, rfl⟩ := okWide_slice Try.underlying22 hv
  obtain ⟨fuel, hf⟩ := h
  obtain ⟨a', n, cap', l, e, h1, h2, _⟩ := open_keys (c := .slice a len cap) hf
  exact ⟨a', n, cap', l, e, h1, h2⟩

end Go.Proofs.Ytobcjpoejlcloaa
