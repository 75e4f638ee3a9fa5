/- A quorum that comes in as a law's argument, read as data, gives its keys and its number; numbers that come in. -/
import Derived.Test.YtmnahhojfcigmaaOpR
import Derived.Test.YtmnahhojfcigmaaXc
namespace Go.Proofs.Ytmnahhojfcigmaa
open Go.ChangeShapes Go.WideShapes Go.ChangeAt Go.RowKit Go.Joins Go.Deep
open Go.ChangeMaps (open_string shut_string)

theorem Try.cellsLQuo : Try.prog.cellsOf 24 = 2 := by kernel_rfl

set_option maxRecDepth 100000 in
/-- All that a law is told of a quorum that came in. -/
theorem open_quo {H : Type} {enc : TypeId × Value → H} {W : World} {base b0 : Nat} {spare : Nat → Bool} {held : Bool} {r : Reach} {v : Value} {d : DataW H} {p : List MemPlace} (hv : Value.okWide Try.prog W r b0 24 v) (h : DataW.Trod enc Try.prog W base spare held 24 v d p) :
    ∃ a n cap l x, v = .agg #[.slice a n cap, .int .i64 x] ∧ n ≤ maxLen ∧ IAt W a n l ∧ (∀ k ∈ l, (Lit.int .i64 k).wf = true) ∧ (Lit.int .i64 x).wf = true := by
  obtain ⟨c0, c1, y0, y1, k, rfl, _, _, hy0, hy1⟩ := open_agg2 Try.underlying24 (by kernel_rfl) Try.cellsLQuo hv h
  obtain ⟨a, n, cap, l, rfl, hn, hI, hw⟩ := open_keys hy0
  obtain ⟨x, e1, _, w1⟩ := DataW.trod_int Try.underlying2 hy1
  simp at e1
  subst e1
  exact ⟨a, n, cap, l, x, rfl, hn, hI, hw, w1⟩

set_option maxRecDepth 100000 in
theorem open_ints1 {H : Type} {enc : TypeId × Value → H} {W : World} {base b0 : Nat} {spare : Nat → Bool} {held : Bool} {r : Reach} {v : Value} {d : DataW H} {p : List MemPlace} (hv : Value.okWide Try.prog W r b0 22 v) (h : DataW.Trod enc Try.prog W base spare held 22 v d p) :
    ∃ a n cap l, v = .slice a n cap ∧ n ≤ maxLen ∧ IAt W a n l ∧ (∀ k ∈ l, (Lit.int .i64 k).wf = true) := by
  obtain ⟨a, len, cap, rfl⟩ := okWide_slice Try.underlying22 hv
  obtain ⟨fuel, hf⟩ := h
  exact open_keys (c := .slice a len cap) hf

end Go.Proofs.Ytmnahhojfcigmaa
