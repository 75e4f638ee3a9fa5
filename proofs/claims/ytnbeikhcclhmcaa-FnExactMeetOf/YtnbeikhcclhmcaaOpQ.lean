/- A quorum that comes in as a law's argument, read as data, gives its keys and its number; numbers that come in. -/
import Derived.Test.YtnbeikhcclhmcaaOpR
import Derived.Test.YtnbeikhcclhmcaaIdOf
import Derived.Test.YtnbeikhcclhmcaaBase
import Derived.Deep.QuietTactic
import Derived.BigQuiet
import Derived.Lib.SmallJoins
import Derived.Deep.RegionHeld3
import Derived.Test.YtnbeikhcclhmcaaRu
namespace Go.Proofs.Ytnbeikhcclhmcaa
open Go.ChangeShapes Go.WideShapes Go.ChangeAt Go.RowKit Go.Joins Go.Deep
open Go.ChangeMaps (open_string shut_string)

set_option maxRecDepth 100000 in
theorem open_ints1 {H : Type} {enc : TypeId × Value → H} {W : World} {base b0 : Nat} {spare : Nat → Bool} {held : Bool} {r : Reach} {v : Value} {d : DataW H} {p : List MemPlace} (hv : Value.okWide Try.prog W r b0 22 v) (h : DataW.Trod enc Try.prog W base spare held 22 v d p) :
    ∃ a n cap l, v = .slice a n cap ∧ n ≤ maxLen ∧ IAt W a n l ∧ (∀ k ∈ l, (Lit.int .i64 k).wf = true) := by
  obtain ⟨a, len, cap, rfl⟩ := okWide_slice Try.underlying22 hv
  obtain ⟨fuel, hf⟩ := h
  exact open_keys (c := .slice a len cap) hf

end Go.Proofs.Ytnbeikhcclhmcaa
