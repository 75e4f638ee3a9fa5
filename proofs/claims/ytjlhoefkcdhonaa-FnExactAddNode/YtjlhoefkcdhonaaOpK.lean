/- A node that comes in as a law's argument, read as data, gives its numbers; so do numbers. -/
import Derived.Test.YtjlhoefkcdhonaaOpN
import Derived.Test.YtjlhoefkcdhonaaOp
import Derived.Test.YtjlhoefkcdhonaaRu
import Derived.Test.YtjlhoefkcdhonaaNe
import Derived.Test.YtjlhoefkcdhonaaLd
import Derived.LaidEqlPtr
import Derived.WalkMore
import Derived.Test.YtjlhoefkcdhonaaSignsOf
namespace Go.Proofs.Ytjlhoefkcdhonaa
open Go.ChangeShapes Go.WideShapes Go.ChangeAt Go.RowKit Go.Joins Go.Deep

section
variable {H : Type} {enc : TypeId × Value → H} {W : World} {base : Nat} {spare : Nat → Bool} {held : Bool}
set_option maxRecDepth 100000 in
theorem open_node1 {b0 : Nat} {r : Reach} {v : Value} {d : DataW H} {p : List MemPlace} (hv : Value.okWide Try.prog W r b0 30 v) (h : DataW.Trod enc Try.prog W base spare held 30 v d p) :
    ∃ o : Mb, v = .agg #[.int .i64 o.1, .int .i64 o.2.1, .int .i64 o.2.2] ∧ (Lit.int .i64 o.1).wf = true ∧ (Lit.int .i64 o.2.1).wf = true ∧ (Lit.int .i64 o.2.2).wf = true := by
  obtain ⟨cs, rfl, hsz⟩ := okWide_struct Try.underlying30 hv
  rw [Try.cellsLNode] at hsz
  obtain ⟨fuel, hf⟩ := h
  obtain ⟨cs⟩ := cs
  match cs, hsz with
  | [v0, v1, v2], _ =>
    obtain ⟨o, ⟨rfl, rfl, rfl⟩, f⟩ := open_node (v0 := v0) (v1 := v1) (v2 := v2) hf
    exact ⟨o, rfl, f⟩
end
end Go.Proofs.Ytjlhoefkcdhonaa
