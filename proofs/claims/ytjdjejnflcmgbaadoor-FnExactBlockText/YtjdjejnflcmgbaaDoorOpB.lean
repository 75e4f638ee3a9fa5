/- A block that comes in as a law's argument, read as data, gives its numbers. -/
import Derived.Test.YtjdjejnflcmgbaaDoorOpR
namespace Go.Proofs.YtjdjejnflcmgbaaDoor
open Go.ChangeShapes Go.WideShapes Go.ChangeAt Go.RowKit Go.Joins Go.Deep

theorem Tryd.cellsLBlk : Tryd.prog.cellsOf 24 = 4 := by kernel_rfl

set_option maxRecDepth 100000 in
/-- All that a law is told of a block that came in. -/
theorem open_blk {H : Type} {enc : TypeId × Value → H} {W : World} {base b0 : Nat} {spare : Nat → Bool} {held : Bool} {r : Reach} {v : Value} {d : DataW H} {p : List MemPlace} (hv : Value.okWide Tryd.prog W r b0 24 v) (h : DataW.Trod enc Tryd.prog W base spare held 24 v d p) :
    ∃ x y z a n cap l, v = .agg #[.int .i64 x, .int .i64 y, .int .i64 z, .slice a n cap] ∧ n ≤ maxLen ∧ IAt W a n l ∧ (∀ k ∈ l, (Lit.int .i64 k).wf = true) := by
  obtain ⟨c0, c1, c2, c3, y0, y1, y2, y3, k, rfl, _, _, hy0, hy1, hy2, hy3⟩ := open_agg4 Tryd.underlying24 (by kernel_rfl) Tryd.cellsLBlk hv h
  obtain ⟨a, n, cap, l, rfl, hn, hI, hw⟩ := open_keys hy3
  obtain ⟨x, e1, _, w1⟩ := DataW.trod_int Tryd.underlying2 hy0
  obtain ⟨y, e2, _, w2⟩ := DataW.trod_int Tryd.underlying2 hy1
  obtain ⟨z, e3, _, w3⟩ := DataW.trod_int Tryd.underlying2 hy2
  simp at e1 e2 e3
  subst e1 e2 e3
  exact ⟨x, y, z, a, n, cap, l, rfl, hn, hI, hw⟩

end Go.Proofs.YtjdjejnflcmgbaaDoor
