/- A state that comes in as a law's argument, read as data, gives its numbers, its coins and its members. -/
import Derived.Test.YtbjgngabdcknnaaOpC
import Derived.Test.YtbjgngabdcknnaaOpM
import Derived.Test.YtbjgngabdcknnaaHb
namespace Go.Proofs.Ytbjgngabdcknnaa
open Go.ChangeShapes Go.WideShapes Go.ChangeAt Go.RowKit Go.Joins Go.Deep

theorem Try.cellsLSt : Try.prog.cellsOf 56 = 4 := by kernel_rfl

set_option maxRecDepth 100000 in
/-- All that a law is told of a state that came in. -/
theorem open_st {H : Type} {enc : TypeId × Value → H} {W : World} {base b0 : Nat} {spare : Nat → Bool} {held : Bool} {r : Reach} {v : Value} {d : DataW H} {p : List MemPlace} (hv : Value.okWide Try.prog W r b0 56 v) (h : DataW.Trod enc Try.prog W base spare held 56 v d p) :
    ∃ k f ia n c oa m d cs ms, v = .agg #[.int .i64 k, .int .i64 f, .slice ia n c, .slice oa m d] ∧ n ≤ maxLen ∧ m ≤ maxLen ∧ ((Lit.int .i64 k).wf = true ∧ (Lit.int .i64 f).wf = true) ∧ FineC cs ∧ FineM ms ∧ StAt W ia n oa m cs ms := by
  obtain ⟨c0, c1, c2, c3, y0, y1, y2, y3, k, rfl, _, _, hy0, hy1, hy2, hy3⟩ := open_agg4 Try.underlying56 (by kernel_rfl) Try.cellsLSt hv h
  obtain ⟨q, e1, _, w1⟩ := DataW.trod_int Try.underlying2 hy0
  obtain ⟨f, e2, _, w2⟩ := DataW.trod_int Try.underlying2 hy1
  simp at e1 e2
  subst e1 e2
  obtain ⟨ia, n, c, cs, rfl, hn, hc, hfc⟩ := open_coins hy2
  obtain ⟨oa, m, d, ms, rfl, hm, hm2, hfm⟩ := open_mems hy3
  exact ⟨q, f, ia, n, c, oa, m, d, cs, ms, rfl, hn, hm, ⟨w1, w2⟩, hfc, hfm, ⟨hc, hm2⟩⟩

end Go.Proofs.Ytbjgngabdcknnaa
