/- A rule that comes in as a law's argument, read as data, gives its keys and its two numbers. -/
import Derived.Test.YtfoidaljamjpgaaOp
import Derived.Test.YtfoidaljamjpgaaRu
namespace Go.Proofs.Ytfoidaljamjpgaa
open Go.ChangeShapes Go.WideShapes Go.ChangeAt Go.RowKit Go.Joins Go.Deep
open Go.ChangeMaps (open_string shut_string)

theorem Try.cellsLRule : Try.prog.cellsOf 28 = 3 := by kernel_rfl

theorem open_keys {H : Type} {enc : TypeId × Value → H} {W : World} {base : Nat} {spare : Nat → Bool} {held : Bool} {fuel : Nat} {c : Value} {x : DataW H × List MemPlace} (h : DataW.trod enc Try.prog W base spare held fuel 26 [c] = some x) :
    ∃ a n cap l, c = .slice a n cap ∧ n ≤ maxLen ∧ IAt W a n l ∧ ∀ k ∈ l, (Lit.int .i64 k).wf = true := by
  rcases open_ints Try.underlying26 Try.underlying2 Try.cellsI64 h with ⟨hcs, _⟩ | ⟨a, len, cap, zs, hcs, _, hl, hm, hlen, _, hcell, hwf⟩
  · exact ⟨none, 0, 0, [], by simpa using hcs, by unfold maxLen; omega, ⟨rfl, .inl rfl⟩, fun k hk => by cases hk⟩
  · have hls : len ≤ zs.length := by rw [hlen]; split <;> omega
    refine ⟨some a, len, cap, zs.take len, by simpa using hcs, by omega, ⟨by simp; omega, ?_⟩, fun k hk => hwf k (List.mem_of_mem_take hk)⟩
    by_cases h0 : len = 0
    · exact .inl h0
    · obtain ⟨b, off, spot⟩ := a
      have h1 := hcell 0 (by omega)
      have hspot : spot = none := by simpa [Addr.add] using World.cell?_spot h1
      subst hspot
      refine .inr ⟨b, off, rfl, World.block_lt_of_cell? _ _ h1, fun j hj => ?_⟩
      have h2 := hcell j (by omega)
      rw [add_none] at h2
      rw [h2]
      simp [List.getD, hj]

set_option maxRecDepth 100000 in
/-- All that a law is told of a rule that came in. -/
theorem open_rule {H : Type} {enc : TypeId × Value → H} {W : World} {base b0 : Nat} {spare : Nat → Bool} {held : Bool} {r : Reach} {v : Value} {d : DataW H} {p : List MemPlace} (hv : Value.okWide Try.prog W r b0 28 v) (h : DataW.Trod enc Try.prog W base spare held 28 v d p) :
    ∃ a n cap l x y, v = .agg #[.slice a n cap, .int .i64 x, .int .i64 y] ∧ n ≤ maxLen ∧ IAt W a n l ∧ (∀ k ∈ l, (Lit.int .i64 k).wf = true) ∧ (Lit.int .i64 x).wf = true ∧ (Lit.int .i64 y).wf = true := by
  obtain ⟨c0, c1, c2, y0, y1, y2, k, rfl, _, _, hy0, hy1, hy2⟩ := open_agg3 Try.underlying28 (by kernel_rfl) Try.cellsLRule hv h
  obtain ⟨a, n, cap, l, rfl, hn, hI, hw⟩ := open_keys hy0
  obtain ⟨x, e1, _, w1⟩ := DataW.trod_int Try.underlying2 hy1
  obtain ⟨y, e2, _, w2⟩ := DataW.trod_int Try.underlying2 hy2
  simp at e1 e2
  subst e1 e2
  exact ⟨a, n, cap, l, x, y, rfl, hn, hI, hw, w1, w2⟩

end Go.Proofs.Ytfoidaljamjpgaa
