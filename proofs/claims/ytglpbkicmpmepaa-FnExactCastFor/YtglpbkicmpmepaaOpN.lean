/- Nodes that come in as a law's argument, read as data, give their numbers. -/
import Derived.Test.YtglpbkicmpmepaaOpT
import Derived.Test.YtglpbkicmpmepaaNa
namespace Go.Proofs.Ytglpbkicmpmepaa
open Go.ChangeShapes Go.WideShapes Go.ChangeAt Go.RowKit Go.Joins Go.Deep
open Go.ChangeMaps (open_string shut_string)

theorem Try.cellsLNode : Try.prog.cellsOf 55 = 3 := by kernel_rfl

section
variable {H : Type} {enc : TypeId × Value → H} {W : World} {base : Nat} {spare : Nat → Bool} {held : Bool}

theorem open_node {fuel : Nat} {v0 v1 v2 : Value} {x : DataW H × List MemPlace} (h : DataW.trod enc Try.prog W base spare held fuel 55 [v0, v1, v2] = some x) :
    ∃ o : Mb, (v0 = .int .i64 o.1 ∧ v1 = .int .i64 o.2.1 ∧ v2 = .int .i64 o.2.2) ∧ (Lit.int .i64 o.1).wf = true ∧ (Lit.int .i64 o.2.1).wf = true ∧ (Lit.int .i64 o.2.2).wf = true := by
  obtain ⟨xs, k, hk, hxy, _, hxl, hf⟩ := DataW.trod_struct Try.underlying55 h
  match xs, hxl with
  | [y0, y1, y2], _ =>
    have g0 := hf 0 _ rfl
    have g1 := hf 1 _ rfl
    have g2 := hf 2 _ rfl
    simp [Try.cellsI64] at g0 g1 g2
    obtain ⟨h0, e0, _, w0⟩ := DataW.trod_int Try.underlying2 g0
    obtain ⟨h1, e1, _, w1⟩ := DataW.trod_int Try.underlying2 g1
    obtain ⟨h2, e2, _, w2⟩ := DataW.trod_int Try.underlying2 g2
    simp at e0 e1 e2
    exact ⟨(h0, h1, h2), ⟨e0, e1, e2⟩, w0, w1, w2⟩

theorem fineN_Z3 : (Lit.int .i64 Z3.1).wf = true ∧ (Lit.int .i64 Z3.2.1).wf = true ∧ (Lit.int .i64 Z3.2.2).wf = true := ⟨wf_zero, wf_zero, wf_zero⟩

theorem open_nodes {fuel : Nat} {c : Value} {x : DataW H × List MemPlace} (h : DataW.trod enc Try.prog W base spare held fuel 22 [c] = some x) :
    ∃ a n cap ms, c = .slice a n cap ∧ n ≤ maxLen ∧ MAt W a n ms ∧ FineN ms := by
  rcases open_slice Try.underlying22 h with ⟨hcs, _⟩ | ⟨a, len, cap, m, n, D, Pl, hcs, _, hl, hm, hmm, _, hx⟩
  · exact ⟨none, 0, 0, [], by simpa using hcs, by unfold maxLen; omega, ⟨rfl, .inl rfl⟩, fun j => by simpa using fineN_Z3⟩
  · have hlm : len ≤ m := by rw [hmm]; split <;> omega
    have each : ∀ i, i < len → ∃ o : Mb, (W.cell? (a.add (i * 3)) = some (.int .i64 o.1) ∧ W.cell? (a.add (i * 3 + 1)) = some (.int .i64 o.2.1) ∧ W.cell? (a.add (i * 3 + 2)) = some (.int .i64 o.2.2)) ∧ (Lit.int .i64 o.1).wf = true ∧ (Lit.int .i64 o.2.1).wf = true ∧ (Lit.int .i64 o.2.2).wf = true := by
      intro i hi
      obtain ⟨cs', h1, h2⟩ := hx i (by omega)
      rw [Try.cellsLNode] at h1
      obtain ⟨_, hlen, hcell⟩ := World.cells?_some h1
      match cs', hlen with
      | [v0, v1, v2], _ =>
        obtain ⟨o, ⟨rfl, rfl, rfl⟩, f⟩ := open_node h2
        have e0 := hcell 0 (by omega)
        have e1 := hcell 1 (by omega)
        have e2 := hcell 2 (by omega)
        rw [add_add] at e0 e1 e2
        exact ⟨o, ⟨by simpa using e0, by simpa using e1, by simpa using e2⟩, f⟩
    haveI : Inhabited Mb := ⟨Z3⟩
    obtain ⟨q, hq⟩ := choose_lt each
    have hget : ∀ j, j < len → (((List.range len).map q).getD j Z3) = q j := by
      intro j hj
      simp [List.getD, hj]
    refine ⟨some a, len, cap, (List.range len).map q, by simpa using hcs, by omega, ⟨by simp, ?_⟩, fun j => ?_⟩
    · by_cases h0 : len = 0
      · exact .inl h0
      · obtain ⟨b, off, spot⟩ := a
        obtain ⟨⟨h1, _⟩, _⟩ := hq 0 (by omega)
        have hspot : spot = none := by simpa [Addr.add] using World.cell?_spot h1
        subst hspot
        refine .inr ⟨b, off, rfl, World.block_lt_of_cell? _ _ h1, fun j hj => ?_⟩
        obtain ⟨⟨x0, x1, x2⟩, _⟩ := hq j hj
        rw [add_none] at x0 x1 x2
        rw [hget j hj]
        exact ⟨x0, by rw [Nat.add_assoc]; exact x1, by rw [Nat.add_assoc]; exact x2⟩
    · by_cases hj : j < len
      · rw [hget j hj]
        exact (hq j hj).2
      · have : (((List.range len).map q).getD j Z3) = Z3 := by rw [List.getD, List.getElem?_eq_none (by simp; omega)]; rfl
        rw [this]
        exact fineN_Z3

set_option maxRecDepth 100000 in
theorem open_nodeS {b0 : Nat} {r : Reach} {v : Value} {d : DataW H} {p : List MemPlace} (hv : Value.okWide Try.prog W r b0 22 v) (h : DataW.Trod enc Try.prog W base spare held 22 v d p) :
    ∃ a n cap ms, v = .slice a n cap ∧ n ≤ maxLen ∧ MAt W a n ms ∧ FineN ms := by
  obtain ⟨a, len, cap, rfl⟩ := okWide_slice Try.underlying22 hv
  obtain ⟨fuel, hf⟩ := h
  exact open_nodes (c := .slice a len cap) hf

end
end Go.Proofs.Ytglpbkicmpmepaa
