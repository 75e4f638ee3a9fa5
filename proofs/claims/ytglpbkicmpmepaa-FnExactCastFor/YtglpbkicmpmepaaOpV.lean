/- Choices, a voter and a ref that come in as a law's argument, read as data, give their numbers. -/
import Derived.Test.YtglpbkicmpmepaaOpT
import Derived.Test.YtglpbkicmpmepaaZa
namespace Go.Proofs.Ytglpbkicmpmepaa
open Go.ChangeShapes Go.WideShapes Go.ChangeAt Go.RowKit Go.Joins Go.Deep
open Go.ChangeMaps (open_string shut_string)

theorem Try.cellsLCho : Try.prog.cellsOf 82 = 3 := by kernel_rfl
def FineC (ms : List Mb) : Prop := ∀ j, (Lit.int .i64 (ms.getD j Z3).1).wf = true ∧ (Lit.int .i64 (ms.getD j Z3).2.1).wf = true ∧ (Lit.int .i64 (ms.getD j Z3).2.2).wf = true

section
variable {H : Type} {enc : TypeId × Value → H} {W : World} {base : Nat} {spare : Nat → Bool} {held : Bool}

theorem open_cho {fuel : Nat} {v0 v1 v2 : Value} {x : DataW H × List MemPlace} (h : DataW.trod enc Try.prog W base spare held fuel 82 [v0, v1, v2] = some x) :
    ∃ o : Mb, (v0 = .int .i64 o.1 ∧ v1 = .int .i64 o.2.1 ∧ v2 = .int .i64 o.2.2) ∧ (Lit.int .i64 o.1).wf = true ∧ (Lit.int .i64 o.2.1).wf = true ∧ (Lit.int .i64 o.2.2).wf = true := by
  obtain ⟨xs, k, hk, hxy, _, hxl, hf⟩ := DataW.trod_struct Try.underlying82 h
  match xs, hxl with
  | [y0, y1], _ =>
    have g0 := hf 0 _ rfl
    have g1 := hf 1 _ rfl
    simp [Try.cellsI64, Try.cellsLRef] at g0 g1
    obtain ⟨hh, e2, _, w2⟩ := DataW.trod_int Try.underlying2 g1
    obtain ⟨ys, k2, hk2, hxy2, _, hyl, hf2⟩ := DataW.trod_struct Try.underlying80 g0
    match ys, hyl with
    | [z0, z1], _ =>
      have f0 := hf2 0 _ rfl
      have f1 := hf2 1 _ rfl
      simp [Try.cellsI64] at f0 f1
      obtain ⟨p, a0, _, u0⟩ := DataW.trod_int Try.underlying2 f0
      obtain ⟨q, a1, _, u1⟩ := DataW.trod_int Try.underlying2 f1
      simp at a0 a1 e2
      exact ⟨(p, q, hh), ⟨a0, a1, e2⟩, u0, u1, w2⟩

theorem fineC_Z3 : (Lit.int .i64 Z3.1).wf = true ∧ (Lit.int .i64 Z3.2.1).wf = true ∧ (Lit.int .i64 Z3.2.2).wf = true := ⟨wf_zero, wf_zero, wf_zero⟩

theorem open_chos {fuel : Nat} {c : Value} {x : DataW H × List MemPlace} (h : DataW.trod enc Try.prog W base spare held fuel 23 [c] = some x) :
    ∃ a n cap ms, c = .slice a n cap ∧ n ≤ maxLen ∧ MAt W a n ms ∧ FineC ms := by
  rcases open_slice Try.underlying23 h with ⟨hcs, _⟩ | ⟨a, len, cap, m, n, D, Pl, hcs, _, hl, hm, hmm, _, hx⟩
  · exact ⟨none, 0, 0, [], by simpa using hcs, by unfold maxLen; omega, ⟨rfl, .inl rfl⟩, fun j => by simpa using fineC_Z3⟩
  · have hlm : len ≤ m := by rw [hmm]; split <;> omega
    have each : ∀ i, i < len → ∃ o : Mb, (W.cell? (a.add (i * 3)) = some (.int .i64 o.1) ∧ W.cell? (a.add (i * 3 + 1)) = some (.int .i64 o.2.1) ∧ W.cell? (a.add (i * 3 + 2)) = some (.int .i64 o.2.2)) ∧ (Lit.int .i64 o.1).wf = true ∧ (Lit.int .i64 o.2.1).wf = true ∧ (Lit.int .i64 o.2.2).wf = true := by
      intro i hi
      obtain ⟨cs', h1, h2⟩ := hx i (by omega)
      rw [Try.cellsLCho] at h1
      obtain ⟨_, hlen, hcell⟩ := World.cells?_some h1
      match cs', hlen with
      | [v0, v1, v2], _ =>
        obtain ⟨o, ⟨rfl, rfl, rfl⟩, f⟩ := open_cho h2
        have e0 := hcell 0 (by omega)
        have e1 := hcell 1 (by omega)
        have e2 := hcell 2 (by omega)
        rw [add_add] at e0 e1 e2
        exact ⟨o, ⟨by simpa using e0, by simpa using e1, by simpa using e2⟩, f⟩
    haveI : Inhabited Mb := ⟨Z3⟩
    obtain ⟨q, hq⟩ := choose_lt each
    have hget : ∀ j, j < len → (((List.range len).map q).getD j Z3) = q j := by
      intro j hj
      simp [List.getD, hj]
    refine ⟨some a, len, cap, (List.range len).map q, by simpa using hcs, by omega, ⟨by simp, ?_⟩, fun j => ?_⟩
    · by_cases h0 : len = 0
      · exact .inl h0
      · obtain ⟨b, off, spot⟩ := a
        obtain ⟨⟨h1, _⟩, _⟩ := hq 0 (by omega)
        have hspot : spot = none := by simpa [Addr.add] using World.cell?_spot h1
        subst hspot
        refine .inr ⟨b, off, rfl, World.block_lt_of_cell? _ _ h1, fun j hj => ?_⟩
        obtain ⟨⟨x0, x1, x2⟩, _⟩ := hq j hj
        rw [add_none] at x0 x1 x2
        rw [hget j hj]
        exact ⟨x0, by rw [Nat.add_assoc]; exact x1, by rw [Nat.add_assoc]; exact x2⟩
    · by_cases hj : j < len
      · rw [hget j hj]
        exact (hq j hj).2
      · have : (((List.range len).map q).getD j Z3) = Z3 := by rw [List.getD, List.getElem?_eq_none (by simp; omega)]; rfl
        rw [this]
        exact fineC_Z3

theorem Try.cellsLVtr : Try.prog.cellsOf 25 = 3 := by kernel_rfl
set_option maxRecDepth 100000 in
/-- All that a law is told of a voter that came in. -/
theorem open_vtr {b0 : Nat} {r : Reach} {v : Value} {d : DataW H} {p : List MemPlace} (hv : Value.okWide Try.prog W r b0 25 v) (h : DataW.Trod enc Try.prog W base spare held 25 v d p) :
    ∃ k l a n cap ms, v = .agg #[.int .i64 k, .int .i64 l, .slice a n cap] ∧ n ≤ maxLen ∧ MAt W a n ms ∧ FineC ms ∧ (Lit.int .i64 k).wf = true ∧ (Lit.int .i64 l).wf = true := by
  obtain ⟨c0, c1, c2, y0, y1, y2, m, rfl, _, _, hy0, hy1, hy2⟩ := open_agg3 Try.underlying25 (by kernel_rfl) Try.cellsLVtr hv h
  obtain ⟨k, e0, _, w0⟩ := DataW.trod_int Try.underlying2 hy0
  obtain ⟨l, e1, _, w1⟩ := DataW.trod_int Try.underlying2 hy1
  obtain ⟨a, n, cap, ms, rfl, hn, hM, hF⟩ := open_chos hy2
  simp at e0 e1
  subst e0 e1
  exact ⟨k, l, a, n, cap, ms, rfl, hn, hM, hF, w0, w1⟩
end
end Go.Proofs.Ytglpbkicmpmepaa
