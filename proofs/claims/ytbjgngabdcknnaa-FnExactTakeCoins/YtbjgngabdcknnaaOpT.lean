/- A transaction that comes in as a law's argument, read as data, gives its numbers, its refs and its outs. -/
import Derived.Test.YtbjgngabdcknnaaOpR
import Derived.Test.YtbjgngabdcknnaaTxA
import Derived.Deep.Slices
namespace Go.Proofs.Ytbjgngabdcknnaa
open Go.ChangeShapes Go.WideShapes Go.ChangeAt Go.RowKit Go.Joins Go.Deep
open Go.ChangeMaps (open_string shut_string)

theorem Try.cellsLOut : Try.prog.cellsOf 70 = 4 := by kernel_rfl
theorem Try.cellsLRef : Try.prog.cellsOf 24 = 2 := by kernel_rfl
theorem Try.cellsInts : Try.prog.cellsOf 66 = 1 := by kernel_rfl

def FineR (rs : List (Int × Int)) : Prop := ∀ j, (Lit.int .i64 (rs.getD j G0).1).wf = true ∧ (Lit.int .i64 (rs.getD j G0).2).wf = true

section
variable {H : Type} {enc : TypeId × Value → H} {W : World} {base : Nat} {spare : Nat → Bool} {held : Bool}

theorem open_out {fuel : Nat} {v0 v1 v2 v3 : Value} {x : DataW H × List MemPlace} (h : DataW.trod enc Try.prog W base spare held fuel 70 [v0, v1, v2, v3] = some x) :
    ∃ (o : Ou) (ka : Option Addr) (kn kc : Nat), v0 = .int .i64 o.v ∧ v1 = .slice ka kn kc ∧ v2 = .int .i64 o.x ∧ v3 = .int .i64 o.y ∧ kn ≤ maxLen ∧ IAt W ka kn o.l ∧ (Lit.int .i64 o.v).wf = true ∧ (∀ k ∈ o.l, (Lit.int .i64 k).wf = true) ∧ (Lit.int .i64 o.x).wf = true ∧ (Lit.int .i64 o.y).wf = true := by
  obtain ⟨xs, k, hk, hxy, _, hxl, hf⟩ := DataW.trod_struct Try.underlying70 h
  match xs, hxl with
  | [y0, y1], _ =>
    have g0 := hf 0 _ rfl
    have g1 := hf 1 _ rfl
    simp [Try.cellsI64, Try.cellsLRule] at g0 g1
    obtain ⟨p, e0, _, w0⟩ := DataW.trod_int Try.underlying2 g0
    obtain ⟨ys, k2, hk2, hxy2, _, hyl, hf2⟩ := DataW.trod_struct Try.underlying68 g1
    match ys, hyl with
    | [z0, z1, z2], _ =>
      have f0 := hf2 0 _ rfl
      have f1 := hf2 1 _ rfl
      have f2 := hf2 2 _ rfl
      simp [Try.cellsI64, Try.cellsInts] at f0 f1 f2
      obtain ⟨a, n, cap, l, rfl, hn, hI, hw⟩ := open_keys f0
      obtain ⟨q, e1, _, w1⟩ := DataW.trod_int Try.underlying2 f1
      obtain ⟨r, e2, _, w2⟩ := DataW.trod_int Try.underlying2 f2
      simp at e0 e1 e2
      exact ⟨⟨p, l, q, r⟩, a, n, cap, e0, rfl, e1, e2, hn, hI, w0, hw, w1, w2⟩

theorem open_refs {fuel : Nat} {c : Value} {x : DataW H × List MemPlace} (h : DataW.trod enc Try.prog W base spare held fuel 38 [c] = some x) :
    ∃ a m cap gs, c = .slice a m cap ∧ m ≤ maxLen ∧ GAt W a m gs ∧ FineR gs := by
  rcases open_slice_pairs Try.underlying38 Try.underlying24 Try.cellsLRef rfl rfl Try.cellsI64 Try.cellsI64 h with ⟨hcs, _⟩ | ⟨a, len, cap, m, n, V0, V1, D0, D1, P0, P1, hcs, _, hl, hm, hmm, _, hx⟩
  · refine ⟨none, 0, 0, [], by simpa using hcs, by unfold maxLen; omega, ⟨rfl, .inl rfl⟩, fun j => ?_⟩
    simp [G0, wf_zero]
  · have hlm : len ≤ m := by rw [hmm]; split <;> omega
    have hint : ∀ i, i < m → V0 i = .int .i64 (intOf (V0 i)) ∧ V1 i = .int .i64 (intOf (V1 i)) ∧ (Lit.int .i64 (intOf (V0 i))).wf = true ∧ (Lit.int .i64 (intOf (V1 i))).wf = true := by
      intro i hi
      obtain ⟨_, _, h0, h1⟩ := hx i hi
      obtain ⟨p, e0, _, w0⟩ := DataW.trod_int Try.underlying2 h0
      obtain ⟨q, e1, _, w1⟩ := DataW.trod_int Try.underlying2 h1
      simp at e0 e1
      rw [e0, e1]
      exact ⟨rfl, rfl, w0, w1⟩
    have hget : ∀ j, j < len → (((List.range len).map fun i => (intOf (V0 i), intOf (V1 i))).getD j G0) = (intOf (V0 j), intOf (V1 j)) := by
      intro j hj
      simp [List.getD, hj]
    refine ⟨some a, len, cap, (List.range len).map fun i => (intOf (V0 i), intOf (V1 i)), by simpa using hcs, by omega, ⟨by simp, ?_⟩, fun j => ?_⟩
    · by_cases h0 : len = 0
      · exact .inl h0
      · obtain ⟨b, off, spot⟩ := a
        have h1 := (hx 0 (by omega)).1
        have hspot : spot = none := by simpa [Addr.add] using World.cell?_spot h1
        subst hspot
        refine .inr ⟨b, off, rfl, World.block_lt_of_cell? _ _ h1, fun j hj => ?_⟩
        obtain ⟨x0, x1, _, _⟩ := hx j (by omega)
        obtain ⟨i0, i1, _, _⟩ := hint j (by omega)
        rw [hget j hj]
        rw [add_none] at x0 x1
        rw [i0] at x0
        rw [i1] at x1
        exact ⟨x0, x1⟩
    · by_cases hj : j < len
      · rw [hget j hj]
        obtain ⟨_, _, w0, w1⟩ := hint j (by omega)
        exact ⟨w0, w1⟩
      · have : (((List.range len).map fun i => (intOf (V0 i), intOf (V1 i))).getD j G0) = G0 := by rw [List.getD, List.getElem?_eq_none (by simp; omega)]; rfl
        rw [this]
        exact ⟨wf_zero, wf_zero⟩
end

end Go.Proofs.Ytbjgngabdcknnaa
