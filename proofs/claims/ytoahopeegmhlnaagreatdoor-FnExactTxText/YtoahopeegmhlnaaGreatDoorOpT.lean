/- A transaction that comes in as a law's argument, read as data, gives its numbers, its refs and its outs. -/
import Derived.Test.YtoahopeegmhlnaaGreatDoorOpR
import Derived.Test.YtoahopeegmhlnaaGreatDoorTxA
import Derived.Deep.Slices
namespace Go.Proofs.YtoahopeegmhlnaaGreatDoor
open Go.ChangeShapes Go.WideShapes Go.ChangeAt Go.RowKit Go.Joins Go.Deep
open Go.ChangeMaps (open_string shut_string)

theorem Tryz.cellsLOut : Tryz.prog.cellsOf 56 = 4 := by kernel_rfl
theorem Tryz.cellsLRef : Tryz.prog.cellsOf 71 = 2 := by kernel_rfl
theorem Tryz.cellsLTx : Tryz.prog.cellsOf 25 = 4 := by kernel_rfl
theorem Tryz.cellsInts : Tryz.prog.cellsOf 52 = 1 := by kernel_rfl

def FineO (os : List Ou) : Prop := ∀ j, (Lit.int .i64 (os.getD j O0).v).wf = true ∧ (∀ k ∈ (os.getD j O0).l, (Lit.int .i64 k).wf = true) ∧ (Lit.int .i64 (os.getD j O0).x).wf = true ∧ (Lit.int .i64 (os.getD j O0).y).wf = true
def FineR (rs : List (Int × Int)) : Prop := ∀ j, (Lit.int .i64 (rs.getD j G0).1).wf = true ∧ (Lit.int .i64 (rs.getD j G0).2).wf = true

section
variable {H : Type} {enc : TypeId × Value → H} {W : World} {base : Nat} {spare : Nat → Bool} {held : Bool}

theorem open_out {fuel : Nat} {v0 v1 v2 v3 : Value} {x : DataW H × List MemPlace} (h : DataW.trod enc Tryz.prog W base spare held fuel 56 [v0, v1, v2, v3] = some x) :
    ∃ (o : Ou) (ka : Option Addr) (kn kc : Nat), v0 = .int .i64 o.v ∧ v1 = .slice ka kn kc ∧ v2 = .int .i64 o.x ∧ v3 = .int .i64 o.y ∧ kn ≤ maxLen ∧ IAt W ka kn o.l ∧ (Lit.int .i64 o.v).wf = true ∧ (∀ k ∈ o.l, (Lit.int .i64 k).wf = true) ∧ (Lit.int .i64 o.x).wf = true ∧ (Lit.int .i64 o.y).wf = true := by
  obtain ⟨xs, k, hk, hxy, _, hxl, hf⟩ := DataW.trod_struct Tryz.underlying56 h
  match xs, hxl with
  | [y0, y1], _ =>
    have g0 := hf 0 _ rfl
    have g1 := hf 1 _ rfl
    simp [Tryz.cellsI64, Tryz.cellsLRule] at g0 g1
    obtain ⟨p, e0, _, w0⟩ := DataW.trod_int Tryz.underlying2 g0
    obtain ⟨ys, k2, hk2, hxy2, _, hyl, hf2⟩ := DataW.trod_struct Tryz.underlying54 g1
    match ys, hyl with
    | [z0, z1, z2], _ =>
      have f0 := hf2 0 _ rfl
      have f1 := hf2 1 _ rfl
      have f2 := hf2 2 _ rfl
      simp [Tryz.cellsI64, Tryz.cellsInts] at f0 f1 f2
      obtain ⟨a, n, cap, l, rfl, hn, hI, hw⟩ := open_keys f0
      obtain ⟨q, e1, _, w1⟩ := DataW.trod_int Tryz.underlying2 f1
      obtain ⟨r, e2, _, w2⟩ := DataW.trod_int Tryz.underlying2 f2
      simp at e0 e1 e2
      exact ⟨⟨p, l, q, r⟩, a, n, cap, e0, rfl, e1, e2, hn, hI, w0, hw, w1, w2⟩

theorem fine_O0 : (Lit.int .i64 O0.v).wf = true ∧ (∀ k ∈ O0.l, (Lit.int .i64 k).wf = true) ∧ (Lit.int .i64 O0.x).wf = true ∧ (Lit.int .i64 O0.y).wf = true := ⟨wf_zero, fun k hk => (by cases hk), wf_zero, wf_zero⟩

theorem open_outs {fuel : Nat} {c : Value} {x : DataW H × List MemPlace} (h : DataW.trod enc Tryz.prog W base spare held fuel 23 [c] = some x) :
    ∃ a n cap os, c = .slice a n cap ∧ n ≤ maxLen ∧ OAt W a n os ∧ FineO os := by
  rcases open_slice Tryz.underlying23 h with ⟨hcs, _⟩ | ⟨a, len, cap, m, n, D, Pl, hcs, _, hl, hm, hmm, _, hx⟩
  · exact ⟨none, 0, 0, [], by simpa using hcs, by unfold maxLen; omega, ⟨rfl, .inl rfl⟩, fun j => by simpa using fine_O0⟩
  · have hlm : len ≤ m := by rw [hmm]; split <;> omega
    have each : ∀ i, i < len → ∃ o : Ou, (∃ (ka : Option Addr) (kn kc : Nat), W.cell? (a.add (i * 4)) = some (.int .i64 o.v) ∧ W.cell? (a.add (i * 4 + 1)) = some (.slice ka kn kc) ∧ W.cell? (a.add (i * 4 + 2)) = some (.int .i64 o.x) ∧ W.cell? (a.add (i * 4 + 3)) = some (.int .i64 o.y) ∧ kn ≤ maxLen ∧ IAt W ka kn o.l) ∧
        (Lit.int .i64 o.v).wf = true ∧ (∀ k ∈ o.l, (Lit.int .i64 k).wf = true) ∧ (Lit.int .i64 o.x).wf = true ∧ (Lit.int .i64 o.y).wf = true := by
      intro i hi
      obtain ⟨cs', h1, h2⟩ := hx i (by omega)
      rw [Tryz.cellsLOut] at h1
      obtain ⟨_, hlen, hcell⟩ := World.cells?_some h1
      match cs', hlen with
      | [v0, v1, v2, v3], _ =>
        obtain ⟨o, ka, kn, kc, rfl, rfl, rfl, rfl, hkn, hI, f0, f1, f2, f3⟩ := open_out h2
        have e0 := hcell 0 (by omega)
        have e1 := hcell 1 (by omega)
        have e2 := hcell 2 (by omega)
        have e3 := hcell 3 (by omega)
        rw [add_add] at e0 e1 e2 e3
        exact ⟨o, ⟨ka, kn, kc, by simpa using e0, by simpa using e1, by simpa using e2, by simpa using e3, hkn, hI⟩, f0, f1, f2, f3⟩
    haveI : Inhabited Ou := ⟨O0⟩
    obtain ⟨q, hq⟩ := choose_lt each
    have hget : ∀ j, j < len → (((List.range len).map q).getD j O0) = q j := by
      intro j hj
      simp [List.getD, hj]
    refine ⟨some a, len, cap, (List.range len).map q, by simpa using hcs, by omega, ⟨by simp, ?_⟩, fun j => ?_⟩
    · by_cases h0 : len = 0
      · exact .inl h0
      · obtain ⟨b, off, spot⟩ := a
        obtain ⟨⟨_, _, _, h1, _⟩, _⟩ := hq 0 (by omega)
        have hspot : spot = none := by simpa [Addr.add] using World.cell?_spot h1
        subst hspot
        refine .inr ⟨b, off, rfl, World.block_lt_of_cell? _ _ h1, fun j hj => ?_⟩
        obtain ⟨⟨ka, kn, kc, x0, x1, x2, x3, x4, x5⟩, _⟩ := hq j hj
        rw [add_none] at x0 x1 x2 x3
        rw [hget j hj]
        exact ⟨ka, kn, kc, x0, by rw [Nat.add_assoc]; exact x1, by rw [Nat.add_assoc]; exact x2, by rw [Nat.add_assoc]; exact x3, x4, x5⟩
    · by_cases hj : j < len
      · rw [hget j hj]
        exact (hq j hj).2
      · have : (((List.range len).map q).getD j O0) = O0 := by rw [List.getD, List.getElem?_eq_none (by simp; omega)]; rfl
        rw [this]
        exact fine_O0

theorem open_refs {fuel : Nat} {c : Value} {x : DataW H × List MemPlace} (h : DataW.trod enc Tryz.prog W base spare held fuel 22 [c] = some x) :
    ∃ a m cap gs, c = .slice a m cap ∧ m ≤ maxLen ∧ GAt W a m gs ∧ FineR gs := by
  rcases open_slice_pairs Tryz.underlying22 Tryz.underlying71 Tryz.cellsLRef rfl rfl Tryz.cellsI64 Tryz.cellsI64 h with ⟨hcs, _⟩ | ⟨a, len, cap, m, n, V0, V1, D0, D1, P0, P1, hcs, _, hl, hm, hmm, _, hx⟩
  · refine ⟨none, 0, 0, [], by simpa using hcs, by unfold maxLen; omega, ⟨rfl, .inl rfl⟩, fun j => ?_⟩
    simp [G0, wf_zero]
  · have hlm : len ≤ m := by rw [hmm]; split <;> omega
    have hint : ∀ i, i < m → V0 i = .int .i64 (intOf (V0 i)) ∧ V1 i = .int .i64 (intOf (V1 i)) ∧ (Lit.int .i64 (intOf (V0 i))).wf = true ∧ (Lit.int .i64 (intOf (V1 i))).wf = true := by
      intro i hi
      obtain ⟨_, _, h0, h1⟩ := hx i hi
      obtain ⟨p, e0, _, w0⟩ := DataW.trod_int Tryz.underlying2 h0
      obtain ⟨q, e1, _, w1⟩ := DataW.trod_int Tryz.underlying2 h1
      simp at e0 e1
      rw [e0, e1]
      exact ⟨rfl, rfl, w0, w1⟩
    have hget : ∀ j, j < len → (((List.range len).map fun i => (intOf (V0 i), intOf (V1 i))).getD j G0) = (intOf (V0 j), intOf (V1 j)) := by
      intro j hj
      simp [List.getD, hj]
    refine ⟨some a, len, cap, (List.range len).map fun i => (intOf (V0 i), intOf (V1 i)), by simpa using hcs, by omega, ⟨by simp, ?_⟩, fun j => ?_⟩
    · by_cases h0 : len = 0
      · exact .inl h0
      · obtain ⟨b, off, spot⟩ := a
        have h1 := (hx 0 (by omega)).1
        have hspot : spot = none := by simpa [Addr.add] using World.cell?_spot h1
        subst hspot
        refine .inr ⟨b, off, rfl, World.block_lt_of_cell? _ _ h1, fun j hj => ?_⟩
        obtain ⟨x0, x1, _, _⟩ := hx j (by omega)
        obtain ⟨i0, i1, _, _⟩ := hint j (by omega)
        rw [hget j hj]
        rw [add_none] at x0 x1
        rw [i0] at x0
        rw [i1] at x1
        exact ⟨x0, x1⟩
    · by_cases hj : j < len
      · rw [hget j hj]
        obtain ⟨_, _, w0, w1⟩ := hint j (by omega)
        exact ⟨w0, w1⟩
      · have : (((List.range len).map fun i => (intOf (V0 i), intOf (V1 i))).getD j G0) = G0 := by rw [List.getD, List.getElem?_eq_none (by simp; omega)]; rfl
        rw [this]
        exact ⟨wf_zero, wf_zero⟩
end

set_option maxRecDepth 100000 in
/-- All that a law is told of a transaction that came in. -/
theorem open_tx {H : Type} {enc : TypeId × Value → H} {W : World} {base b0 : Nat} {spare : Nat → Bool} {held : Bool} {r : Reach} {v : Value} {d : DataW H} {p : List MemPlace} (hv : Value.okWide Tryz.prog W r b0 25 v) (h : DataW.Trod enc Tryz.prog W base spare held 25 v d p) :
    ∃ k f ia n c oa m d rs os, v = .agg #[.int .i64 k, .int .i64 f, .slice ia n c, .slice oa m d] ∧ n ≤ maxLen ∧ m ≤ maxLen ∧ (Lit.int .i64 k).wf = true ∧ (Lit.int .i64 f).wf = true ∧ FineR rs ∧ FineO os ∧ TxAt W ia n oa m rs os := by
  obtain ⟨c0, c1, c2, c3, y0, y1, y2, y3, k, rfl, _, _, hy0, hy1, hy2, hy3⟩ := open_agg4 Tryz.underlying25 (by kernel_rfl) Tryz.cellsLTx hv h
  obtain ⟨q, e1, _, w1⟩ := DataW.trod_int Tryz.underlying2 hy0
  obtain ⟨f, e2, _, w2⟩ := DataW.trod_int Tryz.underlying2 hy1
  simp at e1 e2
  subst e1 e2
  obtain ⟨ia, n, c, rs, rfl, hn, hr, hfr⟩ := open_refs hy2
  obtain ⟨oa, m, d, os, rfl, hm, ho, hfo⟩ := open_outs hy3
  exact ⟨q, f, ia, n, c, oa, m, d, rs, os, rfl, hn, hm, w1, w2, hfr, hfo, ⟨hr, ho⟩⟩

end Go.Proofs.YtoahopeegmhlnaaGreatDoor
