/- Coins that come in as a law's argument, read as data, give their numbers. -/
import Derived.Test.YtjgilpkkfpbefaaGreatDoorJn3
import Derived.Test.YtjgilpkkfpbefaaGreatDoorJn2
namespace Go.Proofs.YtjgilpkkfpbefaaGreatDoor
open Go.ChangeShapes Go.WideShapes Go.ChangeAt Go.RowKit Go.Joins Go.Deep
open Go.ChangeMaps (open_string shut_string)

theorem Tryz.cellsLCoin : Tryz.prog.cellsOf 64 = 8 := by kernel_rfl
theorem Tryz.cellsBoolC : Tryz.prog.cellsOf 4 = 1 := by kernel_rfl

def FineC (cs : List Co) : Prop := ∀ j, (Lit.int .i64 (cs.getD j C0).p).wf = true ∧ (Lit.int .i64 (cs.getD j C0).q).wf = true ∧ (Lit.int .i64 (cs.getD j C0).v).wf = true ∧ (∀ k ∈ (cs.getD j C0).l, (Lit.int .i64 k).wf = true) ∧ (Lit.int .i64 (cs.getD j C0).x).wf = true ∧ (Lit.int .i64 (cs.getD j C0).y).wf = true ∧ (Lit.int .i64 (cs.getD j C0).h).wf = true

section
variable {H : Type} {enc : TypeId × Value → H} {W : World} {base : Nat} {spare : Nat → Bool} {held : Bool}

theorem open_coin {fuel : Nat} {v0 v1 v2 v3 v4 v5 v6 v7 : Value} {x : DataW H × List MemPlace} (h : DataW.trod enc Tryz.prog W base spare held fuel 64 [v0, v1, v2, v3, v4, v5, v6, v7] = some x) :
    ∃ (o : Co) (ka : Option Addr) (kc : Nat), (v0 = .int .i64 o.p ∧ v1 = .int .i64 o.q ∧ v2 = .int .i64 o.v ∧ v3 = .slice ka o.l.length kc ∧ v4 = .int .i64 o.x ∧ v5 = .int .i64 o.y ∧ v6 = .int .i64 o.h ∧ v7 = .bool o.m) ∧ o.l.length ≤ maxLen ∧ IAt W ka o.l.length o.l ∧ (Lit.int .i64 o.p).wf = true ∧ (Lit.int .i64 o.q).wf = true ∧ (Lit.int .i64 o.v).wf = true ∧ (∀ k ∈ o.l, (Lit.int .i64 k).wf = true) ∧ (Lit.int .i64 o.x).wf = true ∧ (Lit.int .i64 o.y).wf = true ∧ (Lit.int .i64 o.h).wf = true := by
  obtain ⟨xs, k, hk, hxy, _, hxl, hf⟩ := DataW.trod_struct Tryz.underlying64 h
  match xs, hxl with
  | [y0, y1, y2, y3], _ =>
    have g0 := hf 0 _ rfl
    have g1 := hf 1 _ rfl
    have g2 := hf 2 _ rfl
    have g3 := hf 3 _ rfl
    simp [Tryz.cellsI64, Tryz.cellsLRef, Tryz.cellsLOut, Tryz.cellsBoolC] at g0 g1 g2 g3
    obtain ⟨hh, e2, _, w2⟩ := DataW.trod_int Tryz.underlying2 g2
    obtain ⟨bb, e3, _⟩ := DataW.trod_bool Tryz.underlying4 g3
    obtain ⟨ys, k2, hk2, hxy2, _, hyl, hf2⟩ := DataW.trod_struct Tryz.underlying57 g0
    match ys, hyl with
    | [z0, z1], _ =>
      have f0 := hf2 0 _ rfl
      have f1 := hf2 1 _ rfl
      simp [Tryz.cellsI64] at f0 f1
      obtain ⟨p, a0, _, u0⟩ := DataW.trod_int Tryz.underlying2 f0
      obtain ⟨q, a1, _, u1⟩ := DataW.trod_int Tryz.underlying2 f1
      obtain ⟨o, ka, kn, kc, b0, b1, b2, b3, hn, hI, t0, t1, t2, t3⟩ := open_out g1
      simp at a0 a1 e2 e3
      obtain rfl := hI.1
      exact ⟨⟨p, q, o.v, o.l, o.x, o.y, hh, bb⟩, ka, kc, ⟨a0, a1, b0, b1, b2, b3, e2, e3⟩, hn, hI, u0, u1, t0, t1, t2, t3, w2⟩

theorem fine_C0 : (Lit.int .i64 C0.p).wf = true ∧ (Lit.int .i64 C0.q).wf = true ∧ (Lit.int .i64 C0.v).wf = true ∧ (∀ k ∈ C0.l, (Lit.int .i64 k).wf = true) ∧ (Lit.int .i64 C0.x).wf = true ∧ (Lit.int .i64 C0.y).wf = true ∧ (Lit.int .i64 C0.h).wf = true := ⟨wf_zero, wf_zero, wf_zero, fun k hk => (by cases hk), wf_zero, wf_zero, wf_zero⟩

theorem open_coins {fuel : Nat} {c : Value} {x : DataW H × List MemPlace} (h : DataW.trod enc Tryz.prog W base spare held fuel 26 [c] = some x) :
    ∃ a n cap cs, c = .slice a n cap ∧ n ≤ maxLen ∧ CAt W a n cs ∧ FineC cs := by
  rcases open_slice Tryz.underlying26 h with ⟨hcs, _⟩ | ⟨a, len, cap, m, n, D, Pl, hcs, _, hl, hm, hmm, _, hx⟩
  · exact ⟨none, 0, 0, [], by simpa using hcs, by unfold maxLen; omega, ⟨rfl, .inl rfl⟩, fun j => by simpa using fine_C0⟩
  · have hlm : len ≤ m := by rw [hmm]; split <;> omega
    have each : ∀ i, i < len → ∃ o : Co, (∃ (ka : Option Addr) (kc : Nat), (W.cell? (a.add (i * 8)) = some (.int .i64 o.p) ∧ W.cell? (a.add (i * 8 + 1)) = some (.int .i64 o.q) ∧ W.cell? (a.add (i * 8 + 2)) = some (.int .i64 o.v) ∧ W.cell? (a.add (i * 8 + 3)) = some (.slice ka o.l.length kc) ∧ W.cell? (a.add (i * 8 + 4)) = some (.int .i64 o.x) ∧ W.cell? (a.add (i * 8 + 5)) = some (.int .i64 o.y) ∧ W.cell? (a.add (i * 8 + 6)) = some (.int .i64 o.h) ∧ W.cell? (a.add (i * 8 + 7)) = some (.bool o.m)) ∧ o.l.length ≤ maxLen ∧ IAt W ka o.l.length o.l) ∧ (Lit.int .i64 o.p).wf = true ∧ (Lit.int .i64 o.q).wf = true ∧ (Lit.int .i64 o.v).wf = true ∧ (∀ k ∈ o.l, (Lit.int .i64 k).wf = true) ∧ (Lit.int .i64 o.x).wf = true ∧ (Lit.int .i64 o.y).wf = true ∧ (Lit.int .i64 o.h).wf = true := by
      intro i hi
      obtain ⟨cs', h1, h2⟩ := hx i (by omega)
      rw [Tryz.cellsLCoin] at h1
      obtain ⟨_, hlen, hcell⟩ := World.cells?_some h1
      match cs', hlen with
      | [v0, v1, v2, v3, v4, v5, v6, v7], _ =>
        obtain ⟨o, ka, kc, ⟨rfl, rfl, rfl, rfl, rfl, rfl, rfl, rfl⟩, hkn, hI, f⟩ := open_coin h2
        have e0 := hcell 0 (by omega)
        have e1 := hcell 1 (by omega)
        have e2 := hcell 2 (by omega)
        have e3 := hcell 3 (by omega)
        have e4 := hcell 4 (by omega)
        have e5 := hcell 5 (by omega)
        have e6 := hcell 6 (by omega)
        have e7 := hcell 7 (by omega)
        rw [add_add] at e0 e1 e2 e3 e4 e5 e6 e7
        exact ⟨o, ⟨ka, kc, ⟨by simpa using e0, by simpa using e1, by simpa using e2, by simpa using e3, by simpa using e4, by simpa using e5, by simpa using e6, by simpa using e7⟩, hkn, hI⟩, f⟩
    haveI : Inhabited Co := ⟨C0⟩
    obtain ⟨q, hq⟩ := choose_lt each
    have hget : ∀ j, j < len → (((List.range len).map q).getD j C0) = q j := by
      intro j hj
      simp [List.getD, hj]
    refine ⟨some a, len, cap, (List.range len).map q, by simpa using hcs, by omega, ⟨by simp, ?_⟩, fun j => ?_⟩
    · by_cases h0 : len = 0
      · exact .inl h0
      · obtain ⟨b, off, spot⟩ := a
        obtain ⟨⟨_, _, ⟨h1, _⟩, _⟩, _⟩ := hq 0 (by omega)
        have hspot : spot = none := by simpa [Addr.add] using World.cell?_spot h1
        subst hspot
        refine .inr ⟨b, off, rfl, World.block_lt_of_cell? _ _ h1, fun j hj => ?_⟩
        obtain ⟨⟨ka, kc, ⟨x0, x1, x2, x3, x4, x5, x6, x7⟩, x8, x9⟩, _⟩ := hq j hj
        rw [add_none] at x0 x1 x2 x3 x4 x5 x6 x7
        rw [hget j hj]
        exact ⟨ka, kc, ⟨x0, by rw [Nat.add_assoc]; exact x1, by rw [Nat.add_assoc]; exact x2, by rw [Nat.add_assoc]; exact x3, by rw [Nat.add_assoc]; exact x4, by rw [Nat.add_assoc]; exact x5, by rw [Nat.add_assoc]; exact x6, by rw [Nat.add_assoc]; exact x7⟩, x8, x9⟩
    · by_cases hj : j < len
      · rw [hget j hj]
        exact (hq j hj).2
      · have : (((List.range len).map q).getD j C0) = C0 := by rw [List.getD, List.getElem?_eq_none (by simp; omega)]; rfl
        rw [this]
        exact fine_C0

set_option maxRecDepth 100000 in
theorem open_coinS {b0 : Nat} {r : Reach} {v : Value} {d : DataW H} {p : List MemPlace} (hv : Value.okWide Tryz.prog W r b0 26 v) (h : DataW.Trod enc Tryz.prog W base spare held 26 v d p) :
    ∃ a n cap cs, v = .slice a n cap ∧ n ≤ maxLen ∧ CAt W a n cs ∧ FineC cs := by
  obtain ⟨a, len, cap, rfl⟩ := okWide_slice Tryz.underlying26 hv
  obtain ⟨fuel, hf⟩ := h
  exact open_coins (c := .slice a len cap) hf

end
end Go.Proofs.YtjgilpkkfpbefaaGreatDoor
