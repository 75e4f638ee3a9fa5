/- Coins that come in as a law's argument, read as data, give their numbers. -/
import Derived.Test.YtkdkecbjjbkabaaOpT
import Derived.Test.YtkdkecbjjbkabaaCnA
namespace Go.Proofs.Ytkdkecbjjbkabaa
open Go.ChangeShapes Go.WideShapes Go.ChangeAt Go.RowKit Go.Joins Go.Deep
open Go.ChangeMaps (open_string shut_string)

theorem Try.cellsLCoin : Try.prog.cellsOf 30 = 8 := by kernel_rfl
theorem Try.cellsBoolC : Try.prog.cellsOf 4 = 1 := by kernel_rfl

section
variable {H : Type} {enc : TypeId × Value → H} {W : World} {base : Nat} {spare : Nat → Bool} {held : Bool}

theorem open_coin {fuel : Nat} {v0 v1 v2 v3 v4 v5 v6 v7 : Value} {x : DataW H × List MemPlace} (h : DataW.trod enc Try.prog W base spare held fuel 30 [v0, v1, v2, v3, v4, v5, v6, v7] = some x) :
    ∃ (o : Co) (ka : Option Addr) (kc : Nat), (v0 = .int .i64 o.p ∧ v1 = .int .i64 o.q ∧ v2 = .int .i64 o.v ∧ v3 = .slice ka o.l.length kc ∧ v4 = .int .i64 o.x ∧ v5 = .int .i64 o.y ∧ v6 = .int .i64 o.h ∧ v7 = .bool o.m) ∧ o.l.length ≤ maxLen ∧ IAt W ka o.l.length o.l ∧ (Lit.int .i64 o.p).wf = true ∧ (Lit.int .i64 o.q).wf = true ∧ (Lit.int .i64 o.v).wf = true ∧ (∀ k ∈ o.l, (Lit.int .i64 k).wf = true) ∧ (Lit.int .i64 o.x).wf = true ∧ (Lit.int .i64 o.y).wf = true ∧ (Lit.int .i64 o.h).wf = true := by
  obtain ⟨xs, k, hk, hxy, _, hxl, hf⟩ := DataW.trod_struct Try.underlying30 h
  match xs, hxl with
  | [y0, y1, y2, y3], _ =>
    have g0 := hf 0 _ rfl
    have g1 := hf 1 _ rfl
    have g2 := hf 2 _ rfl
    have g3 := hf 3 _ rfl
    simp [Try.cellsI64, Try.cellsLRef, Try.cellsLOut, Try.cellsBoolC] at g0 g1 g2 g3
    obtain ⟨hh, e2, _, w2⟩ := DataW.trod_int Try.underlying2 g2
    obtain ⟨bb, e3, _⟩ := DataW.trod_bool Try.underlying4 g3
    obtain ⟨ys, k2, hk2, hxy2, _, hyl, hf2⟩ := DataW.trod_struct Try.underlying23 g0
    match ys, hyl with
    | [z0, z1], _ =>
      have f0 := hf2 0 _ rfl
      have f1 := hf2 1 _ rfl
      simp [Try.cellsI64] at f0 f1
      obtain ⟨p, a0, _, u0⟩ := DataW.trod_int Try.underlying2 f0
      obtain ⟨q, a1, _, u1⟩ := DataW.trod_int Try.underlying2 f1
      obtain ⟨o, ka, kn, kc, b0, b1, b2, b3, hn, hI, t0, t1, t2, t3⟩ := open_out g1
      simp at a0 a1 e2 e3
      obtain rfl := hI.1
      exact ⟨⟨p, q, o.v, o.l, o.x, o.y, hh, bb⟩, ka, kc, ⟨a0, a1, b0, b1, b2, b3, e2, e3⟩, hn, hI, u0, u1, t0, t1, t2, t3, w2⟩

set_option maxRecDepth 100000 in
theorem open_coin1 {b0 : Nat} {r : Reach} {v : Value} {d : DataW H} {p : List MemPlace} (hv : Value.okWide Try.prog W r b0 30 v) (h : DataW.Trod enc Try.prog W base spare held 30 v d p) :
    ∃ (o : Co) (ka : Option Addr) (kc : Nat), v = .agg #[.int .i64 o.p, .int .i64 o.q, .int .i64 o.v, .slice ka o.l.length kc, .int .i64 o.x, .int .i64 o.y, .int .i64 o.h, .bool o.m] ∧ o.l.length ≤ maxLen ∧ IAt W ka o.l.length o.l := by
  obtain ⟨cs, rfl, hsz⟩ := okWide_struct Try.underlying30 hv
  rw [Try.cellsLCoin] at hsz
  obtain ⟨fuel, hf⟩ := h
  obtain ⟨cs⟩ := cs
  match cs, hsz with
  | [v0, v1, v2, v3, v4, v5, v6, v7], _ =>
    obtain ⟨o, ka, kc, ⟨rfl, rfl, rfl, rfl, rfl, rfl, rfl, rfl⟩, hkn, hI, _⟩ := open_coin (v0 := v0) (v1 := v1) (v2 := v2) (v3 := v3) (v4 := v4) (v5 := v5) (v6 := v6) (v7 := v7) hf
    exact ⟨o, ka, kc, rfl, hkn, hI⟩

end
end Go.Proofs.Ytkdkecbjjbkabaa
