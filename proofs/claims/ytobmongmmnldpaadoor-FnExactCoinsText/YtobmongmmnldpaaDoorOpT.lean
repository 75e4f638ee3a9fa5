/- A transaction that comes in as a law's argument, read as data, gives its numbers, its refs and its outs. -/
import Derived.Test.YtobmongmmnldpaaDoorOpR
import Derived.Test.YtobmongmmnldpaaDoorTxA
import Derived.Deep.Slices
namespace Go.Proofs.YtobmongmmnldpaaDoor
open Go.ChangeShapes Go.WideShapes Go.ChangeAt Go.RowKit Go.Joins Go.Deep
open Go.ChangeMaps (open_string shut_string)

theorem Tryd.cellsLOut : Tryd.prog.cellsOf 39 = 4 := by kernel_rfl
theorem Tryd.cellsLRef : Tryd.prog.cellsOf 34 = 2 := by kernel_rfl
theorem Tryd.cellsInts : Tryd.prog.cellsOf 35 = 1 := by kernel_rfl

section
variable {H : Type} {enc : TypeId × Value → H} {W : World} {base : Nat} {spare : Nat → Bool} {held : Bool}

theorem open_out {fuel : Nat} {v0 v1 v2 v3 : Value} {x : DataW H × List MemPlace} (h : DataW.trod enc Tryd.prog W base spare held fuel 39 [v0, v1, v2, v3] = some x) :
    ∃ (o : Ou) (ka : Option Addr) (kn kc : Nat), v0 = .int .i64 o.v ∧ v1 = .slice ka kn kc ∧ v2 = .int .i64 o.x ∧ v3 = .int .i64 o.y ∧ kn ≤ maxLen ∧ IAt W ka kn o.l ∧ (Lit.int .i64 o.v).wf = true ∧ (∀ k ∈ o.l, (Lit.int .i64 k).wf = true) ∧ (Lit.int .i64 o.x).wf = true ∧ (Lit.int .i64 o.y).wf = true := by
  obtain ⟨xs, k, hk, hxy, _, hxl, hf⟩ := DataW.trod_struct Tryd.underlying39 h
  match xs, hxl with
  | [y0, y1], _ =>
    have g0 := hf 0 _ rfl
    have g1 := hf 1 _ rfl
    simp [Tryd.cellsI64, Tryd.cellsLRule] at g0 g1
    obtain ⟨p, e0, _, w0⟩ := DataW.trod_int Tryd.underlying2 g0
    obtain ⟨ys, k2, hk2, hxy2, _, hyl, hf2⟩ := DataW.trod_struct Tryd.underlying37 g1
    match ys, hyl with
    | [z0, z1, z2], _ =>
      have f0 := hf2 0 _ rfl
      have f1 := hf2 1 _ rfl
      have f2 := hf2 2 _ rfl
      simp [Tryd.cellsI64, Tryd.cellsInts] at f0 f1 f2
      obtain ⟨a, n, cap, l, rfl, hn, hI, hw⟩ := open_keys f0
      obtain ⟨q, e1, _, w1⟩ := DataW.trod_int Tryd.underlying2 f1
      obtain ⟨r, e2, _, w2⟩ := DataW.trod_int Tryd.underlying2 f2
      simp at e0 e1 e2
      exact ⟨⟨p, l, q, r⟩, a, n, cap, e0, rfl, e1, e2, hn, hI, w0, hw, w1, w2⟩

end

end Go.Proofs.YtobmongmmnldpaaDoor
