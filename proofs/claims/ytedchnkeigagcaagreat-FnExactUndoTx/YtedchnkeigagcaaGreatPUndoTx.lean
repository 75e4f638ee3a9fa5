/- Whatever coins, transaction, number and spent coins it is given, the law FnExactUndoTx returns true and leaves its arguments as they were: no condition. -/
import Derived.Test.YtedchnkeigagcaaGreatLUndoTx
import Derived.Test.YtedchnkeigagcaaGreatOpC
import Derived.Test.YtedchnkeigagcaaGreatOpT
import Derived.Test.YtedchnkeigagcaaGreatJf
import Derived.Carry
namespace Go.Proofs.YtedchnkeigagcaaGreat
open Go.ChangeShapes Go.WideShapes Go.ChangeAt Go.RowKit Go.Joins

set_option maxRecDepth 100000 in
theorem liftedUndoTx (os : Os) (started : os.Started) (H : Type) (enc : TypeId × Value → H) :
    ReturnsInHanded {} Tryz.checked os 3 .any (Rows.fnExactUndoTxSpec.pre6 enc Tryz.prog Tryz.f3 Rows.fnExactUndoTxRow.domain false) (Rows.fnExactUndoTxSpec.post enc Tryz.prog Tryz.f3 false true false false) := by
  refine returnsInHanded_of_change (C := Tryz.checked) Tryz.own started (by kernel_rfl) Tryz.func3
    (ChangeSpec.witness6 (enc := enc) (C := Tryz.checked) false ⟨#[], #[.slice none 0 0, .agg #[.int .i64 0, .int .i64 0, .slice none 0 0, .slice none 0 0], .int .i64 0, .slice none 0 0], []⟩ 8 (by kernel_rfl) (by kernel_rfl) (by kernel_rfl) (by kernel_rfl)) ?_
  intro W base args ds gs before hval0 hW hcnd _
  have hval : ∀ (j : Nat) t v, Tryz.f3.params[j]? = some t → args[j]? = some v → Value.okWide Tryz.prog W .any base t v := hval0
  have hW' := hW
  obtain ⟨p, q, hA0, hV, rfl, hfz, hnd⟩ := hW
  have hA : DataW.TrodAll enc Tryz.prog W 0 (fun _ => true) true Tryz.f3.params.toList args.toList ds p := hA0
  rw [Tryz.params3] at hA hval
  obtain ⟨v0, v1, v2, v3, d0, d1, d2, d3, p0, p1, p2, p3, rfl, rfl, rfl, h0, h1, h2, h3⟩ := trodAll_four hA
  obtain ⟨rfl, rfl⟩ := trodVars_none hV
  have k0 := h0
  have lt0 : ∀ x ∈ p0, x.block < W.heap.size := by obtain ⟨m, hm⟩ := k0; exact DataW.trod_lt m _ _ _ hm
  obtain ⟨a0, n0, c0, cs0, rfl, hn0, hC0, hF0⟩ := open_coinS (hval 0 22 v0 rfl rfl) h0
  have k1 := h1
  have lt1 : ∀ x ∈ p1, x.block < W.heap.size := by obtain ⟨m, hm⟩ := k1; exact DataW.trod_lt m _ _ _ hm
  obtain ⟨kk1, ff1, ia1, n1, c1, oa1, m1, dd1, rs1, os1, rfl, hn1, hm1, hwk1, hwf1, hfr1, hfo1, hT1⟩ := open_tx (hval 1 26 v1 rfl rfl) h1
  obtain ⟨x2, rfl, rfl, rfl, hx2⟩ := open_int Tryz.underlying2 (hval 2 2 v2 rfl rfl) h2
  have k3 := h3
  have lt3 : ∀ x ∈ p3, x.block < W.heap.size := by obtain ⟨m, hm⟩ := k3; exact DataW.trod_lt m _ _ _ hm
  obtain ⟨a3, n3, c3, cs3, rfl, hn3, hC3, hF3⟩ := open_coinS (hval 3 22 v3 rfl rfl) h3
  clear hA0 hval0
  refine (lawUndoTx n0 c0 n1 c1 m1 dd1 n3 c3 a0 ia1 oa1 a3 cs0 cs3 kk1 ff1 x2 rs1 os1 W hn0 hn1 hm1 hn3 hC0 hT1 hC3).mono fun e W' ⟨he, bel⟩ => ?_
  subst he
  exact ⟨_, rfl, _, _, _, [], _, [], hW', trodAll_mk1 (shut_bool Tryz.underlying4 _), trodAll_mk4 (Below.trod Tryz.laidOut (by kernel_rfl) (of_decide_eq_true (by kernel_rfl)) k0 bel lt0) (Below.trod Tryz.laidOut (by kernel_rfl) (of_decide_eq_true (by kernel_rfl)) k1 bel lt1) (shut_int Tryz.underlying2 hx2) (Below.trod Tryz.laidOut (by kernel_rfl) (of_decide_eq_true (by kernel_rfl)) k3 bel lt3), rfl, bel.frame _, fun h => by cases h⟩

set_option maxRecDepth 100000 in
set_option maxHeartbeats 4000000 in
theorem joinedUndoTx : joinedFacts Tryz.prog 3 Tryz.f3 Rows.fnExactUndoTxSpec Rows.fnExactUndoTxRow = true := by
  unfold joinedFacts
  repeat' (with_reducible refine (Bool.and_eq_true _ _).mpr ⟨?_, ?_⟩)
  rotate_left 24
  · exact Tryz.stopsHeardIs
  · exact Tryz.mayEnterIs
  · exact Tryz.lifts_of rfl
  all_goals (as_aux_lemma => kernel_rfl)

theorem undoTx_holds : Rows.FnExactUndoTxSaid :=
  OpenClaim.holds_of_wide 3 Tryz.f3 rfl rfl rfl rfl rfl rfl rfl ⟨rfl, rfl, rfl, rfl, rfl⟩ rfl rfl rfl rfl rfl (by kernel_rfl) Tryz.func3 joinedUndoTx
    (of_decide_eq_true (by kernel_rfl)) (by unfold Func.isWrapper; rw [if_neg (of_decide_eq_false (by kernel_rfl))]; exact ⟨rfl, rfl⟩)
    (fun os started H enc _ => liftedUndoTx os started H enc)

#print axioms undoTx_holds
end Go.Proofs.YtedchnkeigagcaaGreat
