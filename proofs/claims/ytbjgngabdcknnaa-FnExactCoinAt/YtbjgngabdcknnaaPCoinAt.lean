/- Whatever coins and ref it is given, the law FnExactCoinAt returns true and leaves its arguments as they were: no condition. -/
import Derived.Test.YtbjgngabdcknnaaLCoinAt
import Derived.Test.YtbjgngabdcknnaaOpC
import Derived.Test.YtbjgngabdcknnaaJf
namespace Go.Proofs.Ytbjgngabdcknnaa
open Go.ChangeShapes Go.WideShapes Go.ChangeAt Go.RowKit Go.Joins

set_option maxRecDepth 100000 in
theorem liftedCoinAt (os : Os) (started : os.Started) (H : Type) (enc : TypeId × Value → H) :
    ReturnsInHanded {} Try.checked os 3 .any (Rows.fnExactCoinAtSpec.pre6 enc Try.prog Try.f3 Rows.fnExactCoinAtRow.domain false) (Rows.fnExactCoinAtSpec.post enc Try.prog Try.f3 false true false false) := by
  refine returnsInHanded_of_change (C := Try.checked) Try.own started (by kernel_rfl) Try.func3
    (ChangeSpec.witness6 (enc := enc) (C := Try.checked) false ⟨#[], #[.slice none 0 0, .agg #[.int .i64 0, .int .i64 0]], []⟩ 8 (by kernel_rfl) (by kernel_rfl) (by kernel_rfl) (by kernel_rfl)) ?_
  intro W base args ds gs before hval0 hW hcnd _
  have hval : ∀ (j : Nat) t v, Try.f3.params[j]? = some t → args[j]? = some v → Value.okWide Try.prog W .any base t v := hval0
  have hW' := hW
  obtain ⟨p, q, hA0, hV, rfl, hfz, hnd⟩ := hW
  have hA : DataW.TrodAll enc Try.prog W 0 (fun _ => true) true Try.f3.params.toList args.toList ds p := hA0
  rw [Try.params3] at hA hval
  obtain ⟨v0, v1, d0, d1, p0, p1, rfl, rfl, rfl, h0, h1⟩ := trodAll_two hA
  obtain ⟨rfl, rfl⟩ := trodVars_none hV
  have k0 := h0
  have lt0 : ∀ x ∈ p0, x.block < W.heap.size := by obtain ⟨m, hm⟩ := k0; exact DataW.trod_lt m _ _ _ hm
  obtain ⟨a0, n0, c0, cs0, rfl, hn0, hC0, hF0⟩ := open_coinS (hval 0 22 v0 rfl rfl) h0
  have k1 := h1
  have lt1 : ∀ x ∈ p1, x.block < W.heap.size := by obtain ⟨m, hm⟩ := k1; exact DataW.trod_lt m _ _ _ hm
  obtain ⟨e0, e1, y0, y1, kk, rfl, _, _, hy0, hy1⟩ := open_agg2 Try.underlying24 (by kernel_rfl) Try.cellsLRef (hval 1 24 v1 rfl rfl) h1
  obtain ⟨p9, q9, _, w9⟩ := DataW.trod_int Try.underlying2 hy0
  obtain ⟨p8, q8, _, w8⟩ := DataW.trod_int Try.underlying2 hy1
  simp at q9 q8
  subst q9 q8
  clear hA0 hval0
  refine (lawCoinAt n0 c0 a0 cs0 p9 p8 W hn0 w9 w8 hC0).mono fun e W' ⟨he, bel⟩ => ?_
  subst he
  exact ⟨_, rfl, _, _, _, [], _, [], hW', trodAll_mk1 (shut_bool Try.underlying4 _), trodAll_mk2 (Below.trod Try.laidOut (by kernel_rfl) (of_decide_eq_true (by kernel_rfl)) k0 bel lt0) (Below.trod Try.laidOut (by kernel_rfl) (of_decide_eq_true (by kernel_rfl)) k1 bel lt1), rfl, bel.frame _, fun h => by cases h⟩

set_option maxRecDepth 100000 in
set_option maxHeartbeats 4000000 in
theorem joinedCoinAt : joinedFacts Try.prog 3 Try.f3 Rows.fnExactCoinAtSpec Rows.fnExactCoinAtRow = true := by
  unfold joinedFacts
  repeat' (with_reducible refine (Bool.and_eq_true _ _).mpr ⟨?_, ?_⟩)
  rotate_left 24
  · exact Try.stopsHeardIs
  · exact Try.mayEnterIs
  · exact Try.lifts_of rfl
  all_goals (as_aux_lemma => kernel_rfl)

theorem coinAt_holds : Rows.FnExactCoinAtSaid :=
  OpenClaim.holds_of_wide 3 Try.f3 rfl rfl rfl rfl rfl rfl rfl ⟨rfl, rfl, rfl, rfl, rfl⟩ rfl rfl rfl rfl rfl (by kernel_rfl) Try.func3 joinedCoinAt
    (of_decide_eq_true (by kernel_rfl)) (by unfold Func.isWrapper; rw [if_neg (of_decide_eq_false (by kernel_rfl))]; exact ⟨rfl, rfl⟩)
    (fun os started H enc _ => liftedCoinAt os started H enc)

#print axioms coinAt_holds
end Go.Proofs.Ytbjgngabdcknnaa
