/- PathTo: the program's and the specification's. -/
import Derived.Test.YtinlhghlmfcbfaaVb
import Derived.Test.YtinlhghlmfcbfaaNh
namespace Go.Proofs.Ytinlhghlmfcbfaa
open Go.RowKit Go.Maps Go.WideMaps

set_option maxRecDepth 20000 in
set_option maxHeartbeats 4000000 in
theorem iPathTo_any (n c : Nat) (ad : Option Addr) (ms : List Mb) (x : Int) (w : World) (_ : n ≤ 1048576) (hC : n ≤ c ∧ c ≤ maxLen ∧ MAt w ad n ms) (hF : FineN ms) (hx : (Lit.int .i64 x).wf = true) :
    Calls Try.prog 8 #[.slice ad n c, .int .i64 x] w fun e w' => OutIs w w' e (pathR ms x).1 (pathR ms x).2 := by
  have hbx : Below w.heap.size w (w.alloc (.cells #[.int .i64 0, .slice none 0 0] 32)) := below_box _
  have HBX : Hid (Below w.heap.size w (w.alloc (.cells #[.int .i64 0, .slice none 0 0] 32))) := hbx
  have HX : Hid ((w.alloc (.cells #[.int .i64 0, .slice none 0 0] 32)).heap[w.heap.size]? = some (.cells #[.int .i64 0, .slice none 0 0] 32 (0, 0))) := heap_alloc_new _ _
  have h := plant_any n c ad ms _ (hC.2.2.below hbx (Nat.le_refl _)) hF (Nat.le_trans hC.1 hC.2.1)
  obtain ⟨cd, hcd⟩ : ∃ x, x = treeR ms := ⟨_, rfl⟩
  rw [← hcd] at h
  by_cases h0 : cd = 0
  rotate_left
  · have e1 : pathR ms x = (cd, []) := by unfold pathR; rw [← hcd, if_pos h0]
    rw [e1]
    have hcn2 : (cd != 0) = true := by simpa using h0
    clear e1 hcd hC hbx hF
    go_enter Try.func8, Try.ntmps8
    go_wp2_with (go_at_call 19; (with_reducible refine h.mono ?_); clear h; rintro e w2 ⟨p, rfl, hb2, _⟩; have HB2 : Hid (Below w.heap.size w w2) := HBX.out.trans (hb2.mono HBX.out.size); have HX2 := keepb HX.out hb2; obtain ⟨x0, x1, f0, f1, _⟩ := res_cells HX2.out (Below.refl w2.heap.size _) (lt_of_block HX2.out); clear hb2)
    obtain ⟨_, s1, s2⟩ := two_set HX2.out (.int .i64 cd) (.slice none 0 0)
    exact bodyPost_ret (v := .agg #[.int .i64 cd, .slice none 0 0]) (by simp [results, Try.results8, go_sem, s1, s2]) rfl (outi_code (Nat.le_refl _) HB2.out)
  have HZ : Hid (treeR ms = 0) := by show _ = _; rw [← hcd]; exact h0
  have HW : Hid ((Lit.int .i64 x).wf = true) := hx
  subst h0
  by_cases hnone : x ≠ 0 ∧ nAt ms x < 0
  · have e1 : pathR ms x = (4, []) := by unfold pathR; rw [← hcd, if_neg (by simp), if_pos hnone]
    rw [e1]
    have hx0 : (x != 0) = true := by simpa using hnone.1
    have HNN : Hid (nAt ms x < 0) := hnone.2
    clear e1 hcd hC hbx hF hnone
    go_enter Try.func8, Try.ntmps8
    go_wp2_with (first
      | (go_at_call 19; (with_reducible refine h.mono ?_); clear h; rintro e w2 ⟨p, rfl, hb2, HP⟩; obtain ⟨G, B, s, bs, rfl, hG⟩ := HP.out.2 HZ.out; have hf := find_ptr HW.out hG (ptrOf_none HNN.out); clear hG HP; have HB2 : Hid (Below w.heap.size w w2) := HBX.out.trans (hb2.mono HBX.out.size); have HX2 := keepb HX.out hb2; obtain ⟨x0, x1, f0, f1, _⟩ := res_cells HX2.out (Below.refl w2.heap.size _) (lt_of_block HX2.out); clear hb2)
      | (go_at_call 23; (with_reducible refine hf.mono ?_); clear hf; rintro e w' ⟨rfl, hw⟩; have hw2 := hw.symm; subst hw2))
    obtain ⟨_, s1, s2⟩ := two_set HX2.out (.int .i64 4) (.slice none 0 0)
    exact bodyPost_ret (v := .agg #[.int .i64 4, .slice none 0 0]) (by simp [results, Try.results8, go_sem, s1, s2]) rfl (outi_code (Nat.le_refl _) HB2.out)
  obtain ⟨L, hL⟩ : ∃ L, L = pathF ms (ms.length + 1) x := ⟨_, rfl⟩
  have HL : Hid (L = pathF ms (ms.length + 1) x) := hL
  have e1 : pathR ms x = (0, L) := by unfold pathR; rw [← hcd, if_neg (by simp), if_neg hnone, hL]
  rw [e1]
  have hin : x = 0 ∨ 0 ≤ nAt ms x := by
    by_cases e : x = 0
    · exact .inl e
    · exact .inr (by have : ¬ nAt ms x < 0 := fun q => hnone ⟨e, q⟩; omega)
  have HIN : Hid (x = 0 ∨ 0 ≤ nAt ms x) := hin
  have key : ∀ w2 lo G B s bs, Gv w2 lo G B s ms bs → ∃ p, ptrOf ms bs x = .pointer p ∧ ((x != 0) = true → p.isNone = false) ∧ Calls Try.prog 24 #[.pointer p] w2 fun e w' => ∃ va vc, e = .returned (.slice va L.length vc) ∧ w'.ownsRow w2.heap.size 2 1 (.slice va L.length vc) L.length (ints L) ∧ Below w2.heap.size w2 w' := fun w2 lo G B s bs hG => by
    obtain ⟨p, hp⟩ := ptr_ex ms bs x
    refine ⟨p, hp, fun q => ?_, ?_⟩
    · have hx0 : x ≠ 0 := by simpa using q
      rw [ptr_blk (HIN.out.resolve_left hx0)] at hp
      cases hp
      rfl
    · have := path_any lo G B s ms bs x p w2 HZ.out hG hp HIN.out
      rw [← HL.out] at this
      exact this
  clear e1 hcd hC hbx hF hnone hL hin
  by_cases hx0 : x = 0
  · subst hx0
    go_enter Try.func8, Try.ntmps8
    go_wp2_with (first
      | (go_at_call 19; (with_reducible refine h.mono ?_); clear h; rintro e w2 ⟨p, rfl, hb2, HP⟩; obtain ⟨G, B, s, bs, rfl, hG⟩ := HP.out.2 HZ.out; obtain ⟨pp, hpp, _, hpath⟩ := key w2 _ G B s bs hG; have hf := find_ptr HW.out hG hpp; clear hG HP hpp key; have HB2 : Hid (Below w.heap.size w w2) := HBX.out.trans (hb2.mono HBX.out.size); have HX2 := keepb HX.out hb2; clear hb2)
      | (go_at_call 23; (with_reducible refine hf.mono ?_); clear hf; rintro e w' ⟨rfl, hw⟩; have hw2 := hw.symm; subst hw2)
      | (go_at_call 24; (with_reducible refine hpath.mono ?_); clear hpath; rintro e w3 ⟨va, vc, rfl, hO3, hb3⟩; have HO3 : Hid (w3.ownsRow w2.heap.size 2 1 (.slice va L.length vc) L.length (ints L)) := hO3; have HB3 : Hid (Below w.heap.size w w3) := HB2.out.trans (hb3.mono HB2.out.size); have HX3 := keepb HX2.out hb3; obtain ⟨x0, x1, f0, f1, _⟩ := res_cells HX3.out (Below.refl w3.heap.size _) (lt_of_block HX3.out); clear hb3 hO3))
    obtain ⟨_, s1, s2⟩ := two_set HX3.out (.int .i64 0) (.slice va L.length vc)
    exact bodyPost_ret (v := .agg #[.int .i64 0, .slice va L.length vc]) (by simp [results, Try.results8, go_sem, s1, s2]) rfl (outi_ints rfl (Nat.le_refl _) (lt_of_block HX2.out) HB3.out HO3.out)
  · have hx0n : (x != 0) = true := by simpa using hx0
    go_enter Try.func8, Try.ntmps8
    go_wp2_with (first
      | (go_at_call 19; (with_reducible refine h.mono ?_); clear h; rintro e w2 ⟨p, rfl, hb2, HP⟩; obtain ⟨G, B, s, bs, rfl, hG⟩ := HP.out.2 HZ.out; obtain ⟨pp, hpp, hpn, hpath⟩ := key w2 _ G B s bs hG; have hf := find_ptr HW.out hG hpp; have hpn2 := hpn hx0n; clear hG HP hpp key hpn; have HB2 : Hid (Below w.heap.size w w2) := HBX.out.trans (hb2.mono HBX.out.size); have HX2 := keepb HX.out hb2; clear hb2)
      | (go_at_call 23; (with_reducible refine hf.mono ?_); clear hf; rintro e w' ⟨rfl, hw⟩; have hw2 := hw.symm; subst hw2)
      | (go_at_call 24; (with_reducible refine hpath.mono ?_); clear hpath; rintro e w3 ⟨va, vc, rfl, hO3, hb3⟩; have HO3 : Hid (w3.ownsRow w2.heap.size 2 1 (.slice va L.length vc) L.length (ints L)) := hO3; have HB3 : Hid (Below w.heap.size w w3) := HB2.out.trans (hb3.mono HB2.out.size); have HX3 := keepb HX2.out hb3; obtain ⟨x0, x1, f0, f1, _⟩ := res_cells HX3.out (Below.refl w3.heap.size _) (lt_of_block HX3.out); clear hb3 hO3))
    obtain ⟨_, s1, s2⟩ := two_set HX3.out (.int .i64 0) (.slice va L.length vc)
    exact bodyPost_ret (v := .agg #[.int .i64 0, .slice va L.length vc]) (by simp [results, Try.results8, go_sem, s1, s2]) rfl (outi_ints rfl (Nat.le_refl _) (lt_of_block HX2.out) HB3.out HO3.out)

end Go.Proofs.Ytinlhghlmfcbfaa
