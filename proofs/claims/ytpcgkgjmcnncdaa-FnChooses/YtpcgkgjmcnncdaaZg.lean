/- ChooseFor: the specification's. -/
import Derived.Test.YtpcgkgjmcnncdaaZi
namespace Go.Proofs.Ytpcgkgjmcnncdaa
open Go.RowKit Go.Maps Go.WideMaps

/-- A voter that is copied, told with its row of choices. -/
def OutVo (w w' : World) (e : Ending) (k l : Int) (n : Nat) (ms : List Mb) : Prop :=
  ∃ va vc, e = .returned (.agg #[.int .i64 k, .int .i64 l, .slice va n vc]) ∧ w'.ownsRow w.heap.size 44 3 (.slice va n vc) n (mcells ms) ∧ Below w.heap.size w w'
theorem copy_end {w W : World} {B n vc : Nat} {va : Option Addr} {k l : Int} {ms : List Mb} (hB : w.heap.size ≤ B) (hb : Below w.heap.size w W) (hO : W.ownsRow (B + 1 + 1) 44 3 (.slice va n vc) n (mcells ms)) :
    OutVo w (((((W.setCell ⟨B, 2, none⟩ (.slice va n vc)).setCell ⟨B + 1, 0, none⟩ (.int .i64 k)).setCell ⟨B + 1, 1, none⟩ (.int .i64 l))).setCell ⟨B + 1, 2, none⟩ (.slice va n vc)) (.returned (.agg #[.int .i64 k, .int .i64 l, .slice va n vc])) k l n ms :=
  ⟨va, vc, rfl, Joins.ownsRow_le (row_set3 (ownsRow_setCell_below hO (a := ⟨B, 2, none⟩) (show B < B + 1 + 1 by omega) _) (by omega) _ _ _) (by omega), below_set3 (hb.setCell (p := ⟨B, 2, none⟩) hB _) (by omega) _ _ _⟩

set_option maxRecDepth 20000 in
set_option maxHeartbeats 2000000 in
theorem l11Copy_any (k l : Int) (a : Option Addr) (n cap : Nat) (ms : List Mb) (w : World) (hn : n ≤ 1048576) (hM : MAt w a n ms) :
    Calls Try.prog 33 #[.agg #[.int .i64 k, .int .i64 l, .slice a n cap]] w fun e w' => OutVo w w' e k l n ms := by
  obtain ⟨w1, hw1⟩ : ∃ W, W = ((w.alloc (.cells #[.int .i64 k, .int .i64 l, .slice a n cap] 26)).alloc (.cells #[.int .i64 0, .int .i64 0, .slice none 0 0] 26)).alloc (.cells #[] 44) := ⟨_, rfl⟩
  obtain ⟨t0, t1, t2, t3⟩ := three_blocks w (.cells #[.int .i64 k, .int .i64 l, .slice a n cap] 26) (.cells #[.int .i64 0, .int .i64 0, .slice none 0 0] 26) (.cells #[] 44)
  have hb : Below w.heap.size w w1 := by rw [hw1]; exact below_box3 _ _ _
  rw [← hw1] at t0 t1 t2 t3
  have HW1 : Hid (((w.alloc (.cells #[.int .i64 k, .int .i64 l, .slice a n cap] 26)).alloc (.cells #[.int .i64 0, .int .i64 0, .slice none 0 0] 26)).alloc (.cells #[] 44) = w1) := hw1.symm
  have HX0 : Hid _ := t0
  have HX1 : Hid _ := t1
  obtain ⟨va, vc, w3, hrun, HO, HB, HG⟩ : ∃ va vc w3, (Builtin.append_ #[24, 24] 24 #[.slice (some ⟨w.heap.size + 1 + 1, 0, none⟩) 0 0, .slice a n cap]).run Try.prog w1 = .ok (.slice va n vc) w3 ∧ Hid (w3.ownsRow (w.heap.size + 1 + 1) 44 3 (.slice va n vc) n (mcells ms)) ∧ Hid (Below w.heap.size w w3) ∧ Hid (w1.grownBy w3 (some (w.heap.size + 1 + 1))) := by
    by_cases h0 : n = 0
    · subst h0
      obtain rfl : ms = [] := List.length_eq_zero_iff.1 hM.1
      refine ⟨some ⟨w.heap.size + 1 + 1, 0, none⟩, 0, w1, ?_, own_emptyV t2 (Nat.le_refl _), hb, ⟨rfl, rfl, rfl, Nat.le_refl _, fun _ _ _ => rfl⟩⟩
      cases a <;> kernel_rfl
    · obtain ⟨b, off, rfl⟩ : ∃ b off, a = some ⟨b, off, none⟩ := by
        rcases hM.2 with h | ⟨b, off, e, _⟩
        · exact absurd h h0
        · exact ⟨b, off, e⟩
      exact chos_one (c := cap) t2 hb (by omega) (hM.below hb (Nat.le_refl _)) hn
  have e0 : w3.heap[w.heap.size]? = some (.cells #[.int .i64 k, .int .i64 l, .slice a n cap] 26 (0, 0)) := (HG.out.block _ (by omega) (by simp; omega)).trans t0
  have e1 : w3.heap[w.heap.size + 1]? = some (.cells #[.int .i64 0, .int .i64 0, .slice none 0 0] 26 (0, 0)) := (HG.out.block _ (by omega) (by simp)).trans t1
  obtain ⟨b0, b1, b2⟩ := cells3 e0
  obtain ⟨c0, c1, c2⟩ := cells3 e1
  have HE1 : Hid _ := e1
  have f2 := Joins.unfrozen_of_block e0 2
  have g0 := Joins.unfrozen_of_block e1 0
  have g1 := Joins.unfrozen_of_block e1 1
  have g2 := Joins.unfrozen_of_block e1 2
  rw [hw1] at hrun
  clear hM t0 t1 t2 t3 hb hw1 e0 e1
  go_enter Try.func33, Try.ntmps33
  go_wp2_with (first | (at_builtin; go_must (refine wpList_append_runV (by rfl) _ _ _ (by rfl) (by rfl) (by rfl) hrun ?_); clear hrun))
  have hq := (Below.heap_setCell w3 ⟨w.heap.size, 2, none⟩ (.slice va n vc) (w.heap.size + 1) (show w.heap.size + 1 ≠ w.heap.size by omega)).trans HE1.out
  obtain ⟨s0, s1, s2⟩ := cells3 (set3 hq (.int .i64 k) (.int .i64 l) (.slice va n vc))
  exact bodyPost_ret (v := .agg #[.int .i64 k, .int .i64 l, .slice va n vc]) (by simp [results, Try.results33, go_sem, s0, s1, s2]) rfl (copy_end (Nat.le_refl _) HB.out HO.out)

theorem cho_addedX {w1 w2 : World} {R n vc X : Nat} {va : Option Addr} {k l p q t : Int} {ms : List Mb} (h : UAt w1 w2 R k l va n vc ms) (hn : n ≤ 1048576) (hX : X = w2.heap.size) :
    ∃ va' vc' v1, (Builtin.append_ #[24, 24] 24 #[.slice va n vc, .slice (some ⟨X, 0, none⟩) 1 1]).run Try.prog (w2.alloc (.cells #[.int .i64 p, .int .i64 q, .int .i64 t] 44)) = .ok (.slice va' (n + 1) vc') v1 ∧ Hid (v1.heap[R]? = some (.cells #[.int .i64 k, .int .i64 l, .slice va n vc] 26 (0, 0))) ∧
      Hid (UAt w1 (v1.setCell ⟨R, 2, none⟩ (.slice va' (n + 1) vc')) R k l va' (n + 1) vc' (ms ++ [(p, q, t)])) := by
  subst hX
  exact cho_added h hn
theorem vr_keepC {w V w4 : World} {R m vc : Nat} {va : Option Addr} {c : Int} {v : Vo} {k l : Int} {ms : List Mb} (hm : ms.length = m) (hO : Hid (w4.ownsRow V.heap.size 44 3 (.slice va m vc) m (mcells ms))) (h : w.heap.size ≤ R ∧ R < V.heap.size ∧ Below w.heap.size w w4) :
    OutVr w (((((((((((w4.setCell ⟨R, 0, none⟩ (.int .i64 c)).setCell ⟨R, 1, none⟩ (.int .i64 v.k)).setCell ⟨R, 2, none⟩ (.int .i64 v.d)).setCell ⟨R, 3, none⟩ (.int .i64 v.b)).setCell ⟨R, 4, none⟩ (.int .i64 v.p)).setCell ⟨R, 5, none⟩ (.int .i64 v.q)).setCell ⟨R, 6, none⟩ (.int .i64 v.t)).setCell ⟨R, 7, none⟩ (.int .i64 k)).setCell ⟨R, 8, none⟩ (.int .i64 l)).setCell ⟨R, 9, none⟩ (.slice va m vc))) (.returned (.agg #[.int .i64 c, .int .i64 v.k, .int .i64 v.d, .int .i64 v.b, .int .i64 v.p, .int .i64 v.q, .int .i64 v.t, .int .i64 k, .int .i64 l, .slice va m vc])) ⟨c, v, k, l, ms⟩ := by
  subst hm
  exact ⟨va, vc, rfl, Joins.ownsRow_le (row_set10V hO.out h.2.1 _ _ _ _ _ _ _ _ _ _) (by omega), below_set10V h.2.2 h.1 _ _ _ _ _ _ _ _ _ _⟩

set_option maxRecDepth 20000 in
set_option maxHeartbeats 4000000 in
theorem l11Choose_any (k l p q t : Int) (a : Option Addr) (n cap : Nat) (ms : List Mb) (w : World) (hC : MAt w a n ms) (hz : voterR k l ms = 0) (hgd : goodC (p, q, t) = true) :
    Calls Try.prog 19 #[.agg #[.int .i64 k, .int .i64 l, .slice a n cap], .agg #[.int .i64 p, .int .i64 q], .int .i64 t] w fun e w' => OutVr w w' e (chooseR k l ms p q t) := by
  obtain ⟨w1, hw1⟩ : ∃ W, W = (((w.alloc (.cells #[.int .i64 k, .int .i64 l, .slice a n cap] 26)).alloc (.cells #[.int .i64 p, .int .i64 q] 28)).alloc (.cells #[.int .i64 0, .int .i64 0, .int .i64 0, .int .i64 0, .int .i64 0, .int .i64 0, .int .i64 0, .int .i64 0, .int .i64 0, .slice none 0 0] 34)) := ⟨_, rfl⟩
  have HW1 : Hid (w1 = (((w.alloc (.cells #[.int .i64 k, .int .i64 l, .slice a n cap] 26)).alloc (.cells #[.int .i64 p, .int .i64 q] 28)).alloc (.cells #[.int .i64 0, .int .i64 0, .int .i64 0, .int .i64 0, .int .i64 0, .int .i64 0, .int .i64 0, .int .i64 0, .int .i64 0, .slice none 0 0] 34))) := hw1
  have HBL : Hid (Below w.heap.size w w1) := by rw [hw1]; exact below_box3 _ _ _
  obtain ⟨t0, t1, t2, t3⟩ := three_blocks w (.cells #[.int .i64 k, .int .i64 l, .slice a n cap] 26) (.cells #[.int .i64 p, .int .i64 q] 28) (.cells #[.int .i64 0, .int .i64 0, .int .i64 0, .int .i64 0, .int .i64 0, .int .i64 0, .int .i64 0, .int .i64 0, .int .i64 0, .slice none 0 0] 34)
  rw [← hw1] at t0 t1 t2 t3
  have HX0 : Hid _ := t0
  have HX1 : Hid _ := t1
  have HX2 : Hid _ := t2
  have HSZ : Hid _ := t3
  have HC : Hid (MAt w1 a n ms) := hC.below HBL.out (Nat.le_refl _)
  have HN : Hid (ms.length = n) := hC.1
  have hok := voterR_ok hz
  have hn40 : n ≤ 40 := by rw [← HN.out]; exact hok.2.2.1
  have hat := l11At_any w.heap.size n cap a ms k l p q w1 (by unfold maxLen; omega) HC.out t0
  have HCP : Hid (∀ w2, Below w1.heap.size w1 w2 → Calls Try.prog 33 #[.agg #[.int .i64 k, .int .i64 l, .slice a n cap]] w2 fun e w' => OutVo w2 w' e k l n ms) := fun w2 hb2 => l11Copy_any k l a n cap ms w2 (by omega) (HC.out.below hb2 (Nat.le_refl _))
  have hcR : chooseR k l ms p q t = if hasRf ms p q = true then (if txOf p q ms = t then ⟨0, ⟨k, 2, 0, p, q, t⟩, k, l, ms⟩ else vrBad 7) else if 40 ≤ ms.length then vrBad 2 else ⟨0, ⟨k, 2, 0, p, q, t⟩, k, l, ms ++ [(p, q, t)]⟩ := by
    unfold chooseR
    rw [if_neg (by rw [hz]; simp), if_neg (by rw [hgd]; simp)]
  have HN1 : Hid ((ms ++ [(p, q, t)]).length = n + 1) := by show _ = _; rw [List.length_append, HN.out]; rfl
  clear hok hz hgd t0 t1 t2 t3
  cases hh : hasRf ms p q
  · have e0 : chIx p q 0 ms = -1 := chIx_no hh
    rw [e0, hw1] at hat
    rw [hh, if_neg (by simp)] at hcR
    by_cases h40 : 40 ≤ n
    · rw [if_pos (by rw [HN.out]; exact h40)] at hcR
      rw [hcR]
      have hki : (40 : Int) ≤ (n : Int) := by omega
      clear hcR hh e0 hw1 hC
      go_enter Try.func19, Try.ntmps19
      go_wp2_with (first
        | (go_at_call 32; (with_reducible refine hat.mono ?_); clear hat; rintro e w2 ⟨rfl, hb2⟩; rw [← HW1.out] at hb2; have HB2 : Hid (Below w1.heap.size w1 w2) := hb2; obtain ⟨b0, b1, b2⟩ := cells3 (keepb HX0.out hb2).out; have hcp := HCP.out w2 hb2; clear hb2)
        | (go_at_call 33; (with_reducible refine hcp.mono ?_); clear hcp; rintro e w3 ⟨va, vc, rfl, hO, hb3⟩; have HU2 : Hid (UAt w2 (w3.alloc (.cells #[.int .i64 k, .int .i64 l, .slice va n vc] 26)) w3.heap.size k l va n vc ms) := ⟨hb3.size, hb3.trans ((below_box _).mono hb3.size), heap_alloc_new _ _, hO.alloc _⟩; have HB4 : Hid (Below w1.heap.size w1 (w3.alloc (.cells #[.int .i64 k, .int .i64 l, .slice va n vc] 26))) := HB2.out.trans (HU2.out.bel.mono HB2.out.size); obtain ⟨d0, d1, d2⟩ := cells3 (keepb HX0.out HB4.out).out; obtain ⟨m0, m1, m2⟩ := cells3 HU2.out.blk; have HR3 := keepb HX2.out HB4.out; obtain ⟨y0, y1, y2, y3, y4, y5, y6, y7, y8, y9⟩ := cells10V HR3.out; have f0 := Joins.unfrozen_of_block HR3.out 0; have f1 := Joins.unfrozen_of_block HR3.out 1; have f2 := Joins.unfrozen_of_block HR3.out 2; have f3 := Joins.unfrozen_of_block HR3.out 3; have f4 := Joins.unfrozen_of_block HR3.out 4; have f5 := Joins.unfrozen_of_block HR3.out 5; have f6 := Joins.unfrozen_of_block HR3.out 6; have f7 := Joins.unfrozen_of_block HR3.out 7; have f8 := Joins.unfrozen_of_block HR3.out 8; have f9 := Joins.unfrozen_of_block HR3.out 9; clear hO hb3))
      obtain ⟨s0, s1, s2, s3, s4, s5, s6, s7, s8, s9⟩ := cells10V (set10V10 HR3.out (.int .i64 2) (.int .i64 0) (.int .i64 0) (.int .i64 0) (.int .i64 0) (.int .i64 0) (.int .i64 0) (.int .i64 0) (.int .i64 0) (.slice none 0 0))
      exact bodyPost_ret (v := .agg #[.int .i64 2, .int .i64 0, .int .i64 0, .int .i64 0, .int .i64 0, .int .i64 0, .int .i64 0, .int .i64 0, .int .i64 0, .slice none 0 0]) (by simp [results, Try.results19, go_sem, s0, s1, s2, s3, s4, s5, s6, s7, s8, s9]) rfl (vr_code HR3 ⟨by omega, HBL.out.trans (HB4.out.mono HBL.out.size)⟩)
    · rw [if_neg (by rw [HN.out]; exact h40)] at hcR
      rw [hcR]
      have hki : ¬ (40 : Int) ≤ (n : Int) := by omega
      clear hcR hh e0 hw1 hC
      go_enter Try.func19, Try.ntmps19
      go_wp2_with (first
        | (go_at_call 32; (with_reducible refine hat.mono ?_); clear hat; rintro e w2 ⟨rfl, hb2⟩; rw [← HW1.out] at hb2; have HB2 : Hid (Below w1.heap.size w1 w2) := hb2; obtain ⟨b0, b1, b2⟩ := cells3 (keepb HX0.out hb2).out; have hcp := HCP.out w2 hb2; clear hb2)
        | (go_at_call 33; (with_reducible refine hcp.mono ?_); clear hcp; rintro e w3 ⟨va, vc, rfl, hO, hb3⟩; have HU2 : Hid (UAt w2 (w3.alloc (.cells #[.int .i64 k, .int .i64 l, .slice va n vc] 26)) w3.heap.size k l va n vc ms) := ⟨hb3.size, hb3.trans ((below_box _).mono hb3.size), heap_alloc_new _ _, hO.alloc _⟩; have HB4 : Hid (Below w1.heap.size w1 (w3.alloc (.cells #[.int .i64 k, .int .i64 l, .slice va n vc] 26))) := HB2.out.trans (HU2.out.bel.mono HB2.out.size); obtain ⟨d0, d1, d2⟩ := cells3 (keepb HX0.out HB4.out).out; obtain ⟨m0, m1, m2⟩ := cells3 HU2.out.blk; obtain ⟨i0, i1⟩ := cells2 (keepb HX1.out HB4.out).out; obtain ⟨va', vc', v1, hrun, HBK1, HU3⟩ := cho_addedX (X := w3.heap.size + 1) (p := p) (q := q) (t := t) HU2.out (by omega) (by simp); obtain ⟨o0, o1, o2⟩ := cells3 HBK1.out; have fz := Joins.unfrozen_of_block HBK1.out 2; have HB5 : Hid (Below w1.heap.size w1 (v1.setCell ⟨w3.heap.size, 2, none⟩ (.slice va' (n + 1) vc'))) := HB2.out.trans (HU3.out.bel.mono HB2.out.size); obtain ⟨u0, u1, u2⟩ := cells3 (keepb HX0.out HB5.out).out; obtain ⟨k0, k1⟩ := cells2 (keepb HX1.out HB5.out).out; obtain ⟨n0, n1, n2⟩ := cells3 HU3.out.blk; have HR3 := keepb HX2.out HB5.out; obtain ⟨y0, y1, y2, y3, y4, y5, y6, y7, y8, y9⟩ := cells10V HR3.out; have f0 := Joins.unfrozen_of_block HR3.out 0; have f1 := Joins.unfrozen_of_block HR3.out 1; have f2 := Joins.unfrozen_of_block HR3.out 2; have f3 := Joins.unfrozen_of_block HR3.out 3; have f4 := Joins.unfrozen_of_block HR3.out 4; have f5 := Joins.unfrozen_of_block HR3.out 5; have f6 := Joins.unfrozen_of_block HR3.out 6; have f7 := Joins.unfrozen_of_block HR3.out 7; have f8 := Joins.unfrozen_of_block HR3.out 8; have f9 := Joins.unfrozen_of_block HR3.out 9; clear hO hb3)
        | (at_builtin; go_must (refine wpList_append_runV (by rfl) _ _ _ (by rfl) (by rfl) (by rfl) hrun ?_); clear hrun))
      obtain ⟨s0, s1, s2, s3, s4, s5, s6, s7, s8, s9⟩ := cells10V (set10V10 HR3.out (.int .i64 0) (.int .i64 k) (.int .i64 2) (.int .i64 0) (.int .i64 p) (.int .i64 q) (.int .i64 t) (.int .i64 k) (.int .i64 l) (.slice va' (n + 1) vc'))
      exact bodyPost_ret (v := .agg #[.int .i64 0, .int .i64 k, .int .i64 2, .int .i64 0, .int .i64 p, .int .i64 q, .int .i64 t, .int .i64 k, .int .i64 l, .slice va' (n + 1) vc']) (by simp [results, Try.results19, go_sem, s0, s1, s2, s3, s4, s5, s6, s7, s8, s9]) rfl (vr_keep (V := w2) (v := ⟨k, 2, 0, p, q, t⟩) HN1.out HU3.out.row ⟨by omega, by have := HB2.out.size; have := HSZ.out; omega, HBL.out.trans (HB5.out.mono HBL.out.size)⟩)
  · obtain ⟨j, h1, h2, h3, h4⟩ := chIx_has (t := []) hh
    have e0 : chIx p q 0 ms = (j : Int) := by have := h2 0; rw [List.append_nil, Nat.zero_add] at this; exact this
    rw [e0, hw1] at hat
    rw [hh, if_pos rfl] at hcR
    have hjn : j < n := by rw [← HN.out]; exact h1
    obtain ⟨b, off, ha, hb, hc⟩ : ∃ b off, a = some ⟨b, off, none⟩ ∧ b < w1.heap.size ∧ w1.cell? ⟨b, off + j * 3 + 2, none⟩ = some (.int .i64 (txOf p q ms)) := by
      rcases HC.out.2 with h0 | ⟨b, off, ha, hb, hc⟩
      · omega
      · exact ⟨b, off, ha, hb, by rw [(hc j hjn).2.2, h3]⟩
    subst ha
    obtain ⟨tx, htx⟩ : ∃ x, x = txOf p q ms := ⟨_, rfl⟩
    rw [← htx] at hc hcR
    have HCJ : Hid (b < w1.heap.size ∧ w1.cell? ⟨b, off + j * 3 + 2, none⟩ = some (.int .i64 tx)) := ⟨hb, hc⟩
    have hki : (j : Int) < (n : Int) := by omega
    have hji : (0 : Int) ≤ (j : Int) := by omega
    have hjl : ¬ (j : Int) < 0 := by omega
    by_cases he : tx = t
    · rw [if_pos he] at hcR
      rw [hcR]
      have hn1 : (tx != t) = false := by simpa using he
      clear hcR hh e0 hw1 hC he h1 h2 h3 h4 hc hb htx
      go_enter Try.func19, Try.ntmps19
      go_wp2_with (first
        | (go_at_call 32; (with_reducible refine hat.mono ?_); clear hat; rintro e w2 ⟨rfl, hb2⟩; rw [← HW1.out] at hb2; have HB2 : Hid (Below w1.heap.size w1 w2) := hb2; obtain ⟨b0, b1, b2⟩ := cells3 (keepb HX0.out hb2).out; have x2 := (hb2.cell (p := ⟨b, off + j * 3 + 2, none⟩) HCJ.out.1).trans HCJ.out.2; have hcp := HCP.out w2 hb2; clear hb2)
        | (go_at_call 33; (with_reducible refine hcp.mono ?_); clear hcp; rintro e w3 ⟨va, vc, rfl, hO, hb3⟩; have HU2 : Hid (UAt w2 (w3.alloc (.cells #[.int .i64 k, .int .i64 l, .slice va n vc] 26)) w3.heap.size k l va n vc ms) := ⟨hb3.size, hb3.trans ((below_box _).mono hb3.size), heap_alloc_new _ _, hO.alloc _⟩; have HB4 : Hid (Below w1.heap.size w1 (w3.alloc (.cells #[.int .i64 k, .int .i64 l, .slice va n vc] 26))) := HB2.out.trans (HU2.out.bel.mono HB2.out.size); obtain ⟨d0, d1, d2⟩ := cells3 (keepb HX0.out HB4.out).out; obtain ⟨m0, m1, m2⟩ := cells3 HU2.out.blk; obtain ⟨i0, i1⟩ := cells2 (keepb HX1.out HB4.out).out; have HR3 := keepb HX2.out HB4.out; obtain ⟨y0, y1, y2, y3, y4, y5, y6, y7, y8, y9⟩ := cells10V HR3.out; have f0 := Joins.unfrozen_of_block HR3.out 0; have f1 := Joins.unfrozen_of_block HR3.out 1; have f2 := Joins.unfrozen_of_block HR3.out 2; have f3 := Joins.unfrozen_of_block HR3.out 3; have f4 := Joins.unfrozen_of_block HR3.out 4; have f5 := Joins.unfrozen_of_block HR3.out 5; have f6 := Joins.unfrozen_of_block HR3.out 6; have f7 := Joins.unfrozen_of_block HR3.out 7; have f8 := Joins.unfrozen_of_block HR3.out 8; have f9 := Joins.unfrozen_of_block HR3.out 9; clear hO hb3))
      obtain ⟨s0, s1, s2, s3, s4, s5, s6, s7, s8, s9⟩ := cells10V (set10V10 HR3.out (.int .i64 0) (.int .i64 k) (.int .i64 2) (.int .i64 0) (.int .i64 p) (.int .i64 q) (.int .i64 t) (.int .i64 k) (.int .i64 l) (.slice va n vc))
      exact bodyPost_ret (v := .agg #[.int .i64 0, .int .i64 k, .int .i64 2, .int .i64 0, .int .i64 p, .int .i64 q, .int .i64 t, .int .i64 k, .int .i64 l, .slice va n vc]) (by simp [results, Try.results19, go_sem, s0, s1, s2, s3, s4, s5, s6, s7, s8, s9]) rfl (vr_keep (V := w2) (v := ⟨k, 2, 0, p, q, t⟩) HN.out HU2.out.row ⟨by omega, by have := HB2.out.size; have := HSZ.out; omega, HBL.out.trans (HB4.out.mono HBL.out.size)⟩)
    · rw [if_neg he] at hcR
      rw [hcR]
      have hn1 : (tx != t) = true := by simpa using he
      clear hcR hh e0 hw1 hC he h1 h2 h3 h4 hc hb htx
      go_enter Try.func19, Try.ntmps19
      go_wp2_with (first
        | (go_at_call 32; (with_reducible refine hat.mono ?_); clear hat; rintro e w2 ⟨rfl, hb2⟩; rw [← HW1.out] at hb2; have HB2 : Hid (Below w1.heap.size w1 w2) := hb2; obtain ⟨b0, b1, b2⟩ := cells3 (keepb HX0.out hb2).out; have x2 := (hb2.cell (p := ⟨b, off + j * 3 + 2, none⟩) HCJ.out.1).trans HCJ.out.2; have HR3 := keepb HX2.out hb2; obtain ⟨y0, y1, y2, y3, y4, y5, y6, y7, y8, y9⟩ := cells10V HR3.out; have f0 := Joins.unfrozen_of_block HR3.out 0; have f1 := Joins.unfrozen_of_block HR3.out 1; have f2 := Joins.unfrozen_of_block HR3.out 2; have f3 := Joins.unfrozen_of_block HR3.out 3; have f4 := Joins.unfrozen_of_block HR3.out 4; have f5 := Joins.unfrozen_of_block HR3.out 5; have f6 := Joins.unfrozen_of_block HR3.out 6; have f7 := Joins.unfrozen_of_block HR3.out 7; have f8 := Joins.unfrozen_of_block HR3.out 8; have f9 := Joins.unfrozen_of_block HR3.out 9; clear hb2))
      obtain ⟨s0, s1, s2, s3, s4, s5, s6, s7, s8, s9⟩ := cells10V (set10V10 HR3.out (.int .i64 7) (.int .i64 0) (.int .i64 0) (.int .i64 0) (.int .i64 0) (.int .i64 0) (.int .i64 0) (.int .i64 0) (.int .i64 0) (.slice none 0 0))
      exact bodyPost_ret (v := .agg #[.int .i64 7, .int .i64 0, .int .i64 0, .int .i64 0, .int .i64 0, .int .i64 0, .int .i64 0, .int .i64 0, .int .i64 0, .slice none 0 0]) (by simp [results, Try.results19, go_sem, s0, s1, s2, s3, s4, s5, s6, s7, s8, s9]) rfl (vr_code HR3 ⟨by omega, HBL.out.trans (HB2.out.mono HBL.out.size)⟩)

set_option maxRecDepth 20000 in
set_option maxHeartbeats 4000000 in
theorem sChooseFor_any (k l p q t : Int) (a : Option Addr) (n cap : Nat) (ms : List Mb) (w : World) (hl : n ≤ maxLen) (hC : MAt w a n ms) :
    Calls Try.prog 7 #[.agg #[.int .i64 k, .int .i64 l, .slice a n cap], .agg #[.int .i64 p, .int .i64 q], .int .i64 t] w fun e w' => OutVr w w' e (chooseR k l ms p q t) := by
  obtain ⟨w1, hw1⟩ : ∃ W, W = (((w.alloc (.cells #[.int .i64 k, .int .i64 l, .slice a n cap] 26)).alloc (.cells #[.int .i64 p, .int .i64 q] 28)).alloc (.cells #[.int .i64 0, .int .i64 0, .int .i64 0, .int .i64 0, .int .i64 0, .int .i64 0, .int .i64 0, .int .i64 0, .int .i64 0, .slice none 0 0] 34)) := ⟨_, rfl⟩
  have HW1 : Hid (w1 = (((w.alloc (.cells #[.int .i64 k, .int .i64 l, .slice a n cap] 26)).alloc (.cells #[.int .i64 p, .int .i64 q] 28)).alloc (.cells #[.int .i64 0, .int .i64 0, .int .i64 0, .int .i64 0, .int .i64 0, .int .i64 0, .int .i64 0, .int .i64 0, .int .i64 0, .slice none 0 0] 34))) := hw1
  have HBL : Hid (Below w.heap.size w w1) := by rw [hw1]; exact below_box3 _ _ _
  obtain ⟨t0, t1, t2, t3⟩ := three_blocks w (.cells #[.int .i64 k, .int .i64 l, .slice a n cap] 26) (.cells #[.int .i64 p, .int .i64 q] 28) (.cells #[.int .i64 0, .int .i64 0, .int .i64 0, .int .i64 0, .int .i64 0, .int .i64 0, .int .i64 0, .int .i64 0, .int .i64 0, .slice none 0 0] 34)
  rw [← hw1] at t0 t1 t2 t3
  have HX0 : Hid _ := t0
  have HX1 : Hid _ := t1
  have HX2 : Hid _ := t2
  have HSZ : Hid _ := t3
  have HC : Hid (MAt w1 a n ms) := hC.below HBL.out (Nat.le_refl _)
  have hF := l11Fault_any w.heap.size n cap a ms k l w1 hl HC.out t0
  obtain ⟨cd, hcd⟩ : ∃ x, x = voterR k l ms := ⟨_, rfl⟩
  rw [← hcd, hw1] at hF
  clear hC t0 t1 t2 t3 hw1
  by_cases h0 : cd = 0
  rotate_left
  · have e1 : chooseR k l ms p q t = vrBad cd := by rw [hcd]; exact chooseR_bad (by rw [← hcd]; exact h0)
    rw [e1]
    have hcn : (cd != 0) = true := by simpa using h0
    clear e1 hcd h0
    go_enter Try.func7, Try.ntmps7
    go_wp2_with (go_at_call 16; (with_reducible refine hF.mono ?_); clear hF; rintro e w2 ⟨rfl, hb2⟩; rw [← HW1.out] at hb2; have HR3 := keepb HX2.out hb2; obtain ⟨y0, y1, y2, y3, y4, y5, y6, y7, y8, y9⟩ := cells10V HR3.out; have f0 := Joins.unfrozen_of_block HR3.out 0; have f1 := Joins.unfrozen_of_block HR3.out 1; have f2 := Joins.unfrozen_of_block HR3.out 2; have f3 := Joins.unfrozen_of_block HR3.out 3; have f4 := Joins.unfrozen_of_block HR3.out 4; have f5 := Joins.unfrozen_of_block HR3.out 5; have f6 := Joins.unfrozen_of_block HR3.out 6; have f7 := Joins.unfrozen_of_block HR3.out 7; have f8 := Joins.unfrozen_of_block HR3.out 8; have f9 := Joins.unfrozen_of_block HR3.out 9; have HB2 : Hid (Below w.heap.size w w2) := HBL.out.trans (hb2.mono HBL.out.size); clear hb2)
    obtain ⟨s0, s1, s2, s3, s4, s5, s6, s7, s8, s9⟩ := cells10V (set10V10 HR3.out (.int .i64 cd) (.int .i64 0) (.int .i64 0) (.int .i64 0) (.int .i64 0) (.int .i64 0) (.int .i64 0) (.int .i64 0) (.int .i64 0) (.slice none 0 0))
    exact bodyPost_ret (v := .agg #[.int .i64 cd, .int .i64 0, .int .i64 0, .int .i64 0, .int .i64 0, .int .i64 0, .int .i64 0, .int .i64 0, .int .i64 0, .slice none 0 0]) (by simp [results, Try.results7, go_sem, s0, s1, s2, s3, s4, s5, s6, s7, s8, s9]) rfl (vr_code HR3 ⟨by omega, HB2.out⟩)
  have HZ : Hid (voterR k l ms = 0) := by show _ = _; rw [← hcd]; exact h0
  subst h0
  clear hcd
  obtain ⟨kr, hkr⟩ : ∃ b, b = refB (p, q) := ⟨_, rfl⟩
  obtain ⟨kt, hkt⟩ : ∃ b, b = inB t 1 60 := ⟨_, rfl⟩
  have HRF : Hid (∀ v, Calls Try.prog 17 #[.agg #[.int .i64 p, .int .i64 q]] v fun e w' => e = .returned (.bool kr) ∧ Below v.heap.size v w') := fun v => by rw [hkr]; exact l3Ref_any _ _ v
  have hW3 : ∀ v, Calls Try.prog 18 #[.int .i64 t] v fun e w' => e = .returned (.bool kt) ∧ w' = v := fun v => by rw [hkt]; exact l11Tx_any _ v
  have HGG : Hid (goodC (p, q, t) = (kr && kt)) := by show _ = _; rw [hkr, hkt]; rfl
  clear hkr hkt
  have hbad : (kr && kt) = false → chooseR k l ms p q t = vrBad 3 := fun h => by
    unfold chooseR
    rw [if_neg (by rw [HZ.out]; simp), if_pos (by rw [HGG.out]; exact h)]
  cases kr
  · rw [hbad rfl]
    clear hbad
    go_enter Try.func7, Try.ntmps7
    go_wp2_with (first
      | (go_at_call 16; (with_reducible refine hF.mono ?_); clear hF; rintro e w2 ⟨rfl, hb2⟩; rw [← HW1.out] at hb2; have HB2 : Hid (Below w1.heap.size w1 w2) := hb2; obtain ⟨c0, c1⟩ := cells2 (keepb HX1.out hb2).out; have hrf := HRF.out w2; clear hb2)
      | (go_at_call 17; (with_reducible refine hrf.mono ?_); clear hrf; rintro e w3 ⟨rfl, hb3⟩; have HB3 : Hid (Below w1.heap.size w1 w3) := HB2.out.trans (hb3.mono HB2.out.size); have HR3 := keepb HX2.out HB3.out; obtain ⟨y0, y1, y2, y3, y4, y5, y6, y7, y8, y9⟩ := cells10V HR3.out; have f0 := Joins.unfrozen_of_block HR3.out 0; have f1 := Joins.unfrozen_of_block HR3.out 1; have f2 := Joins.unfrozen_of_block HR3.out 2; have f3 := Joins.unfrozen_of_block HR3.out 3; have f4 := Joins.unfrozen_of_block HR3.out 4; have f5 := Joins.unfrozen_of_block HR3.out 5; have f6 := Joins.unfrozen_of_block HR3.out 6; have f7 := Joins.unfrozen_of_block HR3.out 7; have f8 := Joins.unfrozen_of_block HR3.out 8; have f9 := Joins.unfrozen_of_block HR3.out 9; clear hb3))
    obtain ⟨s0, s1, s2, s3, s4, s5, s6, s7, s8, s9⟩ := cells10V (set10V10 HR3.out (.int .i64 3) (.int .i64 0) (.int .i64 0) (.int .i64 0) (.int .i64 0) (.int .i64 0) (.int .i64 0) (.int .i64 0) (.int .i64 0) (.slice none 0 0))
    exact bodyPost_ret (v := .agg #[.int .i64 3, .int .i64 0, .int .i64 0, .int .i64 0, .int .i64 0, .int .i64 0, .int .i64 0, .int .i64 0, .int .i64 0, .slice none 0 0]) (by simp [results, Try.results7, go_sem, s0, s1, s2, s3, s4, s5, s6, s7, s8, s9]) rfl (vr_code HR3 ⟨by omega, HBL.out.trans (HB3.out.mono HBL.out.size)⟩)
  cases kt
  · rw [hbad rfl]
    clear hbad
    go_enter Try.func7, Try.ntmps7
    go_wp2_with (first
      | (go_at_call 16; (with_reducible refine hF.mono ?_); clear hF; rintro e w2 ⟨rfl, hb2⟩; rw [← HW1.out] at hb2; have HB2 : Hid (Below w1.heap.size w1 w2) := hb2; obtain ⟨c0, c1⟩ := cells2 (keepb HX1.out hb2).out; have hrf := HRF.out w2; clear hb2)
      | (go_at_call 18; refine (hW3 _).mono ?_; rintro e w' ⟨rfl, hw⟩; have hw2 := hw.symm; subst hw2)
      | (go_at_call 17; (with_reducible refine hrf.mono ?_); clear hrf; rintro e w3 ⟨rfl, hb3⟩; have HB3 : Hid (Below w1.heap.size w1 w3) := HB2.out.trans (hb3.mono HB2.out.size); have HR3 := keepb HX2.out HB3.out; obtain ⟨y0, y1, y2, y3, y4, y5, y6, y7, y8, y9⟩ := cells10V HR3.out; have f0 := Joins.unfrozen_of_block HR3.out 0; have f1 := Joins.unfrozen_of_block HR3.out 1; have f2 := Joins.unfrozen_of_block HR3.out 2; have f3 := Joins.unfrozen_of_block HR3.out 3; have f4 := Joins.unfrozen_of_block HR3.out 4; have f5 := Joins.unfrozen_of_block HR3.out 5; have f6 := Joins.unfrozen_of_block HR3.out 6; have f7 := Joins.unfrozen_of_block HR3.out 7; have f8 := Joins.unfrozen_of_block HR3.out 8; have f9 := Joins.unfrozen_of_block HR3.out 9; clear hb3))
    obtain ⟨s0, s1, s2, s3, s4, s5, s6, s7, s8, s9⟩ := cells10V (set10V10 HR3.out (.int .i64 3) (.int .i64 0) (.int .i64 0) (.int .i64 0) (.int .i64 0) (.int .i64 0) (.int .i64 0) (.int .i64 0) (.int .i64 0) (.slice none 0 0))
    exact bodyPost_ret (v := .agg #[.int .i64 3, .int .i64 0, .int .i64 0, .int .i64 0, .int .i64 0, .int .i64 0, .int .i64 0, .int .i64 0, .int .i64 0, .slice none 0 0]) (by simp [results, Try.results7, go_sem, s0, s1, s2, s3, s4, s5, s6, s7, s8, s9]) rfl (vr_code HR3 ⟨by omega, HBL.out.trans (HB3.out.mono HBL.out.size)⟩)
  clear hbad
  obtain ⟨r, hr⟩ : ∃ r, r = chooseR k l ms p q t := ⟨_, rfl⟩
  have HCH : Hid (∀ v, Below w1.heap.size w1 v → Calls Try.prog 19 #[.agg #[.int .i64 k, .int .i64 l, .slice a n cap], .agg #[.int .i64 p, .int .i64 q], .int .i64 t] v fun e w' => OutVr v w' e r) := fun v hv => by
    rw [hr]
    exact l11Choose_any k l p q t a n cap ms v (HC.out.below hv (Nat.le_refl _)) HZ.out (by rw [HGG.out]; rfl)
  rw [← hr]
  clear hr
  obtain ⟨rc, rv, rk, rl, rm⟩ := r
  obtain ⟨m, hm⟩ : ∃ m, m = rm.length := ⟨_, rfl⟩
  have HML : Hid (rm.length = m) := hm.symm
  clear hm
  go_enter Try.func7, Try.ntmps7
  go_wp2_with (first
    | (go_at_call 16; (with_reducible refine hF.mono ?_); clear hF; rintro e w2 ⟨rfl, hb2⟩; rw [← HW1.out] at hb2; have HB2 : Hid (Below w1.heap.size w1 w2) := hb2; obtain ⟨c0, c1⟩ := cells2 (keepb HX1.out hb2).out; have hrf := HRF.out w2; clear hb2)
    | (go_at_call 18; refine (hW3 _).mono ?_; rintro e w' ⟨rfl, hw⟩; have hw2 := hw.symm; subst hw2)
    | (go_at_call 17; (with_reducible refine hrf.mono ?_); clear hrf; rintro e w3 ⟨rfl, hb3⟩; have HB3 : Hid (Below w1.heap.size w1 w3) := HB2.out.trans (hb3.mono HB2.out.size); obtain ⟨d0, d1, d2⟩ := cells3 (keepb HX0.out HB3.out).out; obtain ⟨e0, e1⟩ := cells2 (keepb HX1.out HB3.out).out; have hch := HCH.out w3 HB3.out; clear hb3)
    | (go_at_call 19; (with_reducible refine hch.mono ?_); clear hch; rintro e w4 ⟨va, vc, rfl, hO, hb4⟩; simp only [HML.out] at hO ⊢; have HO : Hid (w4.ownsRow w3.heap.size 44 3 (.slice va m vc) m (mcells rm)) := hO; have HB4 : Hid (Below w1.heap.size w1 w4) := HB3.out.trans (hb4.mono HB3.out.size); have HR3 := keepb HX2.out HB4.out; obtain ⟨y0, y1, y2, y3, y4, y5, y6, y7, y8, y9⟩ := cells10V HR3.out; have f0 := Joins.unfrozen_of_block HR3.out 0; have f1 := Joins.unfrozen_of_block HR3.out 1; have f2 := Joins.unfrozen_of_block HR3.out 2; have f3 := Joins.unfrozen_of_block HR3.out 3; have f4 := Joins.unfrozen_of_block HR3.out 4; have f5 := Joins.unfrozen_of_block HR3.out 5; have f6 := Joins.unfrozen_of_block HR3.out 6; have f7 := Joins.unfrozen_of_block HR3.out 7; have f8 := Joins.unfrozen_of_block HR3.out 8; have f9 := Joins.unfrozen_of_block HR3.out 9; clear hO hb4))
  obtain ⟨s0, s1, s2, s3, s4, s5, s6, s7, s8, s9⟩ := cells10V (set10V10 HR3.out (.int .i64 rc) (.int .i64 rv.k) (.int .i64 rv.d) (.int .i64 rv.b) (.int .i64 rv.p) (.int .i64 rv.q) (.int .i64 rv.t) (.int .i64 rk) (.int .i64 rl) (.slice va m vc))
  exact bodyPost_ret (v := .agg #[.int .i64 rc, .int .i64 rv.k, .int .i64 rv.d, .int .i64 rv.b, .int .i64 rv.p, .int .i64 rv.q, .int .i64 rv.t, .int .i64 rk, .int .i64 rl, .slice va m vc]) (by simp [results, Try.results7, go_sem, s0, s1, s2, s3, s4, s5, s6, s7, s8, s9]) rfl (vr_keepC HML.out HO ⟨by omega, by have := HB3.out.size; have := HSZ.out; omega, HBL.out.trans (HB4.out.mono HBL.out.size)⟩)

end Go.Proofs.Ytpcgkgjmcnncdaa
