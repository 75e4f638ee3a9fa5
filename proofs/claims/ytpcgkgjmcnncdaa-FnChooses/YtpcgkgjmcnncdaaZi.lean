/- What keeps a voter from choosing: the program's code; ChooseFor and NewVoter: the program's. -/
import Derived.Test.YtpcgkgjmcnncdaaZh
namespace Go.Proofs.Ytpcgkgjmcnncdaa
open Go.RowKit Go.Maps Go.WideMaps

/-- What is told with a code alone. -/
theorem vr_code {w W : World} {R : Nat} {c : Int} {cs : Array Value} (_H : Hid (W.heap[R]? = some (.cells cs 34 (0, 0)))) (h : w.heap.size ≤ R ∧ Below w.heap.size w W) :
    OutVr w (((((((((((W.setCell ⟨R, 0, none⟩ (.int .i64 c)).setCell ⟨R, 1, none⟩ (.int .i64 0)).setCell ⟨R, 2, none⟩ (.int .i64 0)).setCell ⟨R, 3, none⟩ (.int .i64 0)).setCell ⟨R, 4, none⟩ (.int .i64 0)).setCell ⟨R, 5, none⟩ (.int .i64 0)).setCell ⟨R, 6, none⟩ (.int .i64 0)).setCell ⟨R, 7, none⟩ (.int .i64 0)).setCell ⟨R, 8, none⟩ (.int .i64 0)).setCell ⟨R, 9, none⟩ (.slice none 0 0))) (.returned (.agg #[.int .i64 c, .int .i64 0, .int .i64 0, .int .i64 0, .int .i64 0, .int .i64 0, .int .i64 0, .int .i64 0, .int .i64 0, .slice none 0 0])) (vrBad c) :=
  ⟨none, 0, rfl, World.ownsRow_nil _ _ _ _, below_set10V h.2 h.1 _ _ _ _ _ _ _ _ _ _⟩

def chooseC (ms : List Mb) (p q t : Int) : Int :=
  if goodC (p, q, t) = false then 3 else if hasRf ms p q = true then (if txOf p q ms = t then 0 else 7) else if 40 ≤ ms.length then 2 else 0

set_option maxHeartbeats 2000000 in
theorem vChooseFault_any (k l p q t : Int) (a : Option Addr) (n cap : Nat) (ms : List Mb) (w : World) (hl : n ≤ maxLen) (hC : MAt w a n ms) (hg : ∀ x ∈ ms, goodC x = true) :
    Calls Try.prog 14 #[.agg #[.int .i64 k, .int .i64 l, .slice a n cap], .agg #[.int .i64 p, .int .i64 q, .int .i64 t]] w fun e w' => e = .returned (.int .i64 (chooseC ms p q t)) ∧ Below w.heap.size w w' := by
  have HBX : Hid (Below w.heap.size w ((w.alloc (.cells #[.int .i64 k, .int .i64 l, .slice a n cap] 26)).alloc (.cells #[.int .i64 p, .int .i64 q, .int .i64 t] 44))) := below_box2 _ _
  have HX0 : Hid (((w.alloc (.cells #[.int .i64 k, .int .i64 l, .slice a n cap] 26)).alloc (.cells #[.int .i64 p, .int .i64 q, .int .i64 t] 44)).heap[w.heap.size]? = some (.cells #[.int .i64 k, .int .i64 l, .slice a n cap] 26 (0, 0))) := block_at2
  have HX1 : Hid (((w.alloc (.cells #[.int .i64 k, .int .i64 l, .slice a n cap] 26)).alloc (.cells #[.int .i64 p, .int .i64 q, .int .i64 t] 44)).heap[w.heap.size + 1]? = some (.cells #[.int .i64 p, .int .i64 q, .int .i64 t] 44 (0, 0))) := heap_alloc_at _ _ _ (by simp)
  have HC : Hid (MAt w a n ms) := hC
  have HN : Hid (ms.length = n) := hC.1
  have HML : Hid (n ≤ maxLen) := hl
  obtain ⟨kg, hkg⟩ : ∃ b, b = goodC (p, q, t) := ⟨_, rfl⟩
  have hR := chRight_any p q t ((w.alloc (.cells #[.int .i64 k, .int .i64 l, .slice a n cap] 26)).alloc (.cells #[.int .i64 p, .int .i64 q, .int .i64 t] 44))
  rw [← hkg] at hR
  have HKG : Hid (kg = goodC (p, q, t)) := hkg
  obtain ⟨r, hr⟩ : ∃ r, r = chooseC ms p q t := ⟨_, rfl⟩
  rw [← hr]
  have HR : Hid (r = chooseC ms p q t) := hr
  have HG : Hid (∀ x ∈ ms, goodC x = true) := hg
  unfold maxLen at hl
  clear hC hkg hr hg
  cases kg
  · obtain rfl : r = 3 := by rw [HR.out]; unfold chooseC; rw [if_pos HKG.out.symm]
    go_enter Try.func14, Try.ntmps14
    go_wp2_with (go_at_call 25; (with_reducible refine hR.mono ?_); clear hR; rintro e w2 ⟨rfl, hb2⟩)
    go_ret
    exact ⟨rfl, HBX.out.trans (hb2.mono HBX.out.size)⟩
  have HR1 : Hid (r = if hasRf ms p q = true then (if txOf p q ms = t then 0 else 7) else if 40 ≤ ms.length then 2 else 0) := by show _ = _; rw [HR.out]; unfold chooseC; rw [if_neg (by rw [← HKG.out]; simp)]
  clear HR
  obtain ⟨tx, htx⟩ : ∃ x, x = txOf p q ms := ⟨_, rfl⟩
  have HTX : Hid (txOf p q ms = tx) := htx.symm
  have HT : Hid (∀ v, Below ((w.alloc (.cells #[.int .i64 k, .int .i64 l, .slice a n cap] 26)).alloc (.cells #[.int .i64 p, .int .i64 q, .int .i64 t] 44)).heap.size ((w.alloc (.cells #[.int .i64 k, .int .i64 l, .slice a n cap] 26)).alloc (.cells #[.int .i64 p, .int .i64 q, .int .i64 t] 44)) v → Calls Try.prog 26 #[.slice a n cap, .agg #[.int .i64 p, .int .i64 q]] v fun e w' => e = .returned (.int .i64 tx) ∧ Below v.heap.size v w') := fun v hv => by
    have := txChosen_any n cap a ms p q v HML.out (HC.out.below (HBX.out.trans (hv.mono HBX.out.size)) (Nat.le_refl _))
    rw [HTX.out] at this
    exact this
  clear htx
  by_cases hz : tx = 0
  · subst hz
    have hno : hasRf ms p q = false := (txOf_zero HG.out).1 HTX.out
    by_cases h40 : 40 ≤ n
    · obtain rfl : r = 2 := by rw [HR1.out, if_neg (by rw [hno]; simp), if_pos (by rw [HN.out]; exact h40)]
      have hki : (40 : Int) ≤ (n : Int) := by omega
      clear hno
      go_enter Try.func14, Try.ntmps14
      go_wp2_with (first
        | (go_at_call 25; (with_reducible refine hR.mono ?_); clear hR; rintro e w2 ⟨rfl, hb2⟩; obtain ⟨b0, b1, b2⟩ := cells3 (keepb HX0.out hb2).out; obtain ⟨c0, c1, c2⟩ := cells3 (keepb HX1.out hb2).out; have hT := HT.out w2 hb2)
        | (go_at_call 26; (with_reducible refine hT.mono ?_); clear hT; rintro e w3 ⟨rfl, hb3⟩; obtain ⟨d0, d1, d2⟩ := cells3 (keepb (keepb HX0.out hb2).out hb3).out; obtain ⟨e0, e1, e2⟩ := cells3 (keepb (keepb HX1.out hb2).out hb3).out))
      go_ret
      exact ⟨rfl, HBX.out.trans ((hb2.trans (hb3.mono hb2.size)).mono HBX.out.size)⟩
    · obtain rfl : r = 0 := by rw [HR1.out, if_neg (by rw [hno]; simp), if_neg (by rw [HN.out]; exact h40)]
      have hki : ¬ (40 : Int) ≤ (n : Int) := by omega
      clear hno
      go_enter Try.func14, Try.ntmps14
      go_wp2_with (first
        | (go_at_call 25; (with_reducible refine hR.mono ?_); clear hR; rintro e w2 ⟨rfl, hb2⟩; obtain ⟨b0, b1, b2⟩ := cells3 (keepb HX0.out hb2).out; obtain ⟨c0, c1, c2⟩ := cells3 (keepb HX1.out hb2).out; have hT := HT.out w2 hb2)
        | (go_at_call 26; (with_reducible refine hT.mono ?_); clear hT; rintro e w3 ⟨rfl, hb3⟩; obtain ⟨d0, d1, d2⟩ := cells3 (keepb (keepb HX0.out hb2).out hb3).out; obtain ⟨e0, e1, e2⟩ := cells3 (keepb (keepb HX1.out hb2).out hb3).out))
      go_ret
      exact ⟨rfl, HBX.out.trans ((hb2.trans (hb3.mono hb2.size)).mono HBX.out.size)⟩
  · have hyes : hasRf ms p q = true := by
      cases hh : hasRf ms p q
      · exact absurd (HTX.out.symm.trans (txOf_no hh)) hz
      · rfl
    have hn1 : (tx != 0) = true := by simpa using hz
    have hn2 : (tx == 0) = false := by simpa using hz
    by_cases ht : tx = t
    · obtain rfl : r = 0 := by rw [HR1.out, if_pos hyes, HTX.out, if_pos ht]
      have hn3 : (tx != t) = false := by simpa using ht
      clear hyes hz ht
      go_enter Try.func14, Try.ntmps14
      go_wp2_with (first
        | (go_at_call 25; (with_reducible refine hR.mono ?_); clear hR; rintro e w2 ⟨rfl, hb2⟩; obtain ⟨b0, b1, b2⟩ := cells3 (keepb HX0.out hb2).out; obtain ⟨c0, c1, c2⟩ := cells3 (keepb HX1.out hb2).out; have hT := HT.out w2 hb2)
        | (go_at_call 26; (with_reducible refine hT.mono ?_); clear hT; rintro e w3 ⟨rfl, hb3⟩; obtain ⟨d0, d1, d2⟩ := cells3 (keepb (keepb HX0.out hb2).out hb3).out; obtain ⟨e0, e1, e2⟩ := cells3 (keepb (keepb HX1.out hb2).out hb3).out))
      go_ret
      exact ⟨rfl, HBX.out.trans ((hb2.trans (hb3.mono hb2.size)).mono HBX.out.size)⟩
    · obtain rfl : r = 7 := by rw [HR1.out, if_pos hyes, HTX.out, if_neg ht]
      have hn3 : (tx != t) = true := by simpa using ht
      clear hyes hz ht
      go_enter Try.func14, Try.ntmps14
      go_wp2_with (first
        | (go_at_call 25; (with_reducible refine hR.mono ?_); clear hR; rintro e w2 ⟨rfl, hb2⟩; obtain ⟨b0, b1, b2⟩ := cells3 (keepb HX0.out hb2).out; obtain ⟨c0, c1, c2⟩ := cells3 (keepb HX1.out hb2).out; have hT := HT.out w2 hb2)
        | (go_at_call 26; (with_reducible refine hT.mono ?_); clear hT; rintro e w3 ⟨rfl, hb3⟩; obtain ⟨d0, d1, d2⟩ := cells3 (keepb (keepb HX0.out hb2).out hb3).out; obtain ⟨e0, e1, e2⟩ := cells3 (keepb (keepb HX1.out hb2).out hb3).out))
      go_ret
      exact ⟨rfl, HBX.out.trans ((hb2.trans (hb3.mono hb2.size)).mono HBX.out.size)⟩

theorem chooseR_bad {k l p q t : Int} {ms : List Mb} (h : voterR k l ms ≠ 0) : chooseR k l ms p q t = vrBad (voterR k l ms) := by unfold chooseR; rw [if_pos h]
theorem chooseR_code {k l p q t : Int} {ms : List Mb} (h : voterR k l ms = 0) (hc : chooseC ms p q t ≠ 0) : chooseR k l ms p q t = vrBad (chooseC ms p q t) := by
  unfold chooseR
  rw [if_neg (by rw [h]; simp)]
  unfold chooseC at hc ⊢
  by_cases h1 : goodC (p, q, t) = false
  · rw [if_pos h1, if_pos h1]
  · rw [if_neg h1] at hc
    rw [if_neg h1, if_neg h1]
    by_cases h2 : hasRf ms p q = true
    · rw [if_pos h2] at hc
      rw [if_pos h2, if_pos h2]
      by_cases h3 : txOf p q ms = t
      · rw [if_pos h3] at hc; exact absurd rfl hc
      · rw [if_neg h3, if_neg h3]
    · rw [if_neg h2] at hc
      rw [if_neg h2, if_neg h2]
      by_cases h3 : 40 ≤ ms.length
      · rw [if_pos h3, if_pos h3]
      · rw [if_neg h3] at hc; exact absurd rfl hc
theorem hasRf_mem {p q t : Int} {ms : List Mb} (h : (p, q, t) ∈ ms) : hasRf ms p q = true := by
  unfold hasRf
  rw [List.any_eq_true]
  exact ⟨_, h, by simp [matR]⟩
theorem mem_hasRf {p q : Int} {ms : List Mb} (h : hasRf ms p q = true) : (p, q, txOf p q ms) ∈ ms := by
  obtain ⟨j, h1, _, h3, h4⟩ := chIx_has (t := []) h
  have e : ms.getD j Z3 = ms[j] := by simp [List.getD, h1]
  rw [e] at h3 h4
  have hm : ms[j] ∈ ms := List.getElem_mem h1
  rcases hx : ms[j] with ⟨g1, g2, g3⟩
  rw [hx] at h3 h4 hm
  simp only [matR, Bool.and_eq_true, beq_iff_eq] at h4
  simp only at h3
  rw [← h3, ← h4.1, ← h4.2]
  exact hm
theorem chooseR_had {k l p q t : Int} {ms : List Mb} (h : voterR k l ms = 0) (hc : chooseC ms p q t = 0) (hm : (p, q, t) ∈ ms) : chooseR k l ms p q t = ⟨0, ⟨k, 2, 0, p, q, t⟩, k, l, ms⟩ := by
  unfold chooseR
  rw [if_neg (by rw [h]; simp)]
  unfold chooseC at hc
  by_cases h1 : goodC (p, q, t) = false
  · rw [if_pos h1] at hc; cases hc
  · rw [if_neg h1] at hc
    rw [if_pos (hasRf_mem hm)] at hc
    rw [if_neg h1, if_pos (hasRf_mem hm)]
    by_cases h3 : txOf p q ms = t
    · rw [if_pos h3]
    · rw [if_neg h3] at hc; cases hc
theorem chooseR_new {k l p q t : Int} {ms : List Mb} (h : voterR k l ms = 0) (hc : chooseC ms p q t = 0) (hm : (p, q, t) ∉ ms) : chooseR k l ms p q t = ⟨0, ⟨k, 2, 0, p, q, t⟩, k, l, ms ++ [(p, q, t)]⟩ := by
  unfold chooseR
  rw [if_neg (by rw [h]; simp)]
  unfold chooseC at hc
  by_cases h1 : goodC (p, q, t) = false
  · rw [if_pos h1] at hc; cases hc
  · rw [if_neg h1] at hc
    rw [if_neg h1]
    by_cases h2 : hasRf ms p q = true
    · rw [if_pos h2] at hc
      by_cases h3 : txOf p q ms = t
      · exact absurd (h3 ▸ mem_hasRf h2) hm
      · rw [if_neg h3] at hc; cases hc
    · rw [if_neg h2] at hc
      rw [if_neg h2]
      by_cases h3 : 40 ≤ ms.length
      · rw [if_pos h3] at hc; cases hc
      · rw [if_neg h3]

theorem vr_keep {w V w4 : World} {R m vc : Nat} {va : Option Addr} {v : Vo} {k l : Int} {ms : List Mb} (hm : ms.length = m) (hO : Hid (w4.ownsRow V.heap.size 44 3 (.slice va m vc) m (mcells ms))) (h : w.heap.size ≤ R ∧ R < V.heap.size ∧ Below w.heap.size w w4) :
    OutVr w (((((((((((w4.setCell ⟨R, 0, none⟩ (.int .i64 0)).setCell ⟨R, 1, none⟩ (.int .i64 v.k)).setCell ⟨R, 2, none⟩ (.int .i64 v.d)).setCell ⟨R, 3, none⟩ (.int .i64 v.b)).setCell ⟨R, 4, none⟩ (.int .i64 v.p)).setCell ⟨R, 5, none⟩ (.int .i64 v.q)).setCell ⟨R, 6, none⟩ (.int .i64 v.t)).setCell ⟨R, 7, none⟩ (.int .i64 k)).setCell ⟨R, 8, none⟩ (.int .i64 l)).setCell ⟨R, 9, none⟩ (.slice va m vc))) (.returned (.agg #[.int .i64 0, .int .i64 v.k, .int .i64 v.d, .int .i64 v.b, .int .i64 v.p, .int .i64 v.q, .int .i64 v.t, .int .i64 k, .int .i64 l, .slice va m vc])) ⟨0, v, k, l, ms⟩ := by
  subst hm
  exact ⟨va, vc, rfl, Joins.ownsRow_le (row_set10V hO.out h.2.1 _ _ _ _ _ _ _ _ _ _) (by omega), below_set10V h.2.2 h.1 _ _ _ _ _ _ _ _ _ _⟩

set_option maxRecDepth 20000 in
set_option maxHeartbeats 4000000 in
theorem iChooseFor_any (k l p q t : Int) (a : Option Addr) (n cap : Nat) (ms : List Mb) (w : World) (hcap : n ≤ cap) (hl : n ≤ maxLen) (hC : MAt w a n ms) :
    Calls Try.prog 6 #[.agg #[.int .i64 k, .int .i64 l, .slice a n cap], .agg #[.int .i64 p, .int .i64 q], .int .i64 t] w fun e w' => OutVr w w' e (chooseR k l ms p q t) := by
  obtain ⟨w1, hw1⟩ : ∃ W, W = (((w.alloc (.cells #[.int .i64 k, .int .i64 l, .slice a n cap] 26)).alloc (.cells #[.int .i64 p, .int .i64 q] 28)).alloc (.cells #[.int .i64 0, .int .i64 0, .int .i64 0, .int .i64 0, .int .i64 0, .int .i64 0, .int .i64 0, .int .i64 0, .int .i64 0, .slice none 0 0] 34)) := ⟨_, rfl⟩
  have HW1 : Hid (w1 = (((w.alloc (.cells #[.int .i64 k, .int .i64 l, .slice a n cap] 26)).alloc (.cells #[.int .i64 p, .int .i64 q] 28)).alloc (.cells #[.int .i64 0, .int .i64 0, .int .i64 0, .int .i64 0, .int .i64 0, .int .i64 0, .int .i64 0, .int .i64 0, .int .i64 0, .slice none 0 0] 34))) := hw1
  have HBL : Hid (Below w.heap.size w w1) := by rw [hw1]; exact below_box3 _ _ _
  obtain ⟨t0, t1, t2, t3⟩ := three_blocks w (.cells #[.int .i64 k, .int .i64 l, .slice a n cap] 26) (.cells #[.int .i64 p, .int .i64 q] 28) (.cells #[.int .i64 0, .int .i64 0, .int .i64 0, .int .i64 0, .int .i64 0, .int .i64 0, .int .i64 0, .int .i64 0, .int .i64 0, .slice none 0 0] 34)
  rw [← hw1] at t0 t1 t2 t3
  have HX0 : Hid _ := t0
  have HX1 : Hid _ := t1
  have HX2 : Hid _ := t2
  have HSZ : Hid _ := t3
  have HC : Hid (MAt w1 a n ms) := hC.below HBL.out (Nat.le_refl _)
  have HN : Hid (ms.length = n) := hC.1
  have hF := iVoterFault_any n cap a ms k l w1 hcap hl HC.out
  obtain ⟨cd, hcd⟩ : ∃ x, x = voterR k l ms := ⟨_, rfl⟩
  rw [← hcd, hw1] at hF
  clear hC t0 t1 t2 t3 hw1
  by_cases h0 : cd = 0
  rotate_left
  · have e1 : chooseR k l ms p q t = vrBad cd := by rw [hcd]; exact chooseR_bad (by rw [← hcd]; exact h0)
    rw [e1]
    have hcn : (cd != 0) = true := by simpa using h0
    clear e1 hcd h0
    go_enter Try.func6, Try.ntmps6
    go_wp2_with (go_at_call 9; (with_reducible refine hF.mono ?_); clear hF; rintro e w2 ⟨rfl, hb2⟩; rw [← HW1.out] at hb2; have HR3 := keepb HX2.out hb2; obtain ⟨y0, y1, y2, y3, y4, y5, y6, y7, y8, y9⟩ := cells10V HR3.out; have f0 := Joins.unfrozen_of_block HR3.out 0; have f1 := Joins.unfrozen_of_block HR3.out 1; have f2 := Joins.unfrozen_of_block HR3.out 2; have f3 := Joins.unfrozen_of_block HR3.out 3; have f4 := Joins.unfrozen_of_block HR3.out 4; have f5 := Joins.unfrozen_of_block HR3.out 5; have f6 := Joins.unfrozen_of_block HR3.out 6; have f7 := Joins.unfrozen_of_block HR3.out 7; have f8 := Joins.unfrozen_of_block HR3.out 8; have f9 := Joins.unfrozen_of_block HR3.out 9; have HB2 : Hid (Below w.heap.size w w2) := HBL.out.trans (hb2.mono HBL.out.size); clear hb2)
    obtain ⟨s0, s1, s2, s3, s4, s5, s6, s7, s8, s9⟩ := cells10V (set10V10 HR3.out (.int .i64 cd) (.int .i64 0) (.int .i64 0) (.int .i64 0) (.int .i64 0) (.int .i64 0) (.int .i64 0) (.int .i64 0) (.int .i64 0) (.slice none 0 0))
    exact bodyPost_ret (v := .agg #[.int .i64 cd, .int .i64 0, .int .i64 0, .int .i64 0, .int .i64 0, .int .i64 0, .int .i64 0, .int .i64 0, .int .i64 0, .slice none 0 0]) (by simp [results, Try.results6, go_sem, s0, s1, s2, s3, s4, s5, s6, s7, s8, s9]) rfl (vr_code HR3 ⟨by omega, HB2.out⟩)
  have HZ : Hid (voterR k l ms = 0) := by show _ = _; rw [← hcd]; exact h0
  subst h0
  clear hcd
  have hok := voterR_ok HZ.out
  have hn40 : n ≤ 40 := by rw [← HN.out]; exact hok.2.2.1
  have HGD : Hid (∀ x ∈ ms, goodC x = true) := hok.2.2.2
  clear hok
  obtain ⟨cc, hcc⟩ : ∃ x, x = chooseC ms p q t := ⟨_, rfl⟩
  have HCC : Hid (chooseC ms p q t = cc) := hcc.symm
  clear hcc
  have HBX2 : Hid (∀ w2, Below w1.heap.size w1 w2 → Below w.heap.size w (w2.alloc (.cells #[.int .i64 p, .int .i64 q, .int .i64 t] 44))) := fun w2 hb2 => (HBL.out.trans (hb2.mono HBL.out.size)).trans ((below_box _).mono (Nat.le_trans HBL.out.size hb2.size))
  have HCF : Hid (∀ w2, Below w1.heap.size w1 w2 → Calls Try.prog 14 #[.agg #[.int .i64 k, .int .i64 l, .slice a n cap], .agg #[.int .i64 p, .int .i64 q, .int .i64 t]] (w2.alloc (.cells #[.int .i64 p, .int .i64 q, .int .i64 t] 44)) fun e w' => e = .returned (.int .i64 cc) ∧ Below (w2.alloc (.cells #[.int .i64 p, .int .i64 q, .int .i64 t] 44)).heap.size (w2.alloc (.cells #[.int .i64 p, .int .i64 q, .int .i64 t] 44)) w') := fun w2 hb2 => by
    have := vChooseFault_any k l p q t a n cap ms (w2.alloc (.cells #[.int .i64 p, .int .i64 q, .int .i64 t] 44)) hl ((HC.out.below hb2 (Nat.le_refl _)).below (below_box _) (Nat.le_refl _)) HGD.out
    rw [HCC.out] at this
    exact this
  have HK : Hid (∀ w2 w3, Below w1.heap.size w1 w2 → Below (w2.alloc (.cells #[.int .i64 p, .int .i64 q, .int .i64 t] 44)).heap.size (w2.alloc (.cells #[.int .i64 p, .int .i64 q, .int .i64 t] 44)) w3 → Below w1.heap.size w1 w3 ∧ w3.heap[w2.heap.size]? = some (.cells #[.int .i64 p, .int .i64 q, .int .i64 t] 44 (0, 0))) := fun w2 w3 hb2 hb3 => ⟨hb2.trans (((below_box _).trans (hb3.mono (by simp))).mono hb2.size), (keepb (heap_alloc_new w2 (.cells #[.int .i64 p, .int .i64 q, .int .i64 t] 44)) hb3).out⟩
  by_cases h1 : cc = 0
  rotate_left
  · have e1 : chooseR k l ms p q t = vrBad cc := by rw [chooseR_code HZ.out (by rw [HCC.out]; exact h1), HCC.out]
    rw [e1]
    have hcn : (cc != 0) = true := by simpa using h1
    clear e1 h1
    go_enter Try.func6, Try.ntmps6
    go_wp2_with (first
      | (go_at_call 9; (with_reducible refine hF.mono ?_); clear hF; rintro e w2 ⟨rfl, hb2⟩; rw [← HW1.out] at hb2; have HB2 : Hid (Below w1.heap.size w1 w2) := hb2; obtain ⟨b0, b1, b2⟩ := cells3 (keepb (keepb HX0.out hb2).out (below_box (.cells #[.int .i64 p, .int .i64 q, .int .i64 t] 44))).out; obtain ⟨c0, c1⟩ := cells2 (keepb HX1.out hb2).out; have hcf := HCF.out w2 hb2; clear hb2)
      | (go_at_call 14; (with_reducible refine hcf.mono ?_); clear hcf; rintro e w3 ⟨rfl, hb3⟩; have HB3 : Hid (Below w1.heap.size w1 w3) := (HK.out w2 w3 HB2.out hb3).1; have HR3 := keepb HX2.out HB3.out; obtain ⟨y0, y1, y2, y3, y4, y5, y6, y7, y8, y9⟩ := cells10V HR3.out; have f0 := Joins.unfrozen_of_block HR3.out 0; have f1 := Joins.unfrozen_of_block HR3.out 1; have f2 := Joins.unfrozen_of_block HR3.out 2; have f3 := Joins.unfrozen_of_block HR3.out 3; have f4 := Joins.unfrozen_of_block HR3.out 4; have f5 := Joins.unfrozen_of_block HR3.out 5; have f6 := Joins.unfrozen_of_block HR3.out 6; have f7 := Joins.unfrozen_of_block HR3.out 7; have f8 := Joins.unfrozen_of_block HR3.out 8; have f9 := Joins.unfrozen_of_block HR3.out 9; clear hb3))
    obtain ⟨s0, s1, s2, s3, s4, s5, s6, s7, s8, s9⟩ := cells10V (set10V10 HR3.out (.int .i64 cc) (.int .i64 0) (.int .i64 0) (.int .i64 0) (.int .i64 0) (.int .i64 0) (.int .i64 0) (.int .i64 0) (.int .i64 0) (.slice none 0 0))
    exact bodyPost_ret (v := .agg #[.int .i64 cc, .int .i64 0, .int .i64 0, .int .i64 0, .int .i64 0, .int .i64 0, .int .i64 0, .int .i64 0, .int .i64 0, .slice none 0 0]) (by simp [results, Try.results6, go_sem, s0, s1, s2, s3, s4, s5, s6, s7, s8, s9]) rfl (vr_code HR3 ⟨by omega, HBL.out.trans (HB3.out.mono HBL.out.size)⟩)
  subst h1
  obtain ⟨ms', e1, hV⟩ : ∃ ms', chooseR k l ms p q t = ⟨0, ⟨k, 2, 0, p, q, t⟩, k, l, ms'⟩ ∧ ∀ V, MAt V a n ms → Calls Try.prog 15 #[.agg #[.int .i64 k, .int .i64 l, .slice a n cap], .iface 48 (.agg #[.int .i64 p, .int .i64 q, .int .i64 t])] V fun e w' => OutVr V w' e ⟨0, ⟨k, 2, 0, p, q, t⟩, k, l, ms'⟩ := by
    by_cases hm : (p, q, t) ∈ ms
    · exact ⟨ms, chooseR_had HZ.out HCC.out hm, fun V hV => votedFor_had k l p q t a n cap ms V (by omega) hV hm⟩
    · exact ⟨ms ++ [(p, q, t)], chooseR_new HZ.out HCC.out hm, fun V hV => votedFor_new k l p q t a n cap ms V (by omega) hV hm⟩
  rw [e1]
  have HV : Hid (∀ V, MAt V a n ms → Calls Try.prog 15 #[.agg #[.int .i64 k, .int .i64 l, .slice a n cap], .iface 48 (.agg #[.int .i64 p, .int .i64 q, .int .i64 t])] V fun e w' => OutVr V w' e ⟨0, ⟨k, 2, 0, p, q, t⟩, k, l, ms'⟩) := hV
  clear e1 hV
  obtain ⟨m, hm⟩ : ∃ m, m = ms'.length := ⟨_, rfl⟩
  have HML : Hid (ms'.length = m) := hm.symm
  clear hm
  go_enter Try.func6, Try.ntmps6
  go_wp2_with (first
    | (go_at_call 9; (with_reducible refine hF.mono ?_); clear hF; rintro e w2 ⟨rfl, hb2⟩; rw [← HW1.out] at hb2; have HB2 : Hid (Below w1.heap.size w1 w2) := hb2; obtain ⟨b0, b1, b2⟩ := cells3 (keepb (keepb HX0.out hb2).out (below_box (.cells #[.int .i64 p, .int .i64 q, .int .i64 t] 44))).out; obtain ⟨c0, c1⟩ := cells2 (keepb HX1.out hb2).out; have hcf := HCF.out w2 hb2; clear hb2)
    | (go_at_call 14; (with_reducible refine hcf.mono ?_); clear hcf; rintro e w3 ⟨rfl, hb3⟩; obtain ⟨hb13, hbk⟩ := HK.out w2 w3 HB2.out hb3; have HB3 : Hid (Below w1.heap.size w1 w3) := hb13; obtain ⟨d0, d1, d2⟩ := cells3 (keepb HX0.out hb13).out; obtain ⟨g0, g1, g2⟩ := cells3 hbk; have hvt := HV.out w3 (HC.out.below hb13 (Nat.le_refl _)); clear hb3 hb13 hbk)
    | (go_at_call 15; (with_reducible refine hvt.mono ?_); clear hvt; rintro e w4 ⟨va, vc, rfl, hO, hb4⟩; simp only [HML.out] at hO ⊢; have HO : Hid (w4.ownsRow w3.heap.size 44 3 (.slice va m vc) m (mcells ms')) := hO; have HB4 : Hid (Below w1.heap.size w1 w4) := HB3.out.trans (hb4.mono HB3.out.size); have HR3 := keepb HX2.out HB4.out; obtain ⟨y0, y1, y2, y3, y4, y5, y6, y7, y8, y9⟩ := cells10V HR3.out; have f0 := Joins.unfrozen_of_block HR3.out 0; have f1 := Joins.unfrozen_of_block HR3.out 1; have f2 := Joins.unfrozen_of_block HR3.out 2; have f3 := Joins.unfrozen_of_block HR3.out 3; have f4 := Joins.unfrozen_of_block HR3.out 4; have f5 := Joins.unfrozen_of_block HR3.out 5; have f6 := Joins.unfrozen_of_block HR3.out 6; have f7 := Joins.unfrozen_of_block HR3.out 7; have f8 := Joins.unfrozen_of_block HR3.out 8; have f9 := Joins.unfrozen_of_block HR3.out 9; clear hO hb4))
  obtain ⟨s0, s1, s2, s3, s4, s5, s6, s7, s8, s9⟩ := cells10V (set10V10 HR3.out (.int .i64 0) (.int .i64 k) (.int .i64 2) (.int .i64 0) (.int .i64 p) (.int .i64 q) (.int .i64 t) (.int .i64 k) (.int .i64 l) (.slice va m vc))
  exact bodyPost_ret (v := .agg #[.int .i64 0, .int .i64 k, .int .i64 2, .int .i64 0, .int .i64 p, .int .i64 q, .int .i64 t, .int .i64 k, .int .i64 l, .slice va m vc]) (by simp [results, Try.results6, go_sem, s0, s1, s2, s3, s4, s5, s6, s7, s8, s9]) rfl (vr_keep (v := ⟨k, 2, 0, p, q, t⟩) HML.out HO ⟨by omega, by have := HB3.out.size; have := HSZ.out; omega, HBL.out.trans (HB4.out.mono HBL.out.size)⟩)

set_option maxHeartbeats 1000000 in
theorem iNewVoter_any (k : Int) (w : World) : Calls Try.prog 8 #[.int .i64 k] w fun e w' => OutVr w w' e (newR k) := by
  obtain ⟨kk, hkk⟩ : ∃ b, b = inB k 1 999 := ⟨_, rfl⟩
  have hW1 : ∀ v, Calls Try.prog 20 #[.int .i64 k] v fun e w' => e = .returned (.bool kk) ∧ w' = v := fun v => by rw [hkk]; exact isKey_any _ v
  cases kk
  · have hr : newR k = vrBad 3 := by unfold newR; rw [if_neg (by rw [← hkk]; simp)]
    rw [hr]
    clear hr hkk
    go_enter Try.func8, Try.ntmps8
    go_wp2_with (go_at_call 20; refine (hW1 _).mono ?_; rintro e w' ⟨rfl, hw⟩; have hw2 := hw.symm; subst hw2)
    have hX := heap_alloc_new w (.cells #[.int .i64 3, .int .i64 0, .int .i64 0, .int .i64 0, .int .i64 0, .int .i64 0, .int .i64 0, .int .i64 0, .int .i64 0, .slice none 0 0] 34)
    obtain ⟨s0, s1, s2, s3, s4, s5, s6, s7, s8, s9⟩ := cells10V hX
    exact bodyPost_ret (v := .agg #[.int .i64 3, .int .i64 0, .int .i64 0, .int .i64 0, .int .i64 0, .int .i64 0, .int .i64 0, .int .i64 0, .int .i64 0, .slice none 0 0]) (by simp [results, Try.results8, go_sem, s0, s1, s2, s3, s4, s5, s6, s7, s8, s9]) rfl ⟨none, 0, rfl, World.ownsRow_nil _ _ _ _, below_box _⟩
  · have hr : newR k = ⟨0, V0, k, 0, []⟩ := by unfold newR; rw [if_pos hkk.symm]
    rw [hr]
    clear hr hkk
    go_enter Try.func8, Try.ntmps8
    go_wp2_with (go_at_call 20; refine (hW1 _).mono ?_; rintro e w' ⟨rfl, hw⟩; have hw2 := hw.symm; subst hw2)
    have hX := heap_alloc_new w (.cells #[.int .i64 0, .int .i64 0, .int .i64 0, .int .i64 0, .int .i64 0, .int .i64 0, .int .i64 0, .int .i64 k, .int .i64 0, .slice none 0 0] 34)
    obtain ⟨s0, s1, s2, s3, s4, s5, s6, s7, s8, s9⟩ := cells10V hX
    exact bodyPost_ret (v := .agg #[.int .i64 0, .int .i64 0, .int .i64 0, .int .i64 0, .int .i64 0, .int .i64 0, .int .i64 0, .int .i64 k, .int .i64 0, .slice none 0 0]) (by simp [results, Try.results8, go_sem, s0, s1, s2, s3, s4, s5, s6, s7, s8, s9]) rfl ⟨none, 0, rfl, World.ownsRow_nil _ _ _ _, below_box _⟩

end Go.Proofs.Ytpcgkgjmcnncdaa
