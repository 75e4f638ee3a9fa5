/- The program's order of refs: two numbers compared, the first that is not 0, two refs compared. -/
import Derived.Test.YtobmongmmnldpaaDoorCnS
import Derived.Test.YtobmongmmnldpaaDoorITx
namespace Go.Proofs.YtobmongmmnldpaaDoor
open Go.RowKit Go.Maps Go.WideMaps

theorem isNaN_any (v : Int) (w : World) : Calls Tryd.prog 59 #[.int .i64 v] w fun e w' => e = .returned (.bool false) ∧ w' = w := by
  go_enter Tryd.func59, Tryd.ntmps59
  go_wp2
  go_ret
  exact ⟨by simp, rfl⟩

theorem cmpC_any (a b : Int) (w : World) : Calls Tryd.prog 43 #[.int .i64 a, .int .i64 b] w fun e w' => e = .returned (.int .i64 (cmpI a b)) ∧ w' = w := by
  have h0 : ∀ v u, Calls Tryd.prog 59 #[.int .i64 v] u fun e w' => e = .returned (.bool false) ∧ w' = u := isNaN_any
  by_cases h1 : a < b
  · have e : cmpI a b = -1 := by simp [cmpI, h1]
    rw [e]
    go_enter Tryd.func43, Tryd.ntmps43
    go_wp2_with (go_at_call 59; refine (h0 _ _).mono ?_; rintro e w' ⟨rfl, hw⟩; have hw2 := hw.symm; subst hw2)
    go_ret
    exact ⟨rfl, rfl⟩
  · by_cases h2 : b < a
    · have e : cmpI a b = 1 := by simp [cmpI, h1, h2]
      rw [e]
      go_enter Tryd.func43, Tryd.ntmps43
      go_wp2_with (go_at_call 59; refine (h0 _ _).mono ?_; rintro e w' ⟨rfl, hw⟩; have hw2 := hw.symm; subst hw2)
      go_ret
      exact ⟨rfl, rfl⟩
    · have e : cmpI a b = 0 := by simp [cmpI, h1, h2]
      rw [e]
      go_enter Tryd.func43, Tryd.ntmps43
      go_wp2_with (go_at_call 59; refine (h0 _ _).mono ?_; rintro e w' ⟨rfl, hw⟩; have hw2 := hw.symm; subst hw2)
      go_ret
      exact ⟨rfl, rfl⟩

/-- The first of two numbers that is not 0. -/
theorem cmpOr_any (B c : Nat) (a b : Int) (w : World) (h0 : w.cell? ⟨B, 0, none⟩ = some (.int .i64 a)) (h1 : w.cell? ⟨B, 1, none⟩ = some (.int .i64 b)) :
    Calls Tryd.prog 42 #[.slice (some ⟨B, 0, none⟩) 2 c] w fun e w' => e = .returned (.int .i64 (if a = 0 then b else a)) ∧ w' = w := by
  by_cases ha : a = 0
  · subst ha
    by_cases hb : b = 0
    · subst hb
      go_enter Tryd.func42, Tryd.ntmps42
      go_wp2
      refine wp_loop_rounds 3 ?_
      rw [rounds_succ]
      go_wp2
      rw [rounds_succ]
      go_wp2
      rw [rounds_succ]
      go_wp2
      go_ret
      exact ⟨rfl, rfl⟩
    · have e : (b != 0) = true := by simp [hb]
      go_enter Tryd.func42, Tryd.ntmps42
      go_wp2
      refine wp_loop_rounds 2 ?_
      rw [rounds_succ]
      go_wp2
      rw [rounds_succ]
      go_wp2
      go_ret
      exact ⟨rfl, rfl⟩
  · have e : (a != 0) = true := by simp [ha]
    rw [if_neg ha]
    go_enter Tryd.func42, Tryd.ntmps42
    go_wp2
    refine wp_loop_rounds 1 ?_
    rw [rounds_succ]
    go_wp2
    go_ret
    exact ⟨rfl, rfl⟩

set_option maxRecDepth 20000 in
set_option maxHeartbeats 4000000 in
theorem compareRefs_more (a b c d : Int) (w : World) : Calls Tryd.prog 27 #[.agg #[.int .i64 a, .int .i64 b], .agg #[.int .i64 c, .int .i64 d]] w fun e w' => e = .returned (.int .i64 (cmpR (a, b) (c, d))) ∧ Below w.heap.size w w' ∧ w.drawn ≤ w'.drawn := by
  obtain ⟨t0, t1, t2⟩ := blocks2 w (.cells #[.int .i64 a, .int .i64 b] 44) (.cells #[.int .i64 c, .int .i64 d] 44)
  have hbx : Below w.heap.size w ((w.alloc (.cells #[.int .i64 a, .int .i64 b] 44)).alloc (.cells #[.int .i64 c, .int .i64 d] 44)) := below_box2 _ _
  obtain ⟨p, hp⟩ : ∃ p, p = cmpI a c := ⟨_, rfl⟩
  obtain ⟨q, hq⟩ : ∃ q, q = cmpI b d := ⟨_, rfl⟩
  have hr : cmpR (a, b) (c, d) = if p = 0 then q else p := by rw [hp, hq]; rfl
  have h1 : ∀ v, Calls Tryd.prog 43 #[.int .i64 a, .int .i64 c] v fun e w' => e = .returned (.int .i64 p) ∧ w' = v := fun v => by rw [hp]; exact cmpC_any _ _ v
  have h2 : ∀ v, Calls Tryd.prog 43 #[.int .i64 b, .int .i64 d] v fun e w' => e = .returned (.int .i64 q) ∧ w' = v := fun v => by rw [hq]; exact cmpC_any _ _ v
  rw [hr]
  obtain ⟨r, h3⟩ : ∃ r, r = if p = 0 then q else p := ⟨_, rfl⟩
  rw [← h3]
  have H3 : Hid ((if p = 0 then q else p) = r) := h3.symm
  clear hp hq hr h3
  obtain ⟨W, hW⟩ : ∃ W, W = (w.alloc (.cells #[.int .i64 a, .int .i64 b] 44)).alloc (.cells #[.int .i64 c, .int .i64 d] 44) := ⟨_, rfl⟩
  go_enter Tryd.func27, Tryd.ntmps27
  go_wp2
  rw [← hW] at t0 t1 t2 hbx ⊢
  have HDR : Hid (W.drawn = w.drawn) := by rw [hW]; rfl
  clear hW
  obtain ⟨s0, s1⟩ := cells2 t0
  obtain ⟨s2, s3⟩ := cells2 t1
  have hn0 : (W.alloc (.cells #[.int .i64 p, .int .i64 q] 3)).drew.heap[W.heap.size]? = some (.cells #[.int .i64 p, .int .i64 q] 3 (0, 0)) := heap_alloc_new _ _
  have hor := cmpOr_any W.heap.size 2 p q (W.alloc (.cells #[.int .i64 p, .int .i64 q] 3)).drew (cells2 hn0).1 (cells2 hn0).2
  have HBO : Hid (Below w.heap.size w (W.alloc (.cells #[.int .i64 p, .int .i64 q] 3)).drew) := (hbx.trans ((below_box _).mono hbx.size)).trans ((Below.refl _ _).drew)
  clear hn0
  rw [t2, H3.out] at hor
  have hl0 : w.heap.size < W.heap.size := by omega
  have hl1 : w.heap.size + 1 < W.heap.size := by omega
  go_region_held3 (fun w' => w'.cell? ⟨w.heap.size, 0, none⟩ = some (.int .i64 a) ∧ w'.cell? ⟨w.heap.size, 1, none⟩ = some (.int .i64 b) ∧ w'.cell? ⟨w.heap.size + 1, 0, none⟩ = some (.int .i64 c) ∧ w'.cell? ⟨w.heap.size + 1, 1, none⟩ = some (.int .i64 d)) (go_keep)
    (first
      | (go_at_call 43; (first | (with_reducible refine (h1 _).mono ?_) | (with_reducible refine (h2 _).mono ?_)); rintro e w' ⟨rfl, hw⟩; have hw2 := hw.symm; subst hw2)
      | (go_at_call 42; (with_reducible refine hor.mono ?_); rintro e w' ⟨rfl, hw⟩; have hw2 := hw.symm; subst hw2))
  go_wp2
  go_ret
  exact ⟨rfl, HBO.out, by show w.drawn ≤ W.drawn + 1; rw [HDR.out]; omega⟩

theorem compareRefs_any (a b c d : Int) (w : World) : Calls Tryd.prog 27 #[.agg #[.int .i64 a, .int .i64 b], .agg #[.int .i64 c, .int .i64 d]] w fun e w' => e = .returned (.int .i64 (cmpR (a, b) (c, d))) ∧ Below w.heap.size w w' :=
  (compareRefs_more a b c d w).mono fun _ _ h => ⟨h.1, h.2.1⟩

set_option maxHeartbeats 1000000 in
theorem coinFault_any (p q v : Int) (a : Option Addr) (n cap : Nat) (l : List Int) (x y h : Int) (m : Bool) (w : World) (hl : n ≤ 1048576) (hI : IAt w a n l) :
    Calls Tryd.prog 26 #[.agg #[.int .i64 p, .int .i64 q, .int .i64 v, .slice a n cap, .int .i64 x, .int .i64 y, .int .i64 h, .bool m]] w fun e w' => e = .returned (.int .i64 (coinR ⟨p, q, v, l, x, y, h, m⟩)) ∧ Below w.heap.size w w' := by
  obtain ⟨kr, hkr⟩ : ∃ k, k = refB (p, q) := ⟨_, rfl⟩
  obtain ⟨kh, hkh⟩ : ∃ k, k = inB h 0 999 := ⟨_, rfl⟩
  obtain ⟨kv, hkv⟩ : ∃ k, k = inB v 1 1000000 := ⟨_, rfl⟩
  have hrf := isRef_any p q (w.alloc (.cells #[.int .i64 p, .int .i64 q, .int .i64 v, .slice a n cap, .int .i64 x, .int .i64 y, .int .i64 h, .bool m] 49))
  rw [← hkr] at hrf
  have hht : ∀ u, Calls Tryd.prog 39 #[.int .i64 h] u fun e w' => e = .returned (.bool kh) ∧ w' = u := fun u => by rw [hkh]; exact isHeight_any _ u
  have hvl : ∀ u, Calls Tryd.prog 40 #[.int .i64 v] u fun e w' => e = .returned (.bool kv) ∧ w' = u := fun u => by rw [hkv]; exact isValue_any _ u
  have HRF : Hid (∀ u, Below w.heap.size w u → Calls Tryd.prog 41 #[.agg #[.slice a n cap, .int .i64 x, .int .i64 y]] u fun e w' => e = .returned (.int .i64 (ruleR l x y)) ∧ Below u.heap.size u w') := fun u hu => iRuleFault_any n cap a l x y u hl (hI.below hu (Nat.le_refl _))
  have HBX : Hid (Below w.heap.size w (w.alloc (.cells #[.int .i64 p, .int .i64 q, .int .i64 v, .slice a n cap, .int .i64 x, .int .i64 y, .int .i64 h, .bool m] 49))) := below_box _
  have HX : Hid ((w.alloc (.cells #[.int .i64 p, .int .i64 q, .int .i64 v, .slice a n cap, .int .i64 x, .int .i64 y, .int .i64 h, .bool m] 49)).heap[w.heap.size]? = some (.cells #[.int .i64 p, .int .i64 q, .int .i64 v, .slice a n cap, .int .i64 x, .int .i64 y, .int .i64 h, .bool m] 49 (0, 0))) := heap_alloc_new _ _
  obtain ⟨r, hr⟩ : ∃ r, r = coinR ⟨p, q, v, l, x, y, h, m⟩ := ⟨_, rfl⟩
  rw [← hr]
  clear hI
  cases kr
  · obtain rfl : r = 3 := by rw [hr]; unfold coinR; rw [if_pos (.inl hkr.symm)]
    clear hkr hkh hkv hr
    go_enter Tryd.func26, Tryd.ntmps26
    go_wp2_with (first | (go_at_call 38; (with_reducible refine hrf.mono ?_); rintro e w2 ⟨rfl, hb2⟩; have HX2 := keepb HX.out hb2; obtain ⟨⟨s0, s1, s2, s3, s4, s5, s6, s7⟩, _⟩ := cells8 HX2.out; have HB2 : Hid (Below w.heap.size w w2) := HBX.out.trans (hb2.mono HBX.out.size); clear hb2))
    go_ret
    exact ⟨rfl, HB2.out⟩
  cases kh
  · obtain rfl : r = 3 := by rw [hr]; unfold coinR; rw [if_pos (.inr hkh.symm)]
    clear hkr hkh hkv hr
    go_enter Tryd.func26, Tryd.ntmps26
    go_wp2_with (first | (go_at_call 38; (with_reducible refine hrf.mono ?_); rintro e w2 ⟨rfl, hb2⟩; have HX2 := keepb HX.out hb2; obtain ⟨⟨s0, s1, s2, s3, s4, s5, s6, s7⟩, _⟩ := cells8 HX2.out; have HB2 : Hid (Below w.heap.size w w2) := HBX.out.trans (hb2.mono HBX.out.size); clear hb2) | (go_at_call 39; refine (hht _).mono ?_; rintro e w' ⟨rfl, hw⟩; have hw2 := hw.symm; subst hw2))
    go_ret
    exact ⟨rfl, HB2.out⟩
  have hno : ¬ (refB (p, q) = false ∨ inB h 0 999 = false) := by
    rintro (e | e)
    · rw [← hkr] at e; cases e
    · rw [← hkh] at e; cases e
  cases kv
  · obtain rfl : r = 3 := by rw [hr]; unfold coinR; rw [if_neg hno, outR, if_pos hkv.symm]
    clear hkr hkh hkv hr hno
    go_enter Tryd.func26, Tryd.ntmps26
    go_wp2_with (first | (go_at_call 38; (with_reducible refine hrf.mono ?_); rintro e w2 ⟨rfl, hb2⟩; have HX2 := keepb HX.out hb2; obtain ⟨⟨s0, s1, s2, s3, s4, s5, s6, s7⟩, _⟩ := cells8 HX2.out; have HB2 : Hid (Below w.heap.size w w2) := HBX.out.trans (hb2.mono HBX.out.size); clear hb2) | (go_at_call 39; refine (hht _).mono ?_; rintro e w' ⟨rfl, hw⟩; have hw2 := hw.symm; subst hw2) | (go_at_call 40; refine (hvl _).mono ?_; rintro e w' ⟨rfl, hw⟩; have hw2 := hw.symm; subst hw2))
    go_ret
    exact ⟨rfl, HB2.out⟩
  · obtain rfl : r = ruleR l x y := by rw [hr]; unfold coinR; rw [if_neg hno, outR, if_neg (by rw [← hkv]; simp)]
    clear hkr hkh hkv hr hno
    go_enter Tryd.func26, Tryd.ntmps26
    go_wp2_with (first | (go_at_call 38; (with_reducible refine hrf.mono ?_); rintro e w2 ⟨rfl, hb2⟩; have HX2 := keepb HX.out hb2; obtain ⟨⟨s0, s1, s2, s3, s4, s5, s6, s7⟩, _⟩ := cells8 HX2.out; have HB2 : Hid (Below w.heap.size w w2) := HBX.out.trans (hb2.mono HBX.out.size); clear hb2) | (go_at_call 39; refine (hht _).mono ?_; rintro e w' ⟨rfl, hw⟩; have hw2 := hw.symm; subst hw2) | (go_at_call 40; refine (hvl _).mono ?_; rintro e w' ⟨rfl, hw⟩; have hw2 := hw.symm; subst hw2) | (go_at_call 41; refine (HRF.out w2 HB2.out).mono ?_; rintro e w3 ⟨rfl, hb3⟩))
    go_ret
    exact ⟨rfl, HB2.out.trans (hb3.mono HB2.out.size)⟩

/-- The last ref, in its block. -/
def LastR (w wr : World) (pr : Int × Int) : Prop := wr.heap[w.heap.size]? = some (.cells #[.int .i64 pr.1, .int .i64 pr.2] 44 (0, 0))

set_option maxRecDepth 20000 in
set_option maxHeartbeats 2000000 in
theorem iCoinsFault_any (n c : Nat) (a : Option Addr) (cs : List Co) (w : World) (hn : n ≤ 1048576) (hk : ∀ j, j < n → (cs.getD j C0).l.length ≤ 1048576) (hC : CAt w a n cs) :
    Calls Tryd.prog 14 #[.slice a n c] w fun e w' => e = .returned (.int .i64 (coinsR cs)) ∧ Below w.heap.size w w' := by
  have HC : Hid (CAt w a n cs) := hC
  have HN : Hid (cs.length = n) := hC.1
  have HKL : Hid (∀ j, j < n → (cs.getD j C0).l.length ≤ 1048576) := hk
  obtain ⟨r, hr⟩ : ∃ r, r = coinsR cs := ⟨_, rfl⟩
  rw [← hr]
  have HR : Hid (r = coinsR cs) := hr
  clear hC hk hr
  by_cases h40 : 40 < n
  · obtain rfl : r = 2 := by rw [HR.out]; unfold coinsR; rw [if_pos (by rw [HN.out]; exact h40)]
    go_enter Tryd.func14, Tryd.ntmps14
    go_wp2
    go_ret
    exact ⟨rfl, Below.refl _ _⟩
  have HR2 : Hid (r = csR (0, 0) cs) := by show _ = _; rw [HR.out]; unfold coinsR; rw [if_neg (by rw [HN.out]; exact h40)]
  go_enter Tryd.func14, Tryd.ntmps14
  go_wp2
  go_loopw [12] (fun i wr => ∃ j : Nat, j ≤ n ∧ i = .int .i64 j ∧ Below w.heap.size w wr ∧ Hid (r = csR (prevR cs j) (cs.drop j)) ∧ Hid (LastR w wr (prevR cs j))) (fun i _ => n - (intOf i).toNat)
  case atStart => exact ⟨0, Nat.zero_le _, rfl, below_box _, HR2.out, heap_alloc_new _ _⟩
  case round =>
    obtain ⟨j, hj, rfl, hbel, HT, HL⟩ := hrel
    by_cases hlt : j < n
    · rcases HC.out.2 with h0 | ⟨b, off, e0, l0, d0⟩
      · omega
      subst e0
      obtain ⟨o, ho⟩ : ∃ o, o = cs.getD j C0 := ⟨_, rfl⟩
      obtain ⟨ka, kc, p0, p4, p5⟩ := d0 j hlt
      have hol := HKL.out j hlt
      rw [← ho] at p0 p4 p5 hol
      have HS : Hid (o = cs.getD j C0) := ho
      obtain ⟨op, oq, ov, ol, ox, oy, oh, om⟩ := o
      obtain ⟨x0, x1, x2, x3, x4, x5, x6, x7⟩ := p0.below hbel l0
      simp only at x0 x1 x2 x3 x4 x5 x6 x7 hol p5
      have HNX : Hid (cs.drop j = (⟨op, oq, ov, ol, ox, oy, oh, om⟩ : Co) :: cs.drop (j + 1)) := next_coin HN.out hlt HS.out
      have hlL : w.heap.size < wr.heap.size := lt_of_block HL.out
      obtain ⟨pr, hpr⟩ : ∃ pr, pr = prevR cs j := ⟨_, rfl⟩
      have HPR : Hid (prevR cs j = pr) := hpr.symm
      obtain ⟨np, nq⟩ := pr
      have hbx : Below wr.heap.size wr (wr.alloc (.cells #[.int .i64 op, .int .i64 oq, .int .i64 ov, .slice ka ol.length kc, .int .i64 ox, .int .i64 oy, .int .i64 oh, .bool om] 49)) := below_box _
      have hcf := coinFault_any op oq ov ka ol.length kc ol ox oy oh om (wr.alloc (.cells #[.int .i64 op, .int .i64 oq, .int .i64 ov, .slice ka ol.length kc, .int .i64 ox, .int .i64 oy, .int .i64 oh, .bool om] 49)) hol ((p5.below hbel (Nat.le_refl _)).below hbx (Nat.le_refl _))
      obtain ⟨cd, hcd⟩ : ∃ c, c = coinR ⟨op, oq, ov, ol, ox, oy, oh, om⟩ := ⟨_, rfl⟩
      rw [← hcd] at hcf
      have HCE : Hid (coinR ⟨op, oq, ov, ol, ox, oy, oh, om⟩ = cd) := hcd.symm
      have HX : Hid ((wr.alloc (.cells #[.int .i64 op, .int .i64 oq, .int .i64 ov, .slice ka ol.length kc, .int .i64 ox, .int .i64 oy, .int .i64 oh, .bool om] 49)).heap[wr.heap.size]? = some (.cells #[.int .i64 op, .int .i64 oq, .int .i64 ov, .slice ka ol.length kc, .int .i64 ox, .int .i64 oy, .int .i64 oh, .bool om] 49 (0, 0))) := heap_alloc_new _ _
      have HBX : Hid (Below wr.heap.size wr (wr.alloc (.cells #[.int .i64 op, .int .i64 oq, .int .i64 ov, .slice ka ol.length kc, .int .i64 ox, .int .i64 oy, .int .i64 oh, .bool om] 49))) := hbx
      have HL0 : Hid (wr.heap[w.heap.size]? = some (.cells #[.int .i64 np, .int .i64 nq] 44 (0, 0))) := by have := HL.out; unfold LastR at this; rw [HPR.out] at this; exact this
      have HLX := keepb HL0.out HBX.out
      clear ho d0 p0 p4 p5 hcd hbx hpr
      have hki : (j : Int) < (n : Int) := by omega
      by_cases hc0 : cd = 0
      · subst hc0
        obtain ⟨kb, hkb⟩ : ∃ k, k = cmpR (op, oq) (np, nq) := ⟨_, rfl⟩
        have HKB : Hid (cmpR (op, oq) (np, nq) = kb) := hkb.symm
        have hcm : ∀ u, Calls Tryd.prog 27 #[.agg #[.int .i64 op, .int .i64 oq], .agg #[.int .i64 np, .int .i64 nq]] u fun e w' => e = .returned (.int .i64 kb) ∧ Below u.heap.size u w' := fun u => by rw [hkb]; exact compareRefs_any op oq np nq u
        clear hkb
        by_cases hle : kb ≤ 0
        · obtain rfl : r = 1 := by rw [HT.out, HNX.out, HPR.out, csR_form HCE.out (by rw [← HKB.out] at hle; exact hle)]
          go_wp2_with (first
            | (go_at_call 26; (with_reducible refine hcf.mono ?_); clear hcf; rintro e w2 ⟨rfl, hb2⟩; have HX2 := keepb HX.out hb2; have HL2 := keepb HLX.out hb2; obtain ⟨⟨s0, s1, s2, s3, s4, s5, s6, s7⟩, _⟩ := cells8 HX2.out; obtain ⟨y0, y1⟩ := cells2 HL2.out; have HB2 : Hid (Below w.heap.size w w2) := (hbel.trans (HBX.out.mono hbel.size)).trans (hb2.mono (by have := hbel.size; have := HBX.out.size; omega)); clear hb2)
            | (go_at_call 27; (with_reducible refine (hcm _).mono ?_); rintro e w3 ⟨rfl, hb3⟩))
          go_ret
          exact ⟨rfl, HB2.out.trans (hb3.mono HB2.out.size)⟩
        · have HTN : Hid (r = csR (prevR cs (j + 1)) (cs.drop (j + 1))) := by
            show _ = _
            rw [HT.out, HNX.out, HPR.out, csR_go HCE.out (by rw [← HKB.out] at hle; exact hle), prevR_succ HS.out]
          go_wp2_with (first
            | (go_at_call 26; (with_reducible refine hcf.mono ?_); clear hcf; rintro e w2 ⟨rfl, hb2⟩; have HX2 := keepb HX.out hb2; have HL2 := keepb HLX.out hb2; obtain ⟨⟨s0, s1, s2, s3, s4, s5, s6, s7⟩, _⟩ := cells8 HX2.out; obtain ⟨y0, y1⟩ := cells2 HL2.out; have HB2 : Hid (Below w.heap.size w w2) := (hbel.trans (HBX.out.mono hbel.size)).trans (hb2.mono (by have := hbel.size; have := HBX.out.size; omega)); clear hb2)
            | (go_at_call 27; (with_reducible refine (hcm _).mono ?_); rintro e w3 ⟨rfl, hb3⟩; have HX3 := keepb HX2.out hb3; have HL3 := keepb HL2.out hb3; clear s0 s1 s2 s3 s4 s5 s6 s7 y0 y1; obtain ⟨⟨s0, s1, s2, s3, s4, s5, s6, s7⟩, _⟩ := cells8 HX3.out; obtain ⟨y0, y1⟩ := cells2 HL3.out; have f0 := Joins.unfrozen_of_block HL3.out 0; have f1 := Joins.unfrozen_of_block HL3.out 1; have HB3 : Hid (Below w.heap.size w w3) := HB2.out.trans (hb3.mono HB2.out.size); clear hb3))
          go_roundw
          case rel =>
            refine ⟨j + 1, by omega, by go_num, (HB3.out.setCell (Nat.le_refl _) _).setCell (Nat.le_refl _) _, HTN, ?_⟩
            show LastR _ _ _
            rw [prevR_succ HS.out]
            have h1 := Joins.block_setCell (i := 0) HL3.out (.int .i64 op)
            have h2 := Joins.block_setCell (i := 1) h1 (.int .i64 oq)
            exact h2
          case measure => simp [intOf]; omega
      · obtain rfl : r = cd := by rw [HT.out, HNX.out, csR_bad HCE.out hc0]
        go_wp2_with (first
          | (go_at_call 26; (with_reducible refine hcf.mono ?_); clear hcf; rintro e w2 ⟨rfl, hb2⟩; have HB2 : Hid (Below w.heap.size w w2) := (hbel.trans (HBX.out.mono hbel.size)).trans (hb2.mono (by have := hbel.size; have := HBX.out.size; omega)); clear hb2))
        go_ret
        exact ⟨rfl, HB2.out⟩
    · obtain rfl : r = 0 := by rw [HT.out, List.drop_eq_nil_of_le (by rw [HN.out]; omega)]; rfl
      go_wp2
      go_ret
      exact ⟨rfl, hbel⟩

end Go.Proofs.YtobmongmmnldpaaDoor
