/- The program's fault of a transaction: kinds, refs, outs. The program's fault of a transaction: its parts and the whole. The program's TxFault keeps its contract. The program's order of refs: two numbers compared, the first that is not 0, two refs compared. The program fills its purse with coins. The specification's text of a rule. The specification's text of a rule, the whole. The specification's text of a transaction: blanks swapped for underscores. The specification's text of a transaction, the whole. -/
import Derived.Test.YtlcdhhaikhieiaaDoorX1
import Derived.Test.YtlcdhhaikhieiaaDoorOp
import Derived.Deep.Slices
import Derived.Maps.OwnSet
import Derived.Maps.Range
import Derived.Lib.ItoaMem
import Derived.Lib.ItoaNum
import Derived.Laws.BytesArg
import Derived.Deep.RegionWith
import Derived.Lib.ConvBytes
namespace Go.Proofs.YtlcdhhaikhieiaaDoor
open Go.RowKit Go.Maps Go.WideMaps

theorem isValue_any (v : Int) (w : World) : Calls Tryd.prog 37 #[.int .i64 v] w fun e w' => e = .returned (.bool (inB v 1 1000000)) ∧ w' = w := by
  go_enter Tryd.func37, Tryd.ntmps37
  go_wp2_with (go_at_call 54; refine (isWithin_any _ _ _ _).mono ?_; rintro e w' ⟨rfl, rfl⟩)
  go_ret
  exact ⟨rfl, rfl⟩

theorem isTxId_any (v : Int) (w : World) : Calls Tryd.prog 53 #[.int .i64 v] w fun e w' => e = .returned (.bool (inB v 1 60)) ∧ w' = w := by
  go_enter Tryd.func53, Tryd.ntmps53
  go_wp2_with (go_at_call 54; refine (isWithin_any _ _ _ _).mono ?_; rintro e w' ⟨rfl, rfl⟩)
  go_ret
  exact ⟨rfl, rfl⟩

theorem isRef_any (a b : Int) (w : World) : Calls Tryd.prog 35 #[.agg #[.int .i64 a, .int .i64 b]] w fun e w' => e = .returned (.bool (refB (a, b))) ∧ Below w.heap.size w w' := by
  obtain ⟨ka, hka⟩ : ∃ k, k = inB a 1 60 := ⟨_, rfl⟩
  obtain ⟨kb, hkb⟩ : ∃ k, k = inB b 0 3 := ⟨_, rfl⟩
  have hr : refB (a, b) = (ka && kb) := by rw [hka, hkb]; rfl
  have h1 : ∀ v, Calls Tryd.prog 53 #[.int .i64 a] v fun e w' => e = .returned (.bool ka) ∧ w' = v := fun v => by rw [hka]; exact isTxId_any _ v
  have h2 : ∀ v, Calls Tryd.prog 54 #[.int .i64 b, .int .i64 0, .int .i64 3] v fun e w' => e = .returned (.bool kb) ∧ w' = v := fun v => by rw [hkb]; exact isWithin_any _ _ _ v
  rw [hr]
  clear hka hkb hr
  have hbx : Below w.heap.size w (w.alloc (.cells #[.int .i64 a, .int .i64 b] 42)) := below_box _
  cases ka <;> cases kb
  all_goals
    go_enter Tryd.func35, Tryd.ntmps35
    go_wp2_with (first | (go_at_call 53; refine (h1 _).mono ?_; rintro e w' ⟨rfl, hw⟩; have hw2 := hw.symm; subst hw2) | (go_at_call 54; refine (h2 _).mono ?_; rintro e w' ⟨rfl, hw⟩; have hw2 := hw.symm; subst hw2))
    go_ret
    exact ⟨rfl, hbx⟩

end Go.Proofs.YtlcdhhaikhieiaaDoor

namespace Go.Proofs.YtlcdhhaikhieiaaDoor
open Go.RowKit Go.Maps Go.WideMaps

end Go.Proofs.YtlcdhhaikhieiaaDoor

namespace Go.Proofs.YtlcdhhaikhieiaaDoor
open Go.RowKit Go.Maps Go.WideMaps

end Go.Proofs.YtlcdhhaikhieiaaDoor

namespace Go.Proofs.YtlcdhhaikhieiaaDoor
open Go.RowKit Go.Maps Go.WideMaps

theorem isNaN_any (v : Int) (w : World) : Calls Tryd.prog 58 #[.int .i64 v] w fun e w' => e = .returned (.bool false) ∧ w' = w := by
  go_enter Tryd.func58, Tryd.ntmps58
  go_wp2
  go_ret
  exact ⟨by simp, rfl⟩

theorem cmpC_any (a b : Int) (w : World) : Calls Tryd.prog 40 #[.int .i64 a, .int .i64 b] w fun e w' => e = .returned (.int .i64 (cmpI a b)) ∧ w' = w := by
  have h0 : ∀ v u, Calls Tryd.prog 58 #[.int .i64 v] u fun e w' => e = .returned (.bool false) ∧ w' = u := isNaN_any
  by_cases h1 : a < b
  · have e : cmpI a b = -1 := by simp [cmpI, h1]
    rw [e]
    go_enter Tryd.func40, Tryd.ntmps40
    go_wp2_with (go_at_call 58; refine (h0 _ _).mono ?_; rintro e w' ⟨rfl, hw⟩; have hw2 := hw.symm; subst hw2)
    go_ret
    exact ⟨rfl, rfl⟩
  · by_cases h2 : b < a
    · have e : cmpI a b = 1 := by simp [cmpI, h1, h2]
      rw [e]
      go_enter Tryd.func40, Tryd.ntmps40
      go_wp2_with (go_at_call 58; refine (h0 _ _).mono ?_; rintro e w' ⟨rfl, hw⟩; have hw2 := hw.symm; subst hw2)
      go_ret
      exact ⟨rfl, rfl⟩
    · have e : cmpI a b = 0 := by simp [cmpI, h1, h2]
      rw [e]
      go_enter Tryd.func40, Tryd.ntmps40
      go_wp2_with (go_at_call 58; refine (h0 _ _).mono ?_; rintro e w' ⟨rfl, hw⟩; have hw2 := hw.symm; subst hw2)
      go_ret
      exact ⟨rfl, rfl⟩

/-- The first of two numbers that is not 0. -/
theorem cmpOr_any (B c : Nat) (a b : Int) (w : World) (h0 : w.cell? ⟨B, 0, none⟩ = some (.int .i64 a)) (h1 : w.cell? ⟨B, 1, none⟩ = some (.int .i64 b)) :
    Calls Tryd.prog 39 #[.slice (some ⟨B, 0, none⟩) 2 c] w fun e w' => e = .returned (.int .i64 (if a = 0 then b else a)) ∧ w' = w := by
  by_cases ha : a = 0
  · subst ha
    by_cases hb : b = 0
    · subst hb
      go_enter Tryd.func39, Tryd.ntmps39
      go_wp2
      refine wp_loop_rounds 3 ?_
      rw [rounds_succ]
      go_wp2
      rw [rounds_succ]
      go_wp2
      rw [rounds_succ]
      go_wp2
      go_ret
      exact ⟨rfl, rfl⟩
    · have e : (b != 0) = true := by simp [hb]
      go_enter Tryd.func39, Tryd.ntmps39
      go_wp2
      refine wp_loop_rounds 2 ?_
      rw [rounds_succ]
      go_wp2
      rw [rounds_succ]
      go_wp2
      go_ret
      exact ⟨rfl, rfl⟩
  · have e : (a != 0) = true := by simp [ha]
    rw [if_neg ha]
    go_enter Tryd.func39, Tryd.ntmps39
    go_wp2
    refine wp_loop_rounds 1 ?_
    rw [rounds_succ]
    go_wp2
    go_ret
    exact ⟨rfl, rfl⟩

set_option maxRecDepth 20000 in
set_option maxHeartbeats 4000000 in
theorem compareRefs_more (a b c d : Int) (w : World) : Calls Tryd.prog 21 #[.agg #[.int .i64 a, .int .i64 b], .agg #[.int .i64 c, .int .i64 d]] w fun e w' => e = .returned (.int .i64 (cmpR (a, b) (c, d))) ∧ Below w.heap.size w w' ∧ w.drawn ≤ w'.drawn := by
  obtain ⟨t0, t1, t2⟩ := blocks2 w (.cells #[.int .i64 a, .int .i64 b] 42) (.cells #[.int .i64 c, .int .i64 d] 42)
  have hbx : Below w.heap.size w ((w.alloc (.cells #[.int .i64 a, .int .i64 b] 42)).alloc (.cells #[.int .i64 c, .int .i64 d] 42)) := below_box2 _ _
  obtain ⟨p, hp⟩ : ∃ p, p = cmpI a c := ⟨_, rfl⟩
  obtain ⟨q, hq⟩ : ∃ q, q = cmpI b d := ⟨_, rfl⟩
  have hr : cmpR (a, b) (c, d) = if p = 0 then q else p := by rw [hp, hq]; rfl
  have h1 : ∀ v, Calls Tryd.prog 40 #[.int .i64 a, .int .i64 c] v fun e w' => e = .returned (.int .i64 p) ∧ w' = v := fun v => by rw [hp]; exact cmpC_any _ _ v
  have h2 : ∀ v, Calls Tryd.prog 40 #[.int .i64 b, .int .i64 d] v fun e w' => e = .returned (.int .i64 q) ∧ w' = v := fun v => by rw [hq]; exact cmpC_any _ _ v
  rw [hr]
  obtain ⟨r, h3⟩ : ∃ r, r = if p = 0 then q else p := ⟨_, rfl⟩
  rw [← h3]
  have H3 : Hid ((if p = 0 then q else p) = r) := h3.symm
  clear hp hq hr h3
  obtain ⟨W, hW⟩ : ∃ W, W = (w.alloc (.cells #[.int .i64 a, .int .i64 b] 42)).alloc (.cells #[.int .i64 c, .int .i64 d] 42) := ⟨_, rfl⟩
  go_enter Tryd.func21, Tryd.ntmps21
  go_wp2
  rw [← hW] at t0 t1 t2 hbx ⊢
  have HDR : Hid (W.drawn = w.drawn) := by rw [hW]; rfl
  clear hW
  obtain ⟨s0, s1⟩ := cells2 t0
  obtain ⟨s2, s3⟩ := cells2 t1
  have hn0 : (W.alloc (.cells #[.int .i64 p, .int .i64 q] 3)).drew.heap[W.heap.size]? = some (.cells #[.int .i64 p, .int .i64 q] 3 (0, 0)) := heap_alloc_new _ _
  have hor := cmpOr_any W.heap.size 2 p q (W.alloc (.cells #[.int .i64 p, .int .i64 q] 3)).drew (cells2 hn0).1 (cells2 hn0).2
  have HBO : Hid (Below w.heap.size w (W.alloc (.cells #[.int .i64 p, .int .i64 q] 3)).drew) := (hbx.trans ((below_box _).mono hbx.size)).trans ((Below.refl _ _).drew)
  clear hn0
  rw [t2, H3.out] at hor
  have hl0 : w.heap.size < W.heap.size := by omega
  have hl1 : w.heap.size + 1 < W.heap.size := by omega
  go_region_held3 (fun w' => w'.cell? ⟨w.heap.size, 0, none⟩ = some (.int .i64 a) ∧ w'.cell? ⟨w.heap.size, 1, none⟩ = some (.int .i64 b) ∧ w'.cell? ⟨w.heap.size + 1, 0, none⟩ = some (.int .i64 c) ∧ w'.cell? ⟨w.heap.size + 1, 1, none⟩ = some (.int .i64 d)) (go_keep)
    (first
      | (go_at_call 40; (first | (with_reducible refine (h1 _).mono ?_) | (with_reducible refine (h2 _).mono ?_)); rintro e w' ⟨rfl, hw⟩; have hw2 := hw.symm; subst hw2)
      | (go_at_call 39; (with_reducible refine hor.mono ?_); rintro e w' ⟨rfl, hw⟩; have hw2 := hw.symm; subst hw2))
  go_wp2
  go_ret
  exact ⟨rfl, HBO.out, by show w.drawn ≤ W.drawn + 1; rw [HDR.out]; omega⟩

theorem compareRefs_any (a b c d : Int) (w : World) : Calls Tryd.prog 21 #[.agg #[.int .i64 a, .int .i64 b], .agg #[.int .i64 c, .int .i64 d]] w fun e w' => e = .returned (.int .i64 (cmpR (a, b) (c, d))) ∧ Below w.heap.size w w' :=
  (compareRefs_more a b c d w).mono fun _ _ h => ⟨h.1, h.2.1⟩

set_option maxHeartbeats 1000000 in
theorem coinFault_any (p q v : Int) (a : Option Addr) (n cap : Nat) (l : List Int) (x y h : Int) (m : Bool) (w : World) (hl : n ≤ 1048576) (hI : IAt w a n l) :
    Calls Tryd.prog 20 #[.agg #[.int .i64 p, .int .i64 q, .int .i64 v, .slice a n cap, .int .i64 x, .int .i64 y, .int .i64 h, .bool m]] w fun e w' => e = .returned (.int .i64 (coinR ⟨p, q, v, l, x, y, h, m⟩)) ∧ Below w.heap.size w w' := by
  obtain ⟨kr, hkr⟩ : ∃ k, k = refB (p, q) := ⟨_, rfl⟩
  obtain ⟨kh, hkh⟩ : ∃ k, k = inB h 0 999 := ⟨_, rfl⟩
  obtain ⟨kv, hkv⟩ : ∃ k, k = inB v 1 1000000 := ⟨_, rfl⟩
  have hrf := isRef_any p q (w.alloc (.cells #[.int .i64 p, .int .i64 q, .int .i64 v, .slice a n cap, .int .i64 x, .int .i64 y, .int .i64 h, .bool m] 49))
  rw [← hkr] at hrf
  have hht : ∀ u, Calls Tryd.prog 36 #[.int .i64 h] u fun e w' => e = .returned (.bool kh) ∧ w' = u := fun u => by rw [hkh]; exact isHeight_any _ u
  have hvl : ∀ u, Calls Tryd.prog 37 #[.int .i64 v] u fun e w' => e = .returned (.bool kv) ∧ w' = u := fun u => by rw [hkv]; exact isValue_any _ u
  have HRF : Hid (∀ u, Below w.heap.size w u → Calls Tryd.prog 38 #[.agg #[.slice a n cap, .int .i64 x, .int .i64 y]] u fun e w' => e = .returned (.int .i64 (ruleR l x y)) ∧ Below u.heap.size u w') := fun u hu => iRuleFault_any n cap a l x y u hl (hI.below hu (Nat.le_refl _))
  have HBX : Hid (Below w.heap.size w (w.alloc (.cells #[.int .i64 p, .int .i64 q, .int .i64 v, .slice a n cap, .int .i64 x, .int .i64 y, .int .i64 h, .bool m] 49))) := below_box _
  have HX : Hid ((w.alloc (.cells #[.int .i64 p, .int .i64 q, .int .i64 v, .slice a n cap, .int .i64 x, .int .i64 y, .int .i64 h, .bool m] 49)).heap[w.heap.size]? = some (.cells #[.int .i64 p, .int .i64 q, .int .i64 v, .slice a n cap, .int .i64 x, .int .i64 y, .int .i64 h, .bool m] 49 (0, 0))) := heap_alloc_new _ _
  obtain ⟨r, hr⟩ : ∃ r, r = coinR ⟨p, q, v, l, x, y, h, m⟩ := ⟨_, rfl⟩
  rw [← hr]
  clear hI
  cases kr
  · obtain rfl : r = 3 := by rw [hr]; unfold coinR; rw [if_pos (.inl hkr.symm)]
    clear hkr hkh hkv hr
    go_enter Tryd.func20, Tryd.ntmps20
    go_wp2_with (first | (go_at_call 35; (with_reducible refine hrf.mono ?_); rintro e w2 ⟨rfl, hb2⟩; have HX2 := keepb HX.out hb2; obtain ⟨⟨s0, s1, s2, s3, s4, s5, s6, s7⟩, _⟩ := cells8 HX2.out; have HB2 : Hid (Below w.heap.size w w2) := HBX.out.trans (hb2.mono HBX.out.size); clear hb2))
    go_ret
    exact ⟨rfl, HB2.out⟩
  cases kh
  · obtain rfl : r = 3 := by rw [hr]; unfold coinR; rw [if_pos (.inr hkh.symm)]
    clear hkr hkh hkv hr
    go_enter Tryd.func20, Tryd.ntmps20
    go_wp2_with (first | (go_at_call 35; (with_reducible refine hrf.mono ?_); rintro e w2 ⟨rfl, hb2⟩; have HX2 := keepb HX.out hb2; obtain ⟨⟨s0, s1, s2, s3, s4, s5, s6, s7⟩, _⟩ := cells8 HX2.out; have HB2 : Hid (Below w.heap.size w w2) := HBX.out.trans (hb2.mono HBX.out.size); clear hb2) | (go_at_call 36; refine (hht _).mono ?_; rintro e w' ⟨rfl, hw⟩; have hw2 := hw.symm; subst hw2))
    go_ret
    exact ⟨rfl, HB2.out⟩
  have hno : ¬ (refB (p, q) = false ∨ inB h 0 999 = false) := by
    rintro (e | e)
    · rw [← hkr] at e; cases e
    · rw [← hkh] at e; cases e
  cases kv
  · obtain rfl : r = 3 := by rw [hr]; unfold coinR; rw [if_neg hno, outR, if_pos hkv.symm]
    clear hkr hkh hkv hr hno
    go_enter Tryd.func20, Tryd.ntmps20
    go_wp2_with (first | (go_at_call 35; (with_reducible refine hrf.mono ?_); rintro e w2 ⟨rfl, hb2⟩; have HX2 := keepb HX.out hb2; obtain ⟨⟨s0, s1, s2, s3, s4, s5, s6, s7⟩, _⟩ := cells8 HX2.out; have HB2 : Hid (Below w.heap.size w w2) := HBX.out.trans (hb2.mono HBX.out.size); clear hb2) | (go_at_call 36; refine (hht _).mono ?_; rintro e w' ⟨rfl, hw⟩; have hw2 := hw.symm; subst hw2) | (go_at_call 37; refine (hvl _).mono ?_; rintro e w' ⟨rfl, hw⟩; have hw2 := hw.symm; subst hw2))
    go_ret
    exact ⟨rfl, HB2.out⟩
  · obtain rfl : r = ruleR l x y := by rw [hr]; unfold coinR; rw [if_neg hno, outR, if_neg (by rw [← hkv]; simp)]
    clear hkr hkh hkv hr hno
    go_enter Tryd.func20, Tryd.ntmps20
    go_wp2_with (first | (go_at_call 35; (with_reducible refine hrf.mono ?_); rintro e w2 ⟨rfl, hb2⟩; have HX2 := keepb HX.out hb2; obtain ⟨⟨s0, s1, s2, s3, s4, s5, s6, s7⟩, _⟩ := cells8 HX2.out; have HB2 : Hid (Below w.heap.size w w2) := HBX.out.trans (hb2.mono HBX.out.size); clear hb2) | (go_at_call 36; refine (hht _).mono ?_; rintro e w' ⟨rfl, hw⟩; have hw2 := hw.symm; subst hw2) | (go_at_call 37; refine (hvl _).mono ?_; rintro e w' ⟨rfl, hw⟩; have hw2 := hw.symm; subst hw2) | (go_at_call 38; refine (HRF.out w2 HB2.out).mono ?_; rintro e w3 ⟨rfl, hb3⟩))
    go_ret
    exact ⟨rfl, HB2.out.trans (hb3.mono HB2.out.size)⟩

/-- The last ref, in its block. -/
def LastR (w wr : World) (pr : Int × Int) : Prop := wr.heap[w.heap.size]? = some (.cells #[.int .i64 pr.1, .int .i64 pr.2] 42 (0, 0))

set_option maxRecDepth 20000 in
set_option maxHeartbeats 2000000 in
theorem iCoinsFault_any (n c : Nat) (a : Option Addr) (cs : List Co) (w : World) (hn : n ≤ 1048576) (hk : ∀ j, j < n → (cs.getD j C0).l.length ≤ 1048576) (hC : CAt w a n cs) :
    Calls Tryd.prog 11 #[.slice a n c] w fun e w' => e = .returned (.int .i64 (coinsR cs)) ∧ Below w.heap.size w w' := by
  have HC : Hid (CAt w a n cs) := hC
  have HN : Hid (cs.length = n) := hC.1
  have HKL : Hid (∀ j, j < n → (cs.getD j C0).l.length ≤ 1048576) := hk
  obtain ⟨r, hr⟩ : ∃ r, r = coinsR cs := ⟨_, rfl⟩
  rw [← hr]
  have HR : Hid (r = coinsR cs) := hr
  clear hC hk hr
  by_cases h40 : 40 < n
  · obtain rfl : r = 2 := by rw [HR.out]; unfold coinsR; rw [if_pos (by rw [HN.out]; exact h40)]
    go_enter Tryd.func11, Tryd.ntmps11
    go_wp2
    go_ret
    exact ⟨rfl, Below.refl _ _⟩
  have HR2 : Hid (r = csR (0, 0) cs) := by show _ = _; rw [HR.out]; unfold coinsR; rw [if_neg (by rw [HN.out]; exact h40)]
  go_enter Tryd.func11, Tryd.ntmps11
  go_wp2
  go_loopw [12] (fun i wr => ∃ j : Nat, j ≤ n ∧ i = .int .i64 j ∧ Below w.heap.size w wr ∧ Hid (r = csR (prevR cs j) (cs.drop j)) ∧ Hid (LastR w wr (prevR cs j))) (fun i _ => n - (intOf i).toNat)
  case atStart => exact ⟨0, Nat.zero_le _, rfl, below_box _, HR2.out, heap_alloc_new _ _⟩
  case round =>
    obtain ⟨j, hj, rfl, hbel, HT, HL⟩ := hrel
    by_cases hlt : j < n
    · rcases HC.out.2 with h0 | ⟨b, off, e0, l0, d0⟩
      · omega
      subst e0
      obtain ⟨o, ho⟩ : ∃ o, o = cs.getD j C0 := ⟨_, rfl⟩
      obtain ⟨ka, kc, p0, p4, p5⟩ := d0 j hlt
      have hol := HKL.out j hlt
      rw [← ho] at p0 p4 p5 hol
      have HS : Hid (o = cs.getD j C0) := ho
      obtain ⟨op, oq, ov, ol, ox, oy, oh, om⟩ := o
      obtain ⟨x0, x1, x2, x3, x4, x5, x6, x7⟩ := p0.below hbel l0
      simp only at x0 x1 x2 x3 x4 x5 x6 x7 hol p5
      have HNX : Hid (cs.drop j = (⟨op, oq, ov, ol, ox, oy, oh, om⟩ : Co) :: cs.drop (j + 1)) := next_coin HN.out hlt HS.out
      have hlL : w.heap.size < wr.heap.size := lt_of_block HL.out
      obtain ⟨pr, hpr⟩ : ∃ pr, pr = prevR cs j := ⟨_, rfl⟩
      have HPR : Hid (prevR cs j = pr) := hpr.symm
      obtain ⟨np, nq⟩ := pr
      have hbx : Below wr.heap.size wr (wr.alloc (.cells #[.int .i64 op, .int .i64 oq, .int .i64 ov, .slice ka ol.length kc, .int .i64 ox, .int .i64 oy, .int .i64 oh, .bool om] 49)) := below_box _
      have hcf := coinFault_any op oq ov ka ol.length kc ol ox oy oh om (wr.alloc (.cells #[.int .i64 op, .int .i64 oq, .int .i64 ov, .slice ka ol.length kc, .int .i64 ox, .int .i64 oy, .int .i64 oh, .bool om] 49)) hol ((p5.below hbel (Nat.le_refl _)).below hbx (Nat.le_refl _))
      obtain ⟨cd, hcd⟩ : ∃ c, c = coinR ⟨op, oq, ov, ol, ox, oy, oh, om⟩ := ⟨_, rfl⟩
      rw [← hcd] at hcf
      have HCE : Hid (coinR ⟨op, oq, ov, ol, ox, oy, oh, om⟩ = cd) := hcd.symm
      have HX : Hid ((wr.alloc (.cells #[.int .i64 op, .int .i64 oq, .int .i64 ov, .slice ka ol.length kc, .int .i64 ox, .int .i64 oy, .int .i64 oh, .bool om] 49)).heap[wr.heap.size]? = some (.cells #[.int .i64 op, .int .i64 oq, .int .i64 ov, .slice ka ol.length kc, .int .i64 ox, .int .i64 oy, .int .i64 oh, .bool om] 49 (0, 0))) := heap_alloc_new _ _
      have HBX : Hid (Below wr.heap.size wr (wr.alloc (.cells #[.int .i64 op, .int .i64 oq, .int .i64 ov, .slice ka ol.length kc, .int .i64 ox, .int .i64 oy, .int .i64 oh, .bool om] 49))) := hbx
      have HL0 : Hid (wr.heap[w.heap.size]? = some (.cells #[.int .i64 np, .int .i64 nq] 42 (0, 0))) := by have := HL.out; unfold LastR at this; rw [HPR.out] at this; exact this
      have HLX := keepb HL0.out HBX.out
      clear ho d0 p0 p4 p5 hcd hbx hpr
      have hki : (j : Int) < (n : Int) := by omega
      by_cases hc0 : cd = 0
      · subst hc0
        obtain ⟨kb, hkb⟩ : ∃ k, k = cmpR (op, oq) (np, nq) := ⟨_, rfl⟩
        have HKB : Hid (cmpR (op, oq) (np, nq) = kb) := hkb.symm
        have hcm : ∀ u, Calls Tryd.prog 21 #[.agg #[.int .i64 op, .int .i64 oq], .agg #[.int .i64 np, .int .i64 nq]] u fun e w' => e = .returned (.int .i64 kb) ∧ Below u.heap.size u w' := fun u => by rw [hkb]; exact compareRefs_any op oq np nq u
        clear hkb
        by_cases hle : kb ≤ 0
        · obtain rfl : r = 1 := by rw [HT.out, HNX.out, HPR.out, csR_form HCE.out (by rw [← HKB.out] at hle; exact hle)]
          go_wp2_with (first
            | (go_at_call 20; (with_reducible refine hcf.mono ?_); clear hcf; rintro e w2 ⟨rfl, hb2⟩; have HX2 := keepb HX.out hb2; have HL2 := keepb HLX.out hb2; obtain ⟨⟨s0, s1, s2, s3, s4, s5, s6, s7⟩, _⟩ := cells8 HX2.out; obtain ⟨y0, y1⟩ := cells2 HL2.out; have HB2 : Hid (Below w.heap.size w w2) := (hbel.trans (HBX.out.mono hbel.size)).trans (hb2.mono (by have := hbel.size; have := HBX.out.size; omega)); clear hb2)
            | (go_at_call 21; (with_reducible refine (hcm _).mono ?_); rintro e w3 ⟨rfl, hb3⟩))
          go_ret
          exact ⟨rfl, HB2.out.trans (hb3.mono HB2.out.size)⟩
        · have HTN : Hid (r = csR (prevR cs (j + 1)) (cs.drop (j + 1))) := by
            show _ = _
            rw [HT.out, HNX.out, HPR.out, csR_go HCE.out (by rw [← HKB.out] at hle; exact hle), prevR_succ HS.out]
          go_wp2_with (first
            | (go_at_call 20; (with_reducible refine hcf.mono ?_); clear hcf; rintro e w2 ⟨rfl, hb2⟩; have HX2 := keepb HX.out hb2; have HL2 := keepb HLX.out hb2; obtain ⟨⟨s0, s1, s2, s3, s4, s5, s6, s7⟩, _⟩ := cells8 HX2.out; obtain ⟨y0, y1⟩ := cells2 HL2.out; have HB2 : Hid (Below w.heap.size w w2) := (hbel.trans (HBX.out.mono hbel.size)).trans (hb2.mono (by have := hbel.size; have := HBX.out.size; omega)); clear hb2)
            | (go_at_call 21; (with_reducible refine (hcm _).mono ?_); rintro e w3 ⟨rfl, hb3⟩; have HX3 := keepb HX2.out hb3; have HL3 := keepb HL2.out hb3; clear s0 s1 s2 s3 s4 s5 s6 s7 y0 y1; obtain ⟨⟨s0, s1, s2, s3, s4, s5, s6, s7⟩, _⟩ := cells8 HX3.out; obtain ⟨y0, y1⟩ := cells2 HL3.out; have f0 := Joins.unfrozen_of_block HL3.out 0; have f1 := Joins.unfrozen_of_block HL3.out 1; have HB3 : Hid (Below w.heap.size w w3) := HB2.out.trans (hb3.mono HB2.out.size); clear hb3))
          go_roundw
          case rel =>
            refine ⟨j + 1, by omega, by go_num, (HB3.out.setCell (Nat.le_refl _) _).setCell (Nat.le_refl _) _, HTN, ?_⟩
            show LastR _ _ _
            rw [prevR_succ HS.out]
            have h1 := Joins.block_setCell (i := 0) HL3.out (.int .i64 op)
            have h2 := Joins.block_setCell (i := 1) h1 (.int .i64 oq)
            exact h2
          case measure => simp [intOf]; omega
      · obtain rfl : r = cd := by rw [HT.out, HNX.out, csR_bad HCE.out hc0]
        go_wp2_with (first
          | (go_at_call 20; (with_reducible refine hcf.mono ?_); clear hcf; rintro e w2 ⟨rfl, hb2⟩; have HB2 : Hid (Below w.heap.size w w2) := (hbel.trans (HBX.out.mono hbel.size)).trans (hb2.mono (by have := hbel.size; have := HBX.out.size; omega)); clear hb2))
        go_ret
        exact ⟨rfl, HB2.out⟩
    · obtain rfl : r = 0 := by rw [HT.out, List.drop_eq_nil_of_le (by rw [HN.out]; omega)]; rfl
      go_wp2
      go_ret
      exact ⟨rfl, hbel⟩

end Go.Proofs.YtlcdhhaikhieiaaDoor

namespace Go.Proofs.YtlcdhhaikhieiaaDoor
open Go.RowKit Go.Maps Go.WideMaps

theorem news_ints {w : World} {b off n : Nat} {l : List Int} (h : IAt w (some ⟨b, off, none⟩) n l) : ∀ j u, (ints l)[j]? = some u → w.cell? ((⟨b, off, none⟩ : Addr).add j) = some u := by
  intro j u hj
  have hjl : j < l.length := by
    have := (List.getElem?_eq_some_iff.1 hj).1
    simpa [ints] using this
  rcases h.2 with h0 | ⟨b', off', e, _, hc⟩
  · have := h.1; omega
  · cases e
    have := hc j (by rw [← h.1]; exact hjl)
    have ea : (⟨b, off, none⟩ : Addr).add j = ⟨b, off + j, none⟩ := by simp [Addr.add]
    rw [ea, this]
    simp [ints] at hj
    obtain ⟨a, ha, rfl⟩ := hj
    rw [List.getD, ha]; rfl
theorem one_ints (l : List Int) : ∀ u ∈ ints l, u.oneCell' = true := by
  intro u hu
  simp [ints] at hu
  obtain ⟨a, _, rfl⟩ := hu
  rfl

/-- Keys appended to an empty row that has just been laid. -/
theorem keys_added {W : World} {X b off n c base : Nat} {l : List Int} (hX : W.heap[X]? = some (.cells #[] 2 (0, 0))) (hbX : base ≤ X) (hI : IAt W (some ⟨b, off, none⟩) n l) (hn : n ≤ 1048576) (hb : base ≤ W.heap.size) :
    ∃ g cap w3, (Builtin.append_ #[43, 43] 43 #[.slice (some ⟨X, 0, none⟩) 0 0, .slice (some ⟨b, off, none⟩) n c]).run Tryd.prog W = .ok (.slice (some ⟨g, 0, none⟩) n cap) w3 ∧
      Hid (w3.ownsRow base 2 1 (.slice (some ⟨g, 0, none⟩) n cap) n (ints l) ∧ W.grownBy w3 (some X)) := by
  obtain ⟨i0, hi, hz0, hz1, hz2⟩ := info_parts Tryd.infoI64
  have hown := own_empty (size := 1) hX hbX
  obtain ⟨v', w3, hrun, hown', hgrow, hsome⟩ := run_append_own (P := Tryd.prog) W base 43 43 2 i0 (.int .i64 0) 1 8 Tryd.underlying43 hi hz0 hz1 hz2 rfl (by decide) (.slice (some ⟨X, 0, none⟩) 0 0) 0 [] hown ⟨b, off, none⟩ n c (ints l) (by simp [ints, hI.1]) (news_ints hI) (one_ints l) (by unfold maxLen; omega) (by omega) hb
  rw [Nat.zero_add, List.nil_append] at hown'
  rcases id hown'.2 with ⟨e1, _⟩ | ⟨g, cap, cur, e1, _⟩
  · have := hsome.1 e1; simp at this
  · subst e1
    exact ⟨g, cap, w3, hrun, hown', hgrow⟩

/-- An append in a plain region, out of its own run. -/
theorem wpList_append_runC {P : Program} {w : World} {ops : Array Oper} {rest : List Oper} {o : Oper} {a : Act} {Q : Exit → Act → World → Prop} (hgd : o.guard = none) (s x : Operand) (t : TypeId)
    (hop : o.op = .call { callee := .builtin .append, args := #[s, x], argTypes := #[t, t] }) {v u v' : Value} {w' : World} (hs : a.eval s = v) (hx : a.eval x = u) (hrun : (Builtin.append_ #[t, t] o.type #[v, u]).run P w = .ok v' w') (h : wpList P ops Q rest (a.put o.dst v') w') :
    wpList P ops Q (o :: rest) a w :=
  wpList_plain hgd fun _ hK => by
    unfold Oper.wp
    simp [execOp, hop, resolve, invoke, builtin, hs, hx, hrun, Result.andThen]
    exact hK _ _ h

theorem grown_new {w W w3 : World} {X : Nat} (hb : Below w.heap.size w W) (hg : W.grownBy w3 (some X)) (hX : w.heap.size ≤ X) : Below w.heap.size w w3 := hb.grown hg hb.size (fun k e => by cases e; exact hX)

end Go.Proofs.YtlcdhhaikhieiaaDoor

namespace Go.Proofs.YtlcdhhaikhieiaaDoor
open Go.RowKit Go.Shelf Go.Maps Go.WideMaps

def str (l : List UInt8) : ByteArray := ⟨l.toArray⟩

/-- A text of one byte, out of a slice of one. -/
theorem conv1 (c : Int) (W : World) (b cap : Nat) (h : W.cell? ⟨b, 0, none⟩ = some (.int .u8 c)) : (convert 22 9 (.slice (some ⟨b, 0, none⟩) 1 cap)).run Tryd.prog W = .ok (.string (str [UInt8.ofNat c.toNat])) W := by
  have := run_convert_bytes_arg W 22 5 Tryd.underlying22 Tryd.underlying5 b 0 1 cap [c] rfl (fun i hi => by
    obtain rfl : i = 0 := by omega
    simpa using h) 9 Tryd.underlying9
  rw [this]
  rfl
theorem conv1_new (c : Int) (W : World) (t : TypeId) (cap : Nat) : (convert 22 9 (.slice (some ⟨W.heap.size, 0, none⟩) 1 cap)).run Tryd.prog (W.alloc (.cells #[.int .u8 c] t)) = .ok (.string (str [UInt8.ofNat c.toNat])) (W.alloc (.cells #[.int .u8 c] t)) :=
  conv1 c _ _ cap (new1 W (.int .u8 c) t).1

theorem byte_kept {w w2 : World} {c : Int} {t : TypeId} (hb : Below (w.alloc (.cells #[.int .u8 c] t)).drew.heap.size (w.alloc (.cells #[.int .u8 c] t)).drew w2) : w2.cell? ⟨w.heap.size, 0, none⟩ = some (.int .u8 c) :=
  (hb.cell (p := ⟨w.heap.size, 0, none⟩) (by simp)).trans (new1 w (.int .u8 c) t).1

theorem str_append (a b : List UInt8) : str a ++ str b = str (a ++ b) := by
  apply ByteArray.ext
  simp [str]
theorem digits_len (q : Nat) (h : q ≤ 1000000000) : (Lib.decDigits q).length ≤ 10 := by
  have key : ∀ k q : Nat, q < 10 ^ k → 1 ≤ k → (Lib.decDigits q).length ≤ k := by
    intro k
    induction k with
    | zero => intro q _ h; omega
    | succ k ih =>
      intro q hq _
      rw [Lib.decDigits]
      split
      · simp
      · rw [List.length_append]
        have hk : 1 ≤ k := by
          rcases Nat.eq_zero_or_pos k with rfl | h
          · simp at hq; omega
          · exact h
        have := ih (q / 10) (by rw [Nat.pow_succ] at hq; omega) hk
        simp; omega
  exact key 10 q (by omega) (by omega)

set_option maxRecDepth 20000 in
set_option maxHeartbeats 1000000 in
theorem l2Digits_any (n : Nat) (hn : n ≤ 1000000000) : ∀ (w : World), Calls Tryd.prog 30 #[.int .i64 n] w fun e w' => e = .returned (.string (str (Lib.decDigits n))) ∧ Below w.heap.size w w' := by
  induction n using Nat.strongRecOn with
  | ind n ih =>
    intro w
    by_cases h : n < 10
    · rw [Lib.decDigits_one h]
      have hcv := conv1_new (48 + n) w 5 1
      have he : UInt8.ofNat (48 + (n : Int)).toNat = UInt8.ofNat (48 + n) := by congr 1
      rw [he] at hcv
      obtain ⟨ch, hch⟩ : ∃ c, c = UInt8.ofNat (48 + n) := ⟨_, rfl⟩
      rw [← hch] at hcv ⊢
      clear ih he hch
      go_enter Tryd.func30, Tryd.ntmps30
      go_wp2
      go_ret
      exact ⟨rfl, below_box _⟩
    · have ih' := ih (n / 10) (by omega) (by omega)
      have hd : Lib.decDigits n = Lib.decDigits (n / 10) ++ [UInt8.ofNat (48 + n % 10)] := by rw [Lib.decDigits, dif_neg h]
      obtain ⟨d, hdd⟩ : ∃ d, d = n % 10 := ⟨_, rfl⟩
      obtain ⟨q, hq⟩ : ∃ q, q = n / 10 := ⟨_, rfl⟩
      rw [hd, ← hq, ← hdd]
      rw [← hq] at ih'
      have a0 : IntKind.i64.wrap ((n : Int) / 10) = (q : Int) := by rw [IntWalk.i64_in _ (by omega)]; omega
      have a1 : (n : Int).tmod 10 = (d : Int) := by rw [Int.tmod_eq_emod_of_nonneg (by omega)]; omega
      have a2 : IntKind.i64.wrap (48 + (d : Int)) = 48 + (d : Int) := IntWalk.i64_in _ (by omega)
      have a3 : IntKind.u8.wrap (48 + (d : Int)) = 48 + (d : Int) := IntWalk.u8_in _ (by omega)
      obtain ⟨ch, hch⟩ : ∃ c, c = UInt8.ofNat (48 + d) := ⟨_, rfl⟩
      have HCV : Hid (∀ (W : World) (b : Nat), W.cell? ⟨b, 0, none⟩ = some (.int .u8 (48 + (d : Int))) → (convert 22 9 (.slice (some ⟨b, 0, none⟩) 1 1)).run Tryd.prog W = .ok (.string (str [ch])) W) := fun W b hW => by
        have := conv1 (48 + (d : Int)) W b 1 hW
        have he : UInt8.ofNat (48 + (d : Int)).toNat = UInt8.ofNat (48 + d) := by congr 1
        rw [he, ← hch] at this
        exact this
      have hcn : ∀ W : World, (convert 22 9 (.slice (some ⟨W.heap.size, 0, none⟩) 1 1)).run Tryd.prog (W.alloc (.cells #[.int .u8 (48 + (d : Int))] 5)) = .ok (.string (str [ch])) (W.alloc (.cells #[.int .u8 (48 + (d : Int))] 5)) := fun W => HCV.out _ _ (new1 W _ _).1
      have hcd : ∀ W : World, (convert 22 9 (.slice (some ⟨W.heap.size, 0, none⟩) 1 1)).run Tryd.prog (W.alloc (.cells #[.int .u8 (48 + (d : Int))] 5)).drew = .ok (.string (str [ch])) (W.alloc (.cells #[.int .u8 (48 + (d : Int))] 5)).drew := fun W => HCV.out _ _ (new1 W _ _).1
      rw [← hch]
      obtain ⟨qs, hqs⟩ : ∃ l, l = Lib.decDigits q := ⟨_, rfl⟩
      rw [← hqs] at ih' ⊢
      have hql : qs.length ≤ 10 := by rw [hqs]; exact digits_len q (by omega)
      have hap : str qs ++ str [ch] = str (qs ++ [ch]) := str_append _ _
      have hsz1 : (str qs).size ≤ 10 := hql
      have hsz2 : (str [ch]).size = 1 := rfl
      clear ih hd hch hqs hq hdd
      go_enter Tryd.func30, Tryd.ntmps30
      go_wp2
      go_region_with (first | (go_at_call 30; refine (ih' _).mono ?_; rintro e w2 ⟨rfl, hb2⟩; (first | (have hcw := HCV.out w2 w.heap.size (byte_kept hb2)) | skip)))
      all_goals
        go_wp2
        go_ret
      all_goals refine ⟨rfl, ?_⟩
      all_goals first | exact ((Below.refl w.heap.size w).drew.trans hb2).trans ((below_box _).mono hb2.size) | exact (below_box (.cells #[.int .u8 (48 + (d : Int))] 5)).drew.trans (hb2.mono (by simp))

end Go.Proofs.YtlcdhhaikhieiaaDoor

namespace Go.Proofs.YtlcdhhaikhieiaaDoor
open Go.RowKit Go.Shelf Go.Maps Go.WideMaps

def dec (k : Int) : List UInt8 := Lib.decDigits k.toNat
def tailT : List Int → List UInt8
  | [] => []
  | k :: t => 44 :: (dec k ++ tailT t)
def keysT : List Int → List UInt8
  | [] => []
  | k :: t => dec k ++ tailT t
def aftT (y : Int) : List UInt8 := if y = 0 then [] else [32, 97, 102, 116, 101, 114, 32] ++ dec y
def rtxR (l : List Int) (x y : Int) : List UInt8 := dec x ++ [32, 111, 102, 32] ++ keysT l ++ aftT y

theorem tailT_snoc (l : List Int) (k : Int) : tailT (l ++ [k]) = tailT l ++ (44 :: dec k) := by
  induction l with
  | nil => simp [tailT]
  | cons a t ih => simp [tailT, ih]
theorem keysT_snoc {l : List Int} (h : l ≠ []) (k : Int) : keysT (l ++ [k]) = keysT l ++ (44 :: dec k) := by
  cases l with
  | nil => exact absurd rfl h
  | cons a t => simp [keysT, tailT_snoc]
theorem dec_len {k : Int} (h : k ≤ 999) : (dec k).length ≤ 10 := digits_len _ (by omega)
theorem digits_int {k : Int} (h0 : 0 ≤ k) (h1 : k ≤ 999) (w : World) : Calls Tryd.prog 30 #[.int .i64 k] w fun e w' => e = .returned (.string (str (dec k))) ∧ Below w.heap.size w w' := by
  obtain ⟨n, rfl⟩ := Int.eq_ofNat_of_zero_le h0
  exact l2Digits_any n (by omega) w

end Go.Proofs.YtlcdhhaikhieiaaDoor

namespace Go.Proofs.YtlcdhhaikhieiaaDoor
open Go.RowKit Go.Shelf Go.Maps Go.WideMaps

def swp (c : UInt8) : UInt8 := if c = 32 then 95 else c
set_option maxRecDepth 20000 in
set_option maxHeartbeats 2000000 in
/-- The text of a rule that lies inside another thing. -/
theorem l2TextAt_any (P q n cap : Nat) (a : Option Addr) (l : List Int) (x y : Int) (w : World) (hn1 : 1 ≤ n) (hn3 : n ≤ 3) (hx : 0 ≤ x ∧ x ≤ 999) (hy : 0 ≤ y ∧ y ≤ 999) (hk : ∀ j, j < n → 0 ≤ l.getD j 0 ∧ l.getD j 0 ≤ 999) (hI : IAt w a n l) (hPl : P < w.heap.size) (p0 : w.cell? ⟨P, q, none⟩ = some (.slice a n cap)) (p1 : w.cell? ⟨P, q + 1, none⟩ = some (.int .i64 x)) (p2 : w.cell? ⟨P, q + 2, none⟩ = some (.int .i64 y)) :
    Calls Tryd.prog 31 #[.pointer (some ⟨P, q, none⟩)] w fun e w' => e = .returned (.string (str (rtxR l x y))) ∧ Below w.heap.size w w' := by
  obtain ⟨rt, hrt⟩ : ∃ r, r = rtxR l x y := ⟨_, rfl⟩
  rw [← hrt]
  have HRT : Hid (rt = rtxR l x y) := hrt
  clear hrt
  have HN : Hid (l.length = n) := hI.1
  rcases hI.2 with h0 | ⟨b, off, e0, l0, d0⟩
  · omega
  subst e0
  have HD : Hid (∀ j, j < n → w.cell? ⟨b, off + j, none⟩ = some (.int .i64 (l.getD j 0))) := d0
  have HK : Hid (∀ j, j < n → 0 ≤ l.getD j 0 ∧ l.getD j 0 ≤ 999) := hk
  obtain ⟨k0, hk0⟩ : ∃ k, k = l.getD 0 0 := ⟨_, rfl⟩
  have c0 := d0 0 (by omega)
  have hkb := hk 0 (by omega)
  rw [← hk0] at c0 hkb
  simp only [Nat.add_zero] at c0
  have HK0 : Hid (k0 = l.getD 0 0) := hk0
  obtain ⟨dx, hdx⟩ : ∃ o, o = dec x := ⟨_, rfl⟩
  obtain ⟨dk, hdk⟩ : ∃ o, o = dec k0 := ⟨_, rfl⟩
  have hlx : dx.length ≤ 10 := by rw [hdx]; exact dec_len hx.2
  have hlk : dk.length ≤ 10 := by rw [hdk]; exact dec_len hkb.2
  have hA : ∀ W, Calls Tryd.prog 30 #[.int .i64 x] W fun e w' => e = .returned (.string (str dx)) ∧ Below W.heap.size W w' := fun W => by rw [hdx]; exact digits_int hx.1 hx.2 W
  have hB : ∀ W, Calls Tryd.prog 30 #[.int .i64 k0] W fun e w' => e = .returned (.string (str dk)) ∧ Below W.heap.size W w' := fun W => by rw [hdk]; exact digits_int hkb.1 hkb.2 W
  have hss : ∀ z : List UInt8, (str z).size = z.length := fun _ => rfl
  have hof : ∀ z : List UInt8, str z ++ ⟨#[32, 111, 102, 32]⟩ = str (z ++ [32, 111, 102, 32]) := fun z => str_append z _
  have happ : ∀ z r : List UInt8, str z ++ str r = str (z ++ r) := str_append
  have HDX : Hid (dx = dec x) := hdx
  have HDK : Hid (dk = dec k0) := hdk
  clear hI hk d0 hk0 hdx hdk
  have hni : 0 < (n : Int) := by omega
  have hnn : 0 < n := by omega
  have hz1 : ¬ 9223372036854775807 < dx.length + 4 := by omega
  have hz2 : ¬ 9223372036854775807 < dx.length + 4 + dk.length := by omega
  go_enter Tryd.func31, Tryd.ntmps31
  go_wp2
  go_region_held3 (fun w' => w'.cell? ⟨P, q, none⟩ = some (.slice (some ⟨b, off, none⟩) n cap) ∧ w'.cell? ⟨P, q + 1, none⟩ = some (.int .i64 x) ∧ w'.cell? ⟨b, off, none⟩ = some (.int .i64 k0)) (go_keep)
    (first
      | (go_at_call 30; (first
          | (have hA' := hA; (with_reducible refine (hA' _).mono ?_); clear hA hA'; rintro e w1 ⟨rfl, hb1⟩; have z0 := (hb1.cell (p := ⟨P, q, none⟩) hPl).trans p0; have z1 := (hb1.cell (p := ⟨P, q + 1, none⟩) hPl).trans p1; have z2 := (hb1.cell (p := ⟨b, off, none⟩) l0).trans c0; have hs1 : w.heap.size ≤ w1.heap.size := hb1.size)
          | ((with_reducible refine (hB _).mono ?_); rintro e w2 ⟨rfl, hb2⟩; have y0 := (hb2.cell (p := ⟨P, q, none⟩) (Nat.lt_of_lt_of_le hPl hs1)).trans z0; have y1 := (hb2.cell (p := ⟨P, q + 1, none⟩) (Nat.lt_of_lt_of_le hPl hs1)).trans z1; have y2 := (hb2.cell (p := ⟨b, off, none⟩) (Nat.lt_of_lt_of_le l0 hs1)).trans z2))))
  have HB2 : Hid (Below w.heap.size w w2) := (show Below w.heap.size w w1 from (Below.refl _ _).drew.trans hb1).trans (hb2.mono hs1)
  obtain ⟨o0, ho0⟩ : ∃ o, o = dx ++ 32 :: 111 :: 102 :: 32 :: dk := ⟨_, rfl⟩
  have hlo : o0.length ≤ 24 := by rw [ho0]; simp; omega
  have HO0 : Hid (o0 = dec x ++ [32, 111, 102, 32] ++ keysT (l.take 1)) := by
    show _ = _
    have e1 : l.take 1 = [k0] := by
      have := take_next HN.out (show 0 < n by omega) HK0.out
      simpa using this
    rw [ho0, HDX.out, HDK.out, e1]
    simp [keysT, tailT]
  rw [← ho0]
  clear ho0 HDX HDK hz1 hz2 hof hB z0 z1 z2 y0 y1 y2 hb1 hb2 hs1 c0 hkb HK0 hlx hlk p1
  have hcm : ∀ z : List UInt8, str z ++ ⟨#[44]⟩ = str (z ++ [44]) := fun z => str_append z _
  have haf : ∀ z : List UInt8, str z ++ ⟨#[32, 97, 102, 116, 101, 114, 32]⟩ = str (z ++ [32, 97, 102, 116, 101, 114, 32]) := fun z => str_append z _
  go_wp2
  go_loopw [3, 4] (fun v i wr => ∃ j : Nat, 1 ≤ j ∧ j ≤ n ∧ i = .int .i64 j ∧ ∃ o : List UInt8, v = .string (str o) ∧ o.length ≤ 24 + 11 * j ∧ Hid (o = dec x ++ [32, 111, 102, 32] ++ keysT (l.take j)) ∧ Below w.heap.size w wr) (fun _ i _ => n - (intOf i).toNat)
  case atStart => exact ⟨1, Nat.le_refl _, hn1, rfl, o0, rfl, by omega, HO0, HB2.out⟩
  case round =>
    obtain ⟨j, hj1, hj, rfl, o, rfl, hol, HO, hbel⟩ := hrel
    have y0 := (hbel.cell (p := ⟨P, q, none⟩) hPl).trans p0
    have y2 := (hbel.cell (p := ⟨P, q + 2, none⟩) hPl).trans p2
    by_cases hlt : j < n
    · obtain ⟨kj, hkj⟩ : ∃ k, k = l.getD j 0 := ⟨_, rfl⟩
      have cj := (hbel.cell (p := ⟨b, off + j, none⟩) l0).trans (HD.out j hlt)
      have hkb := HK.out j hlt
      rw [← hkj] at cj hkb
      have HKJ : Hid (kj = l.getD j 0) := hkj
      obtain ⟨dj, hdj⟩ : ∃ o, o = dec kj := ⟨_, rfl⟩
      have hlj : dj.length ≤ 10 := by rw [hdj]; exact dec_len hkb.2
      have hB : ∀ W, Calls Tryd.prog 30 #[.int .i64 kj] W fun e w' => e = .returned (.string (str dj)) ∧ Below W.heap.size W w' := fun W => by rw [hdj]; exact digits_int hkb.1 hkb.2 W
      have HDJ : Hid (dj = dec kj) := hdj
      clear hkj hdj hkb
      have hki : (j : Int) < (n : Int) := by omega
      have hz1 : ¬ 9223372036854775807 < o.length + 1 := by omega
      have hz2 : ¬ 9223372036854775807 < o.length + 1 + dj.length := by omega
      go_wp2_with (go_at_call 30; refine (hB _).mono ?_; rintro e w3 ⟨rfl, hb3⟩)
      go_roundw
      case rel =>
        refine ⟨j + 1, by omega, by omega, by go_num, _, rfl, by simp; omega, ?_, hbel.trans (hb3.mono hbel.size)⟩
        show _ = _
        have e1 := take_next HN.out hlt HKJ.out
        have e2 : l.take j ≠ [] := by
          intro e
          have := congrArg List.length e
          rw [List.length_take, HN.out] at this
          simp at this
          omega
        rw [e1, keysT_snoc e2, HO.out, HDJ.out]
        simp
      case measure => simp [intOf]; omega
    · have e1 : l.take j = l := take_all HN.out hlt
      have HO2 : Hid (o = dec x ++ [32, 111, 102, 32] ++ keysT l) := by show _ = _; rw [HO.out, e1]
      clear HO e1
      by_cases hy0 : y = 0
      · subst hy0
        obtain rfl : rt = o := by rw [HRT.out, HO2.out]; simp [rtxR, aftT]
        go_wp2
        go_ret
        exact ⟨rfl, hbel⟩
      · obtain ⟨dy, hdy⟩ : ∃ o, o = dec y := ⟨_, rfl⟩
        obtain rfl : rt = o ++ ([32, 97, 102, 116, 101, 114, 32] ++ dy) := by rw [HRT.out, HO2.out, hdy]; simp [rtxR, aftT, hy0]
        have hly : dy.length ≤ 10 := by rw [hdy]; exact dec_len hy.2
        have hB : ∀ W, Calls Tryd.prog 30 #[.int .i64 y] W fun e w' => e = .returned (.string (str dy)) ∧ Below W.heap.size W w' := fun W => by rw [hdy]; exact digits_int hy.1 hy.2 W
        have hyb : (y == 0) = false := by simpa using hy0
        have hz1 : ¬ 9223372036854775807 < o.length + 7 := by omega
        have hz2 : ¬ 9223372036854775807 < o.length + 7 + dy.length := by omega
        clear hdy
        go_wp2_with (go_at_call 30; refine (hB _).mono ?_; rintro e w3 ⟨rfl, hb3⟩)
        go_ret
        exact ⟨by simp, hbel.trans (hb3.mono hbel.size)⟩

end Go.Proofs.YtlcdhhaikhieiaaDoor

namespace Go.Proofs.YtlcdhhaikhieiaaDoor
open Go.RowKit Go.Shelf Go.Maps Go.WideMaps

theorem digits_big {k : Int} (h0 : 0 ≤ k) (h1 : k ≤ 1000000) (w : World) : Calls Tryd.prog 30 #[.int .i64 k] w fun e w' => e = .returned (.string (str (dec k))) ∧ Below w.heap.size w w' := by
  obtain ⟨n, rfl⟩ := Int.eq_ofNat_of_zero_le h0
  exact l2Digits_any n (by omega) w
theorem dec_big {k : Int} (h : k ≤ 1000000) : (dec k).length ≤ 10 := digits_len _ (by omega)

def kindT (k : Int) : List UInt8 := if k = 0 then [112, 97, 121] else if k = 1 then [106, 111, 105, 110, 32] else [108, 101, 97, 118, 101, 32]
def headT (k f : Int) : List UInt8 := kindT k ++ (if k = 0 then [] else dec f)
def refT (r : Int × Int) : List UInt8 := dec r.1 ++ (58 :: dec r.2)
def refsT : List (Int × Int) → List UInt8
  | [] => []
  | r :: t => 32 :: (refT r ++ t.flatMap fun r => 43 :: refT r)
def outT (o : Ou) : List UInt8 := 32 :: (dec o.v ++ (61 :: (rtxR o.l o.x o.y).map swp))
def txT (k f : Int) (rs : List (Int × Int)) (os : List Ou) : List UInt8 := headT k f ++ refsT rs ++ os.flatMap outT

structure OutOk (o : Ou) : Prop where
  v : 0 ≤ o.v ∧ o.v ≤ 1000000
  n : 1 ≤ o.l.length ∧ o.l.length ≤ 3
  x : 0 ≤ o.x ∧ o.x ≤ 999
  y : 0 ≤ o.y ∧ o.y ≤ 999
  k : ∀ j, j < o.l.length → 0 ≤ o.l.getD j 0 ∧ o.l.getD j 0 ≤ 999
theorem tail_len {l : List Int} (hk : ∀ k ∈ l, k ≤ 999) : (tailT l).length ≤ 11 * l.length := by
  induction l with
  | nil => simp [tailT]
  | cons a t ih =>
    have h1 := dec_len (hk a (by simp))
    have h2 := ih fun k hk' => hk k (by simp [hk'])
    simp [tailT]; omega
theorem rtx_len {o : Ou} (h : OutOk o) : (rtxR o.l o.x o.y).length ≤ 100 := by
  have hx := dec_len h.x.2
  have hy := dec_len h.y.2
  have hk : ∀ k ∈ o.l, k ≤ 999 := fun k hk => by
    obtain ⟨j, hj, e⟩ := List.getElem_of_mem hk
    have := (h.k j hj).2
    simpa [List.getD, hj, e] using this
  have hn := h.n
  have h1 : (keysT o.l).length ≤ 11 * o.l.length := by
    cases hl : o.l with
    | nil => simp [keysT]
    | cons a t =>
      rw [hl] at hk
      have h1 := dec_len (hk a (by simp))
      have h2 := tail_len (l := t) fun k hk' => hk k (by simp [hk'])
      simp [keysT]; omega
  have h2 : (aftT o.y).length ≤ 17 := by unfold aftT; split <;> simp; omega
  unfold rtxR
  simp
  omega

theorem take_next2 {α : Type} {l : List α} {n j : Nat} {d g : α} (hn : l.length = n) (hj : j < n) (hg : g = l.getD j d) : l.take (j + 1) = l.take j ++ [g] := by
  subst hg
  rw [List.take_add_one, List.getElem?_eq_getElem (by omega), List.getD, List.getElem?_eq_getElem (by omega)]
  rfl

end Go.Proofs.YtlcdhhaikhieiaaDoor
