/- A ledger that comes in as a law's argument, read as data, gives its texts and its signatures. The program's fault of a transaction: kinds, refs, outs. The program's fault of a transaction: its parts and the whole. The program's TxFault keeps its contract. The program's order of refs: two numbers compared, the first that is not 0, two refs compared. The program's purse: a map from refs to coins, each with keys of its own. The program fills its purse with coins. A coin is taken out of the purse. Marks in coins are read back; the results that hold coins. The program's CoinAt. The program's CoinAt keeps its contract. The specification's copies of rules and coins. The coins of a purse come, each once, in some order, and are gathered in a row of their own. Has the purse a coin of a transaction? -/
import Derived.Test.YtdfijlcjmllplaaRows
import Derived.Test.YtdfijlcjmllplaaJn1
import Derived.ProofKit
import Derived.OpenShut
import Derived.ShutString
import Derived.ChangeOld
import Derived.SliceStrings
import Derived.Deep.SlicePairs
import Derived.Test.YtdfijlcjmllplaaJn2
import Derived.Deep.Slices
import Derived.Maps.OwnSet
import Derived.Maps.Range
import Derived.RangeFuncNested
import Derived.RangeFuncBound
import Derived.RangeFuncCalls
import Derived.RangeFuncLeaves
import Derived.RangeFuncBox
import Derived.RangeFuncWrites
import Derived.Shelf.Abstract
import Derived.Shelf.RegionOpen
import Derived.WalkKit
import Derived.OwnWalkIn
import Derived.TacticsInMore
import Derived.LoopNIn
import Derived.LoopIn
import Derived.Maps.OwnIn
import Derived.Maps.AppendAt
import Derived.Maps.RangeWalk
namespace Go.Proofs.Ytdfijlcjmllplaa
open Go.ChangeShapes Go.WideShapes Go.ChangeAt Go.RowKit Go.Joins Go.Deep
open Go.ChangeMaps (open_string shut_string)

theorem Try.own : ownKnob Try.prog.godebug = none := by kernel_rfl
section
variable {H : Type} {enc : TypeId × Value → H} {W : World} {base : Nat} {spare : Nat → Bool} {held : Bool}

theorem add_none (b off j : Nat) : (⟨b, off, none⟩ : Addr).add j = ⟨b, off + j, none⟩ := by
  simp only [Addr.add]
  split
  · simp_all
  · rfl
end

end Go.Proofs.Ytdfijlcjmllplaa

namespace Go.Proofs.Ytdfijlcjmllplaa
open Go.RowKit Go.Maps Go.WideMaps

theorem isValue_any (v : Int) (w : World) : Calls Try.prog 57 #[.int .i64 v] w fun e w' => e = .returned (.bool (inB v 1 1000000)) ∧ w' = w := by
  go_enter Try.func57, Try.ntmps57
  go_wp2_with (go_at_call 70; refine (isWithin_any _ _ _ _).mono ?_; rintro e w' ⟨rfl, rfl⟩)
  go_ret
  exact ⟨rfl, rfl⟩

theorem isTxId_any (v : Int) (w : World) : Calls Try.prog 62 #[.int .i64 v] w fun e w' => e = .returned (.bool (inB v 1 60)) ∧ w' = w := by
  go_enter Try.func62, Try.ntmps62
  go_wp2_with (go_at_call 70; refine (isWithin_any _ _ _ _).mono ?_; rintro e w' ⟨rfl, rfl⟩)
  go_ret
  exact ⟨rfl, rfl⟩

theorem isRef_any (a b : Int) (w : World) : Calls Try.prog 55 #[.agg #[.int .i64 a, .int .i64 b]] w fun e w' => e = .returned (.bool (refB (a, b))) ∧ Below w.heap.size w w' := by
  obtain ⟨ka, hka⟩ : ∃ k, k = inB a 1 60 := ⟨_, rfl⟩
  obtain ⟨kb, hkb⟩ : ∃ k, k = inB b 0 3 := ⟨_, rfl⟩
  have hr : refB (a, b) = (ka && kb) := by rw [hka, hkb]; rfl
  have h1 : ∀ v, Calls Try.prog 62 #[.int .i64 a] v fun e w' => e = .returned (.bool ka) ∧ w' = v := fun v => by rw [hka]; exact isTxId_any _ v
  have h2 : ∀ v, Calls Try.prog 70 #[.int .i64 b, .int .i64 0, .int .i64 3] v fun e w' => e = .returned (.bool kb) ∧ w' = v := fun v => by rw [hkb]; exact isWithin_any _ _ _ v
  rw [hr]
  clear hka hkb hr
  have hbx : Below w.heap.size w (w.alloc (.cells #[.int .i64 a, .int .i64 b] 38)) := below_box _
  cases ka <;> cases kb
  all_goals
    go_enter Try.func55, Try.ntmps55
    go_wp2_with (first | (go_at_call 62; refine (h1 _).mono ?_; rintro e w' ⟨rfl, hw⟩; have hw2 := hw.symm; subst hw2) | (go_at_call 70; refine (h2 _).mono ?_; rintro e w' ⟨rfl, hw⟩; have hw2 := hw.symm; subst hw2))
    go_ret
    exact ⟨rfl, hbx⟩

end Go.Proofs.Ytdfijlcjmllplaa

namespace Go.Proofs.Ytdfijlcjmllplaa
open Go.RowKit Go.Maps Go.WideMaps

set_option maxHeartbeats 1000000 in
theorem outsFault_any (m d : Nat) (oa : Option Addr) (os : List Ou) (w : World) (hm : m ≤ 1048576) (hk : ∀ j, j < m → (os.getD j O0).l.length ≤ 1048576) (hO : OAt w oa m os) :
    Calls Try.prog 63 #[.slice oa m d] w fun e w' => e = .returned (.int .i64 (outsR os)) ∧ Below w.heap.size w w' := by
  have HO : Hid (OAt w oa m os) := hO
  have HN : Hid (os.length = m) := hO.1
  have HKL : Hid (∀ j, j < m → (os.getD j O0).l.length ≤ 1048576) := hk
  obtain ⟨r, hr⟩ : ∃ r, r = outsR os := ⟨_, rfl⟩
  rw [← hr]
  have HR : Hid (r = outsR os) := hr
  clear hO hk hr
  go_enter Try.func63, Try.ntmps63
  go_wp2
  go_loopw [8] (fun i wr => ∃ j : Nat, j ≤ m ∧ i = .int .i64 j ∧ Below w.heap.size w wr ∧ Hid (outsR os = outsR (os.drop j))) (fun i _ => m - (intOf i).toNat)
  case atStart => exact ⟨0, Nat.zero_le _, rfl, Below.refl _ _, by show _ = _; simp⟩
  case round =>
    obtain ⟨j, hj, rfl, hbel, HT⟩ := hrel
    by_cases hlt : j < m
    · rcases HO.out.2 with h0 | ⟨b, off, e0, l0, d0⟩
      · omega
      subst e0
      obtain ⟨o, ho⟩ : ∃ o, o = os.getD j O0 := ⟨_, rfl⟩
      obtain ⟨ka, kn, kc, p0, p1, p2, p3, p4, p5⟩ := d0 j hlt
      have hol := HKL.out j hlt
      rw [← ho] at p0 p2 p3 p5 hol
      have HS : Hid (o = os.getD j O0) := ho
      obtain ⟨ov, ol, ox, oy⟩ := o
      obtain rfl := p5.1
      have x0 := (hbel.cell (p := ⟨b, off + j * 4, none⟩) l0).trans p0
      have x1 := (hbel.cell (p := ⟨b, off + j * 4 + 1, none⟩) l0).trans p1
      have x2 := (hbel.cell (p := ⟨b, off + j * 4 + 2, none⟩) l0).trans p2
      have x3 := (hbel.cell (p := ⟨b, off + j * 4 + 3, none⟩) l0).trans p3
      simp only at x0 x2 x3
      obtain ⟨cd, hcd⟩ : ∃ c, c = ruleR ol ox oy := ⟨_, rfl⟩
      have hbx : Below wr.heap.size wr (wr.alloc (.cells #[.int .i64 ov, .slice ka ol.length kc, .int .i64 ox, .int .i64 oy] 36)) := below_box _
      have hlf := iRuleFault_any ol.length kc ka ol ox oy (wr.alloc (.cells #[.int .i64 ov, .slice ka ol.length kc, .int .i64 ox, .int .i64 oy] 36)) hol ((p5.below hbel (Nat.le_refl _)).below hbx (Nat.le_refl _))
      rw [← hcd] at hlf
      have HBX : Hid (Below wr.heap.size wr (wr.alloc (.cells #[.int .i64 ov, .slice ka ol.length kc, .int .i64 ox, .int .i64 oy] 36))) := hbx
      have HCD : Hid (cd = ruleR ol ox oy) := hcd
      obtain ⟨kv, hkv⟩ : ∃ k, k = inB ov 1 1000000 := ⟨_, rfl⟩
      have hin : ∀ v, Calls Try.prog 57 #[.int .i64 ov] v fun e w' => e = .returned (.bool kv) ∧ w' = v := fun v => by rw [hkv]; exact isValue_any _ v
      have HKV : Hid (kv = inB ov 1 1000000) := hkv
      have HNX : Hid (os.drop j = (⟨ov, ol, ox, oy⟩ : Ou) :: os.drop (j + 1)) := drop_next HN.out hlt HS.out
      clear ho d0 p0 p1 p2 p3 p4 p5 hol hcd hkv hbx
      have hki : (j : Int) < (m : Int) := by omega
      cases kv
      · obtain rfl : r = 3 := by rw [HR.out, HT.out, HNX.out, outsR, if_pos HKV.out.symm]
        go_wp2_with (go_at_call 57; refine (hin _).mono ?_; rintro e w' ⟨rfl, hw⟩; have hw2 := hw.symm; subst hw2)
        go_ret
        exact ⟨rfl, hbel.trans (HBX.out.mono hbel.size)⟩
      · by_cases hc0 : cd = 0
        · have HTN : Hid (outsR os = outsR (os.drop (j + 1))) := by
            show _ = _
            rw [HT.out, HNX.out, outsR, if_neg (by rw [← HKV.out]; simp), if_neg (by rw [← HCD.out, hc0]; simp)]
          go_wp2_with (first | (go_at_call 57; refine (hin _).mono ?_; rintro e w' ⟨rfl, hw⟩; have hw2 := hw.symm; subst hw2) | (go_at_call 58; refine hlf.mono ?_; rintro e w3 ⟨rfl, hb3⟩))
          go_roundw
          case rel => exact ⟨j + 1, by omega, by go_num, (hbel.trans (HBX.out.mono hbel.size)).trans (hb3.mono (by have := hbel.size; simp; omega)), HTN⟩
          case measure => simp [intOf]; omega
        · have e1 : outsR os = cd := by rw [HT.out, HNX.out, outsR, if_neg (by rw [← HKV.out]; simp), if_pos (by rw [← HCD.out]; exact hc0), ← HCD.out]
          obtain rfl : r = cd := by rw [HR.out, e1]
          clear e1
          go_wp2_with (first | (go_at_call 57; refine (hin _).mono ?_; rintro e w' ⟨rfl, hw⟩; have hw2 := hw.symm; subst hw2) | (go_at_call 58; refine hlf.mono ?_; rintro e w3 ⟨rfl, hb3⟩))
          go_ret
          exact ⟨rfl, (hbel.trans (HBX.out.mono hbel.size)).trans (hb3.mono (by have := hbel.size; simp; omega))⟩
    · obtain rfl : r = 0 := by rw [HR.out, HT.out]; exact drop_none HN.out hlt
      go_wp2
      go_ret
      exact ⟨rfl, hbel⟩

end Go.Proofs.Ytdfijlcjmllplaa

namespace Go.Proofs.Ytdfijlcjmllplaa
open Go.RowKit Go.Maps Go.WideMaps

end Go.Proofs.Ytdfijlcjmllplaa

namespace Go.Proofs.Ytdfijlcjmllplaa
open Go.RowKit Go.Maps Go.WideMaps

theorem isNaN_any (v : Int) (w : World) : Calls Try.prog 74 #[.int .i64 v] w fun e w' => e = .returned (.bool false) ∧ w' = w := by
  go_enter Try.func74, Try.ntmps74
  go_wp2
  go_ret
  exact ⟨by simp, rfl⟩

theorem cmpC_any (a b : Int) (w : World) : Calls Try.prog 60 #[.int .i64 a, .int .i64 b] w fun e w' => e = .returned (.int .i64 (cmpI a b)) ∧ w' = w := by
  have h0 : ∀ v u, Calls Try.prog 74 #[.int .i64 v] u fun e w' => e = .returned (.bool false) ∧ w' = u := isNaN_any
  by_cases h1 : a < b
  · have e : cmpI a b = -1 := by simp [cmpI, h1]
    rw [e]
    go_enter Try.func60, Try.ntmps60
    go_wp2_with (go_at_call 74; refine (h0 _ _).mono ?_; rintro e w' ⟨rfl, hw⟩; have hw2 := hw.symm; subst hw2)
    go_ret
    exact ⟨rfl, rfl⟩
  · by_cases h2 : b < a
    · have e : cmpI a b = 1 := by simp [cmpI, h1, h2]
      rw [e]
      go_enter Try.func60, Try.ntmps60
      go_wp2_with (go_at_call 74; refine (h0 _ _).mono ?_; rintro e w' ⟨rfl, hw⟩; have hw2 := hw.symm; subst hw2)
      go_ret
      exact ⟨rfl, rfl⟩
    · have e : cmpI a b = 0 := by simp [cmpI, h1, h2]
      rw [e]
      go_enter Try.func60, Try.ntmps60
      go_wp2_with (go_at_call 74; refine (h0 _ _).mono ?_; rintro e w' ⟨rfl, hw⟩; have hw2 := hw.symm; subst hw2)
      go_ret
      exact ⟨rfl, rfl⟩

/-- The first of two numbers that is not 0. -/
theorem cmpOr_any (B c : Nat) (a b : Int) (w : World) (h0 : w.cell? ⟨B, 0, none⟩ = some (.int .i64 a)) (h1 : w.cell? ⟨B, 1, none⟩ = some (.int .i64 b)) :
    Calls Try.prog 59 #[.slice (some ⟨B, 0, none⟩) 2 c] w fun e w' => e = .returned (.int .i64 (if a = 0 then b else a)) ∧ w' = w := by
  by_cases ha : a = 0
  · subst ha
    by_cases hb : b = 0
    · subst hb
      go_enter Try.func59, Try.ntmps59
      go_wp2
      refine wp_loop_rounds 3 ?_
      rw [rounds_succ]
      go_wp2
      rw [rounds_succ]
      go_wp2
      rw [rounds_succ]
      go_wp2
      go_ret
      exact ⟨rfl, rfl⟩
    · have e : (b != 0) = true := by simp [hb]
      go_enter Try.func59, Try.ntmps59
      go_wp2
      refine wp_loop_rounds 2 ?_
      rw [rounds_succ]
      go_wp2
      rw [rounds_succ]
      go_wp2
      go_ret
      exact ⟨rfl, rfl⟩
  · have e : (a != 0) = true := by simp [ha]
    rw [if_neg ha]
    go_enter Try.func59, Try.ntmps59
    go_wp2
    refine wp_loop_rounds 1 ?_
    rw [rounds_succ]
    go_wp2
    go_ret
    exact ⟨rfl, rfl⟩

set_option maxRecDepth 20000 in
set_option maxHeartbeats 4000000 in
theorem compareRefs_more (a b c d : Int) (w : World) : Calls Try.prog 34 #[.agg #[.int .i64 a, .int .i64 b], .agg #[.int .i64 c, .int .i64 d]] w fun e w' => e = .returned (.int .i64 (cmpR (a, b) (c, d))) ∧ Below w.heap.size w w' ∧ w.drawn ≤ w'.drawn := by
  obtain ⟨t0, t1, t2⟩ := blocks2 w (.cells #[.int .i64 a, .int .i64 b] 38) (.cells #[.int .i64 c, .int .i64 d] 38)
  have hbx : Below w.heap.size w ((w.alloc (.cells #[.int .i64 a, .int .i64 b] 38)).alloc (.cells #[.int .i64 c, .int .i64 d] 38)) := below_box2 _ _
  obtain ⟨p, hp⟩ : ∃ p, p = cmpI a c := ⟨_, rfl⟩
  obtain ⟨q, hq⟩ : ∃ q, q = cmpI b d := ⟨_, rfl⟩
  have hr : cmpR (a, b) (c, d) = if p = 0 then q else p := by rw [hp, hq]; rfl
  have h1 : ∀ v, Calls Try.prog 60 #[.int .i64 a, .int .i64 c] v fun e w' => e = .returned (.int .i64 p) ∧ w' = v := fun v => by rw [hp]; exact cmpC_any _ _ v
  have h2 : ∀ v, Calls Try.prog 60 #[.int .i64 b, .int .i64 d] v fun e w' => e = .returned (.int .i64 q) ∧ w' = v := fun v => by rw [hq]; exact cmpC_any _ _ v
  rw [hr]
  obtain ⟨r, h3⟩ : ∃ r, r = if p = 0 then q else p := ⟨_, rfl⟩
  rw [← h3]
  have H3 : Hid ((if p = 0 then q else p) = r) := h3.symm
  clear hp hq hr h3
  obtain ⟨W, hW⟩ : ∃ W, W = (w.alloc (.cells #[.int .i64 a, .int .i64 b] 38)).alloc (.cells #[.int .i64 c, .int .i64 d] 38) := ⟨_, rfl⟩
  go_enter Try.func34, Try.ntmps34
  go_wp2
  rw [← hW] at t0 t1 t2 hbx ⊢
  have HDR : Hid (W.drawn = w.drawn) := by rw [hW]; rfl
  clear hW
  obtain ⟨s0, s1⟩ := cells2 t0
  obtain ⟨s2, s3⟩ := cells2 t1
  have hn0 : (W.alloc (.cells #[.int .i64 p, .int .i64 q] 3)).drew.heap[W.heap.size]? = some (.cells #[.int .i64 p, .int .i64 q] 3 (0, 0)) := heap_alloc_new _ _
  have hor := cmpOr_any W.heap.size 2 p q (W.alloc (.cells #[.int .i64 p, .int .i64 q] 3)).drew (cells2 hn0).1 (cells2 hn0).2
  have HBO : Hid (Below w.heap.size w (W.alloc (.cells #[.int .i64 p, .int .i64 q] 3)).drew) := (hbx.trans ((below_box _).mono hbx.size)).trans ((Below.refl _ _).drew)
  clear hn0
  rw [t2, H3.out] at hor
  have hl0 : w.heap.size < W.heap.size := by omega
  have hl1 : w.heap.size + 1 < W.heap.size := by omega
  go_region_held3 (fun w' => w'.cell? ⟨w.heap.size, 0, none⟩ = some (.int .i64 a) ∧ w'.cell? ⟨w.heap.size, 1, none⟩ = some (.int .i64 b) ∧ w'.cell? ⟨w.heap.size + 1, 0, none⟩ = some (.int .i64 c) ∧ w'.cell? ⟨w.heap.size + 1, 1, none⟩ = some (.int .i64 d)) (go_keep)
    (first
      | (go_at_call 60; (first | (with_reducible refine (h1 _).mono ?_) | (with_reducible refine (h2 _).mono ?_)); rintro e w' ⟨rfl, hw⟩; have hw2 := hw.symm; subst hw2)
      | (go_at_call 59; (with_reducible refine hor.mono ?_); rintro e w' ⟨rfl, hw⟩; have hw2 := hw.symm; subst hw2))
  go_wp2
  go_ret
  exact ⟨rfl, HBO.out, by show w.drawn ≤ W.drawn + 1; rw [HDR.out]; omega⟩

theorem compareRefs_any (a b c d : Int) (w : World) : Calls Try.prog 34 #[.agg #[.int .i64 a, .int .i64 b], .agg #[.int .i64 c, .int .i64 d]] w fun e w' => e = .returned (.int .i64 (cmpR (a, b) (c, d))) ∧ Below w.heap.size w w' :=
  (compareRefs_more a b c d w).mono fun _ _ h => ⟨h.1, h.2.1⟩

set_option maxHeartbeats 1000000 in
theorem coinFault_any (p q v : Int) (a : Option Addr) (n cap : Nat) (l : List Int) (x y h : Int) (m : Bool) (w : World) (hl : n ≤ 1048576) (hI : IAt w a n l) :
    Calls Try.prog 33 #[.agg #[.int .i64 p, .int .i64 q, .int .i64 v, .slice a n cap, .int .i64 x, .int .i64 y, .int .i64 h, .bool m]] w fun e w' => e = .returned (.int .i64 (coinR ⟨p, q, v, l, x, y, h, m⟩)) ∧ Below w.heap.size w w' := by
  obtain ⟨kr, hkr⟩ : ∃ k, k = refB (p, q) := ⟨_, rfl⟩
  obtain ⟨kh, hkh⟩ : ∃ k, k = inB h 0 999 := ⟨_, rfl⟩
  obtain ⟨kv, hkv⟩ : ∃ k, k = inB v 1 1000000 := ⟨_, rfl⟩
  have hrf := isRef_any p q (w.alloc (.cells #[.int .i64 p, .int .i64 q, .int .i64 v, .slice a n cap, .int .i64 x, .int .i64 y, .int .i64 h, .bool m] 41))
  rw [← hkr] at hrf
  have hht : ∀ u, Calls Try.prog 56 #[.int .i64 h] u fun e w' => e = .returned (.bool kh) ∧ w' = u := fun u => by rw [hkh]; exact isHeight_any _ u
  have hvl : ∀ u, Calls Try.prog 57 #[.int .i64 v] u fun e w' => e = .returned (.bool kv) ∧ w' = u := fun u => by rw [hkv]; exact isValue_any _ u
  have HRF : Hid (∀ u, Below w.heap.size w u → Calls Try.prog 58 #[.agg #[.slice a n cap, .int .i64 x, .int .i64 y]] u fun e w' => e = .returned (.int .i64 (ruleR l x y)) ∧ Below u.heap.size u w') := fun u hu => iRuleFault_any n cap a l x y u hl (hI.below hu (Nat.le_refl _))
  have HBX : Hid (Below w.heap.size w (w.alloc (.cells #[.int .i64 p, .int .i64 q, .int .i64 v, .slice a n cap, .int .i64 x, .int .i64 y, .int .i64 h, .bool m] 41))) := below_box _
  have HX : Hid ((w.alloc (.cells #[.int .i64 p, .int .i64 q, .int .i64 v, .slice a n cap, .int .i64 x, .int .i64 y, .int .i64 h, .bool m] 41)).heap[w.heap.size]? = some (.cells #[.int .i64 p, .int .i64 q, .int .i64 v, .slice a n cap, .int .i64 x, .int .i64 y, .int .i64 h, .bool m] 41 (0, 0))) := heap_alloc_new _ _
  obtain ⟨r, hr⟩ : ∃ r, r = coinR ⟨p, q, v, l, x, y, h, m⟩ := ⟨_, rfl⟩
  rw [← hr]
  clear hI
  cases kr
  · obtain rfl : r = 3 := by rw [hr]; unfold coinR; rw [if_pos (.inl hkr.symm)]
    clear hkr hkh hkv hr
    go_enter Try.func33, Try.ntmps33
    go_wp2_with (first | (go_at_call 55; (with_reducible refine hrf.mono ?_); rintro e w2 ⟨rfl, hb2⟩; have HX2 := keepb HX.out hb2; obtain ⟨⟨s0, s1, s2, s3, s4, s5, s6, s7⟩, _⟩ := cells8 HX2.out; have HB2 : Hid (Below w.heap.size w w2) := HBX.out.trans (hb2.mono HBX.out.size); clear hb2))
    go_ret
    exact ⟨rfl, HB2.out⟩
  cases kh
  · obtain rfl : r = 3 := by rw [hr]; unfold coinR; rw [if_pos (.inr hkh.symm)]
    clear hkr hkh hkv hr
    go_enter Try.func33, Try.ntmps33
    go_wp2_with (first | (go_at_call 55; (with_reducible refine hrf.mono ?_); rintro e w2 ⟨rfl, hb2⟩; have HX2 := keepb HX.out hb2; obtain ⟨⟨s0, s1, s2, s3, s4, s5, s6, s7⟩, _⟩ := cells8 HX2.out; have HB2 : Hid (Below w.heap.size w w2) := HBX.out.trans (hb2.mono HBX.out.size); clear hb2) | (go_at_call 56; refine (hht _).mono ?_; rintro e w' ⟨rfl, hw⟩; have hw2 := hw.symm; subst hw2))
    go_ret
    exact ⟨rfl, HB2.out⟩
  have hno : ¬ (refB (p, q) = false ∨ inB h 0 999 = false) := by
    rintro (e | e)
    · rw [← hkr] at e; cases e
    · rw [← hkh] at e; cases e
  cases kv
  · obtain rfl : r = 3 := by rw [hr]; unfold coinR; rw [if_neg hno, outR, if_pos hkv.symm]
    clear hkr hkh hkv hr hno
    go_enter Try.func33, Try.ntmps33
    go_wp2_with (first | (go_at_call 55; (with_reducible refine hrf.mono ?_); rintro e w2 ⟨rfl, hb2⟩; have HX2 := keepb HX.out hb2; obtain ⟨⟨s0, s1, s2, s3, s4, s5, s6, s7⟩, _⟩ := cells8 HX2.out; have HB2 : Hid (Below w.heap.size w w2) := HBX.out.trans (hb2.mono HBX.out.size); clear hb2) | (go_at_call 56; refine (hht _).mono ?_; rintro e w' ⟨rfl, hw⟩; have hw2 := hw.symm; subst hw2) | (go_at_call 57; refine (hvl _).mono ?_; rintro e w' ⟨rfl, hw⟩; have hw2 := hw.symm; subst hw2))
    go_ret
    exact ⟨rfl, HB2.out⟩
  · obtain rfl : r = ruleR l x y := by rw [hr]; unfold coinR; rw [if_neg hno, outR, if_neg (by rw [← hkv]; simp)]
    clear hkr hkh hkv hr hno
    go_enter Try.func33, Try.ntmps33
    go_wp2_with (first | (go_at_call 55; (with_reducible refine hrf.mono ?_); rintro e w2 ⟨rfl, hb2⟩; have HX2 := keepb HX.out hb2; obtain ⟨⟨s0, s1, s2, s3, s4, s5, s6, s7⟩, _⟩ := cells8 HX2.out; have HB2 : Hid (Below w.heap.size w w2) := HBX.out.trans (hb2.mono HBX.out.size); clear hb2) | (go_at_call 56; refine (hht _).mono ?_; rintro e w' ⟨rfl, hw⟩; have hw2 := hw.symm; subst hw2) | (go_at_call 57; refine (hvl _).mono ?_; rintro e w' ⟨rfl, hw⟩; have hw2 := hw.symm; subst hw2) | (go_at_call 58; refine (HRF.out w2 HB2.out).mono ?_; rintro e w3 ⟨rfl, hb3⟩))
    go_ret
    exact ⟨rfl, HB2.out.trans (hb3.mono HB2.out.size)⟩

/-- The last ref, in its block. -/
def LastR (w wr : World) (pr : Int × Int) : Prop := wr.heap[w.heap.size]? = some (.cells #[.int .i64 pr.1, .int .i64 pr.2] 38 (0, 0))

set_option maxRecDepth 20000 in
set_option maxHeartbeats 2000000 in
theorem iCoinsFault_any (n c : Nat) (a : Option Addr) (cs : List Co) (w : World) (hn : n ≤ 1048576) (hk : ∀ j, j < n → (cs.getD j C0).l.length ≤ 1048576) (hC : CAt w a n cs) :
    Calls Try.prog 11 #[.slice a n c] w fun e w' => e = .returned (.int .i64 (coinsR cs)) ∧ Below w.heap.size w w' := by
  have HC : Hid (CAt w a n cs) := hC
  have HN : Hid (cs.length = n) := hC.1
  have HKL : Hid (∀ j, j < n → (cs.getD j C0).l.length ≤ 1048576) := hk
  obtain ⟨r, hr⟩ : ∃ r, r = coinsR cs := ⟨_, rfl⟩
  rw [← hr]
  have HR : Hid (r = coinsR cs) := hr
  clear hC hk hr
  by_cases h40 : 40 < n
  · obtain rfl : r = 2 := by rw [HR.out]; unfold coinsR; rw [if_pos (by rw [HN.out]; exact h40)]
    go_enter Try.func11, Try.ntmps11
    go_wp2
    go_ret
    exact ⟨rfl, Below.refl _ _⟩
  have HR2 : Hid (r = csR (0, 0) cs) := by show _ = _; rw [HR.out]; unfold coinsR; rw [if_neg (by rw [HN.out]; exact h40)]
  go_enter Try.func11, Try.ntmps11
  go_wp2
  go_loopw [12] (fun i wr => ∃ j : Nat, j ≤ n ∧ i = .int .i64 j ∧ Below w.heap.size w wr ∧ Hid (r = csR (prevR cs j) (cs.drop j)) ∧ Hid (LastR w wr (prevR cs j))) (fun i _ => n - (intOf i).toNat)
  case atStart => exact ⟨0, Nat.zero_le _, rfl, below_box _, HR2.out, heap_alloc_new _ _⟩
  case round =>
    obtain ⟨j, hj, rfl, hbel, HT, HL⟩ := hrel
    by_cases hlt : j < n
    · rcases HC.out.2 with h0 | ⟨b, off, e0, l0, d0⟩
      · omega
      subst e0
      obtain ⟨o, ho⟩ : ∃ o, o = cs.getD j C0 := ⟨_, rfl⟩
      obtain ⟨ka, kc, p0, p4, p5⟩ := d0 j hlt
      have hol := HKL.out j hlt
      rw [← ho] at p0 p4 p5 hol
      have HS : Hid (o = cs.getD j C0) := ho
      obtain ⟨op, oq, ov, ol, ox, oy, oh, om⟩ := o
      obtain ⟨x0, x1, x2, x3, x4, x5, x6, x7⟩ := p0.below hbel l0
      simp only at x0 x1 x2 x3 x4 x5 x6 x7 hol p5
      have HNX : Hid (cs.drop j = (⟨op, oq, ov, ol, ox, oy, oh, om⟩ : Co) :: cs.drop (j + 1)) := next_coin HN.out hlt HS.out
      have hlL : w.heap.size < wr.heap.size := lt_of_block HL.out
      obtain ⟨pr, hpr⟩ : ∃ pr, pr = prevR cs j := ⟨_, rfl⟩
      have HPR : Hid (prevR cs j = pr) := hpr.symm
      obtain ⟨np, nq⟩ := pr
      have hbx : Below wr.heap.size wr (wr.alloc (.cells #[.int .i64 op, .int .i64 oq, .int .i64 ov, .slice ka ol.length kc, .int .i64 ox, .int .i64 oy, .int .i64 oh, .bool om] 41)) := below_box _
      have hcf := coinFault_any op oq ov ka ol.length kc ol ox oy oh om (wr.alloc (.cells #[.int .i64 op, .int .i64 oq, .int .i64 ov, .slice ka ol.length kc, .int .i64 ox, .int .i64 oy, .int .i64 oh, .bool om] 41)) hol ((p5.below hbel (Nat.le_refl _)).below hbx (Nat.le_refl _))
      obtain ⟨cd, hcd⟩ : ∃ c, c = coinR ⟨op, oq, ov, ol, ox, oy, oh, om⟩ := ⟨_, rfl⟩
      rw [← hcd] at hcf
      have HCE : Hid (coinR ⟨op, oq, ov, ol, ox, oy, oh, om⟩ = cd) := hcd.symm
      have HX : Hid ((wr.alloc (.cells #[.int .i64 op, .int .i64 oq, .int .i64 ov, .slice ka ol.length kc, .int .i64 ox, .int .i64 oy, .int .i64 oh, .bool om] 41)).heap[wr.heap.size]? = some (.cells #[.int .i64 op, .int .i64 oq, .int .i64 ov, .slice ka ol.length kc, .int .i64 ox, .int .i64 oy, .int .i64 oh, .bool om] 41 (0, 0))) := heap_alloc_new _ _
      have HBX : Hid (Below wr.heap.size wr (wr.alloc (.cells #[.int .i64 op, .int .i64 oq, .int .i64 ov, .slice ka ol.length kc, .int .i64 ox, .int .i64 oy, .int .i64 oh, .bool om] 41))) := hbx
      have HL0 : Hid (wr.heap[w.heap.size]? = some (.cells #[.int .i64 np, .int .i64 nq] 38 (0, 0))) := by have := HL.out; unfold LastR at this; rw [HPR.out] at this; exact this
      have HLX := keepb HL0.out HBX.out
      clear ho d0 p0 p4 p5 hcd hbx hpr
      have hki : (j : Int) < (n : Int) := by omega
      by_cases hc0 : cd = 0
      · subst hc0
        obtain ⟨kb, hkb⟩ : ∃ k, k = cmpR (op, oq) (np, nq) := ⟨_, rfl⟩
        have HKB : Hid (cmpR (op, oq) (np, nq) = kb) := hkb.symm
        have hcm : ∀ u, Calls Try.prog 34 #[.agg #[.int .i64 op, .int .i64 oq], .agg #[.int .i64 np, .int .i64 nq]] u fun e w' => e = .returned (.int .i64 kb) ∧ Below u.heap.size u w' := fun u => by rw [hkb]; exact compareRefs_any op oq np nq u
        clear hkb
        by_cases hle : kb ≤ 0
        · obtain rfl : r = 1 := by rw [HT.out, HNX.out, HPR.out, csR_form HCE.out (by rw [← HKB.out] at hle; exact hle)]
          go_wp2_with (first
            | (go_at_call 33; (with_reducible refine hcf.mono ?_); clear hcf; rintro e w2 ⟨rfl, hb2⟩; have HX2 := keepb HX.out hb2; have HL2 := keepb HLX.out hb2; obtain ⟨⟨s0, s1, s2, s3, s4, s5, s6, s7⟩, _⟩ := cells8 HX2.out; obtain ⟨y0, y1⟩ := cells2 HL2.out; have HB2 : Hid (Below w.heap.size w w2) := (hbel.trans (HBX.out.mono hbel.size)).trans (hb2.mono (by have := hbel.size; have := HBX.out.size; omega)); clear hb2)
            | (go_at_call 34; (with_reducible refine (hcm _).mono ?_); rintro e w3 ⟨rfl, hb3⟩))
          go_ret
          exact ⟨rfl, HB2.out.trans (hb3.mono HB2.out.size)⟩
        · have HTN : Hid (r = csR (prevR cs (j + 1)) (cs.drop (j + 1))) := by
            show _ = _
            rw [HT.out, HNX.out, HPR.out, csR_go HCE.out (by rw [← HKB.out] at hle; exact hle), prevR_succ HS.out]
          go_wp2_with (first
            | (go_at_call 33; (with_reducible refine hcf.mono ?_); clear hcf; rintro e w2 ⟨rfl, hb2⟩; have HX2 := keepb HX.out hb2; have HL2 := keepb HLX.out hb2; obtain ⟨⟨s0, s1, s2, s3, s4, s5, s6, s7⟩, _⟩ := cells8 HX2.out; obtain ⟨y0, y1⟩ := cells2 HL2.out; have HB2 : Hid (Below w.heap.size w w2) := (hbel.trans (HBX.out.mono hbel.size)).trans (hb2.mono (by have := hbel.size; have := HBX.out.size; omega)); clear hb2)
            | (go_at_call 34; (with_reducible refine (hcm _).mono ?_); rintro e w3 ⟨rfl, hb3⟩; have HX3 := keepb HX2.out hb3; have HL3 := keepb HL2.out hb3; clear s0 s1 s2 s3 s4 s5 s6 s7 y0 y1; obtain ⟨⟨s0, s1, s2, s3, s4, s5, s6, s7⟩, _⟩ := cells8 HX3.out; obtain ⟨y0, y1⟩ := cells2 HL3.out; have f0 := Joins.unfrozen_of_block HL3.out 0; have f1 := Joins.unfrozen_of_block HL3.out 1; have HB3 : Hid (Below w.heap.size w w3) := HB2.out.trans (hb3.mono HB2.out.size); clear hb3))
          go_roundw
          case rel =>
            refine ⟨j + 1, by omega, by go_num, (HB3.out.setCell (Nat.le_refl _) _).setCell (Nat.le_refl _) _, HTN, ?_⟩
            show LastR _ _ _
            rw [prevR_succ HS.out]
            have h1 := Joins.block_setCell (i := 0) HL3.out (.int .i64 op)
            have h2 := Joins.block_setCell (i := 1) h1 (.int .i64 oq)
            exact h2
          case measure => simp [intOf]; omega
      · obtain rfl : r = cd := by rw [HT.out, HNX.out, csR_bad HCE.out hc0]
        go_wp2_with (first
          | (go_at_call 33; (with_reducible refine hcf.mono ?_); clear hcf; rintro e w2 ⟨rfl, hb2⟩; have HB2 : Hid (Below w.heap.size w w2) := (hbel.trans (HBX.out.mono hbel.size)).trans (hb2.mono (by have := hbel.size; have := HBX.out.size; omega)); clear hb2))
        go_ret
        exact ⟨rfl, HB2.out⟩
    · obtain rfl : r = 0 := by rw [HT.out, List.drop_eq_nil_of_le (by rw [HN.out]; omega)]; rfl
      go_wp2
      go_ret
      exact ⟨rfl, hbel⟩

end Go.Proofs.Ytdfijlcjmllplaa

namespace Go.Proofs.Ytdfijlcjmllplaa
open Go.RowKit Go.Maps Go.WideMaps

theorem kR : Keyed Try.prog 38 := Keyed.of_law (deep_law_laid Try.laidOut (m := 2) (by omega) (of_decide_eq_true (by kernel_rfl)) (by kernel_rfl) (by kernel_rfl))
theorem Try.cellsRf : Try.prog.cellsOf 38 = 2 := by kernel_rfl
theorem Try.cellsI64R : Try.prog.cellsOf 2 = 1 := by kernel_rfl
theorem Try.someTypesR : ∃ m, Try.prog.types.size = m + 1 := ⟨Try.prog.types.size - 1, by have : 0 < Try.prog.types.size := of_decide_eq_true (by kernel_rfl); omega⟩
theorem Try.cutRf : (Try.prog.cutTypes.any (·.2 == 38)) = false := by kernel_rfl
theorem Try.keyAtRf (m : Nat) : Try.prog.keyTypeAt (m + 2) 38 = true := by
  have h2 : Try.prog.keyTypeAt (m + 1) 2 = true := by unfold Program.keyTypeAt; rw [Try.underlying2]
  unfold Program.keyTypeAt
  rw [Try.underlying38]
  simp only [Try.cutRf, Try.stoodInHeld38]
  simp [h2]
theorem Try.keyRf : Try.prog.keyType 38 = true := by
  obtain ⟨m, hm⟩ := Try.someTypesR
  unfold Program.keyType
  rw [hm]
  exact Try.keyAtRf m
theorem Try.litI64R (m : Nat) {x : Int} (hx : (Lit.int .i64 x).wf = true) : Try.prog.keyLits (m + 1) 2 [.int .i64 x] = some [.int .i64 x] := by
  unfold Program.keyLits
  rw [Try.underlying2]
  simp [hx]
theorem Try.litsRf (m : Nat) {p q : Int} (hp : (Lit.int .i64 p).wf = true) (hq : (Lit.int .i64 q).wf = true) : Try.prog.keyLits (m + 2) 38 [.int .i64 p, .int .i64 q] = some [.int .i64 p, .int .i64 q] := by
  unfold Program.keyLits
  rw [Try.underlying38]
  simp [Try.cellsRf, Try.cellsI64R, Try.litI64R m hp, Try.litI64R m hq]
def encR (r : Int × Int) : Value := .agg #[.int .i64 r.1, .int .i64 r.2]
theorem encR_inj {a b : Int × Int} (h : encR a = encR b) : a = b := by
  simp [encR] at h
  exact Prod.ext h.1 h.2
theorem keyRf {r : Int × Int} (hp : (Lit.int .i64 r.1).wf = true) (hq : (Lit.int .i64 r.2).wf = true) : ∃ kl, keyOf Try.prog 38 (encR r) = some kl := by
  obtain ⟨m, hm⟩ := Try.someTypesR
  refine ⟨.string (keyBytes [.int .i64 r.1, .int .i64 r.2]), ?_⟩
  unfold encR
  have hf : (Value.agg #[.int .i64 r.1, .int .i64 r.2]).formed Try.prog 38 = true := by simp [Value.formed, Try.underlying38, Try.cellsRf]
  unfold keyOf
  rw [Try.underlying38]
  simp only [Try.keyRf, hf, hm, Bool.and_self, if_true]
  have hc : (Value.agg #[.int .i64 r.1, .int .i64 r.2]).cells.toList = [.int .i64 r.1, .int .i64 r.2] := rfl
  rw [hc, Try.litsRf m hp hq]
  rfl

set_option maxRecDepth 20000 in
theorem Try.litI64R_inv {m : Nat} {c : Value} {l : List Lit} (h : Try.prog.keyLits (m + 1) 2 [c] = some l) : ∃ x, c = .int .i64 x ∧ (Lit.int .i64 x).wf = true := by
  unfold Program.keyLits at h
  rw [Try.underlying2] at h
  cases c <;> simp at h
  rename_i k n
  obtain ⟨⟨rfl, hw⟩, _⟩ := h
  exact ⟨n, rfl, hw⟩
set_option maxRecDepth 20000 in
theorem keyRf_inv {key : Value} {kl : Lit} (h : keyOf Try.prog 38 key = some kl) : ∃ r : Int × Int, key = encR r ∧ (Lit.int .i64 r.1).wf = true ∧ (Lit.int .i64 r.2).wf = true := by
  obtain ⟨m, hm⟩ := Try.someTypesR
  unfold keyOf at h
  rw [Try.underlying38] at h
  simp only at h
  split at h
  · rename_i hc
    have hf : key.formed Try.prog 38 = true := by simpa [Try.keyRf] using hc
    cases key <;> simp [Value.formed, Try.underlying38, Try.cellsRf] at hf
    rename_i cs
    obtain ⟨cs⟩ := cs
    match cs, hf with
    | [c0, c1], _ =>
      have hcl : (Value.agg ⟨[c0, c1]⟩).cells.toList = [c0, c1] := rfl
      rw [hcl, hm] at h
      unfold Program.keyLits at h
      rw [Try.underlying38] at h
      simp [Try.cellsRf, Try.cellsI64R] at h
      cases h0 : Try.prog.keyLits (m + 1) 2 [c0] with
      | none => rw [h0] at h; simp at h
      | some l0 =>
        cases h1 : Try.prog.keyLits (m + 1) 2 [c1] with
        | none => rw [h0, h1] at h; simp at h
        | some l1 =>
          obtain ⟨x0, rfl, w0⟩ := Try.litI64R_inv h0
          obtain ⟨x1, rfl, w1⟩ := Try.litI64R_inv h1
          exact ⟨(x0, x1), rfl, w0, w1⟩
  · cases h

/-- A coin as the map holds it. -/
def coV (x : Co × Value) : Value := .agg #[.int .i64 x.1.p, .int .i64 x.1.q, .int .i64 x.1.v, x.2, .int .i64 x.1.x, .int .i64 x.1.y, .int .i64 x.1.h, .bool x.1.m]
def zeroC : Value := .agg #[.int .i64 0, .int .i64 0, .int .i64 0, .slice none 0 0, .int .i64 0, .int .i64 0, .int .i64 0, .bool false]
theorem zeroC_any (w : World) : (zeroValue 41).run Try.prog w = .ok zeroC w := by kernel_rfl
def Rv (v : Value) : Option (DataW Value × List MemPlace) := some (.held v, [])
def refOf (x : Co × Value) : Int × Int := (x.1.p, x.1.q)
def findP (ps : List (Co × Value)) (r : Int × Int) : Option (Co × Value) := ps.find? fun x => decide (refOf x = r)
def LookD (D : DataW Value) (kl : Lit) : Option (Co × Value) → Prop
  | none => Maps.has D kl = false ∧ ∀ zd, D.atKey kl zd = zd
  | some x => Maps.has D kl = true ∧ ∀ zd, D.atKey kl zd = .held (coV x)

/-- The purse in block B: what it tells of each ref; the keys lie in blocks from lo on, no two in one. -/
structure Pu (w : World) (lo B : Nat) (ps : List (Co × Value)) : Prop where
  map : ∃ D : DataW Value, w.ownsMap Try.prog 38 Rv B ps.length D ∧ Maps.size D = ps.length ∧ ∀ r kl, keyOf Try.prog 38 (encR r) = some kl → LookD D kl (findP ps r)
  rows : ∀ x ∈ ps, w.ownsRow lo 2 1 x.2 x.1.l.length (ints x.1.l)
  base : lo ≤ B
  apart : ps.Pairwise fun x y => ∀ b, x.2.ownBlock = some b → y.2.ownBlock ≠ some b
  refs : ps.Pairwise fun x y => refOf x ≠ refOf y
  wfs : ∀ x ∈ ps, (Lit.int .i64 x.1.p).wf = true ∧ (Lit.int .i64 x.1.q).wf = true

theorem ownsMap_tight {w : World} {k : TypeId} {R : Value → Option (DataW Value × List MemPlace)} {b n : Nat} {D : DataW Value} (h : w.ownsMap Try.prog k R b n D) : w.ownsMap Try.prog k R b (Maps.size D) D := by
  obtain ⟨es, clock, hb, F, _, rfl⟩ := h
  exact ⟨es, clock, hb, F, by simp [Maps.size, length_sorted], rfl⟩
theorem Pu.lt {w : World} {lo B : Nat} {ps : List (Co × Value)} (h : Pu w lo B ps) : B < w.heap.size := by obtain ⟨D, ho, _⟩ := h.map; exact ho.lt
theorem Pu.made {w : World} {lo : Nat} (h : lo ≤ w.heap.size) : Pu (w.alloc (.map #[] 0)) lo w.heap.size [] :=
  ⟨⟨.map [], World.ownsMap_made _ _ _ _, rfl, fun r kl _ => ⟨rfl, fun _ => rfl⟩⟩, fun x hx => (by cases hx), h, List.Pairwise.nil, List.Pairwise.nil, fun x hx => (by cases hx)⟩
theorem Pu.below {w w' : World} {lo B : Nat} {ps : List (Co × Value)} (h : Pu w lo B ps) (hb : Below w.heap.size w w') : Pu w' lo B ps := by
  obtain ⟨D, ho, hsz, hat⟩ := h.map
  exact ⟨⟨D, ho.kept (grown_of_below hb) (by simp), hsz, hat⟩, fun x hx => (h.rows x hx).kept (grown_of_below hb) (by cases Value.ownBlock x.2 <;> simp), h.base, h.apart, h.refs, h.wfs⟩
theorem Pu.len {w : World} {lo B : Nat} {ps : List (Co × Value)} (h : Pu w lo B ps) (ty : TypeId) : (Builtin.len_ #[58] ty #[.map (some B)]).run Try.prog w = .ok (.int .i64 (ps.length : Nat)) w := by
  obtain ⟨D, ho, hsz, _⟩ := h.map
  rw [← hsz]
  exact ho.len Try.underlying58 ty

theorem Pu.look {w : World} {lo B : Nat} {ps : List (Co × Value)} (h : Pu w lo B ps) {r : Int × Int} (hp : (Lit.int .i64 r.1).wf = true) (hq : (Lit.int .i64 r.2).wf = true) :
    (Instr.lookup 58 (.map (some B)) (encR r) true).run Try.prog w = .ok (.tuple #[((findP ps r).map coV).getD zeroC, .bool (findP ps r).isSome]) w := by
  obtain ⟨D, ho, _, hat⟩ := h.map
  obtain ⟨kl, hk⟩ := keyRf hp hq
  obtain ⟨v, pl, hrun, hv⟩ := ho.look_ok kR Try.underlying58 (zeroC_any w) (zd := .held zeroC) (zp := []) rfl hk
  have hl := hat r kl hk
  cases hf : findP ps r with
  | none =>
    rw [hf] at hl
    rw [hl.2] at hv
    have : v = zeroC := (show v = zeroC ∧ pl = [] by simpa [Rv] using hv).1
    rw [hrun, hl.1, this]; rfl
  | some x =>
    rw [hf] at hl
    rw [hl.2] at hv
    have : v = coV x := (show v = coV x ∧ pl = [] by simpa [Rv] using hv).1
    rw [hrun, hl.1, this]; rfl

theorem find_snoc {ps : List (Co × Value)} {x : Co × Value} {r : Int × Int} (h : findP ps (refOf x) = none) : findP (ps ++ [x]) r = if refOf x = r then some x else findP ps r := by
  unfold findP at *
  rw [List.find?_append]
  by_cases e : refOf x = r
  · rw [← e, h, if_pos rfl]; simp
  · rw [if_neg e]
    simp [e]

theorem Pu.store {w : World} {lo B : Nat} {ps : List (Co × Value)} (h : Pu w lo B ps) {x : Co × Value} (hp : (Lit.int .i64 x.1.p).wf = true) (hq : (Lit.int .i64 x.1.q).wf = true) (hn : findP ps (refOf x) = none) (hl : ps.length ≤ 1000)
    (hrow : w.ownsRow lo 2 1 x.2 x.1.l.length (ints x.1.l)) (hap : ∀ y ∈ ps, ∀ b, y.2.ownBlock = some b → x.2.ownBlock ≠ some b) :
    ∃ w', (Instr.mapUpdate 58 (.map (some B)) (encR (refOf x)) (coV x)).run Try.prog w = .ok () w' ∧ Pu w' lo B (ps ++ [x]) ∧ w.grownBy w' (some B) := by
  obtain ⟨D, ho, hsz, hat⟩ := h.map
  obtain ⟨kl, hk⟩ := keyRf (r := refOf x) hp hq
  have hno : Maps.has D kl = false := by have := hat (refOf x) kl hk; rw [hn] at this; exact this.1
  obtain ⟨w', hrun, ho', hg⟩ := ho.update kR Try.underlying58 (by unfold maxLen; omega) hk (d := .held (coV x)) (ps := []) rfl
  have nb : ∀ y : Co × Value, w.ownsRow lo 2 1 y.2 y.1.l.length (ints y.1.l) → y.2.ownBlock ≠ some B := fun y hy e => by
    obtain ⟨es, clock, hb, _⟩ := ho
    rcases hy.2 with ⟨e1, _⟩ | ⟨g, c, cur, e1, _, hh, _⟩
    · rw [e1] at e; cases e
    · rw [e1] at e
      have : g = B := by simpa [Value.ownBlock] using e
      rw [this, hb] at hh
      cases hh
  refine ⟨w', hrun, ⟨⟨_, by simpa using ho', by rw [size_put (ho.tidy kR), hno, hsz]; simp, fun r kl' hy => ?_⟩, fun y hy => ?_, h.base, ?_, ?_, fun y hy => ?_⟩, hg⟩
  · rw [find_snoc hn]
    by_cases e : refOf x = r
    · subst e
      rw [hk] at hy
      cases hy
      rw [if_pos rfl]
      exact ⟨has_put_same ho.isMap (kR.key hk) _, fun zd => atKey_put_same ho.isMap (kR.key hk) _ _⟩
    · rw [if_neg e]
      have hne : kl' ≠ kl := fun e2 => e (encR_inj (kR.inj (by rw [e2]; exact hk) hy)).symm.symm
      have hl2 := hat r kl' hy
      cases hf : findP ps r with
      | none =>
        rw [hf] at hl2
        exact ⟨(has_put_other hne _).trans hl2.1, fun zd => (atKey_put_other hne _ _).trans (hl2.2 zd)⟩
      | some y =>
        rw [hf] at hl2
        exact ⟨(has_put_other hne _).trans hl2.1, fun zd => (atKey_put_other hne _ _).trans (hl2.2 zd)⟩
  · rcases List.mem_append.1 hy with hy | hy
    · exact (h.rows y hy).kept hg (.inr (nb y (h.rows y hy)))
    · obtain rfl := List.mem_singleton.1 hy
      exact hrow.kept hg (.inr (nb y hrow))
  · rw [List.pairwise_append]
    refine ⟨h.apart, List.pairwise_singleton _ _, fun y hy z hz b hb => ?_⟩
    obtain rfl := List.mem_singleton.1 hz
    exact hap y hy b hb
  · rw [List.pairwise_append]
    refine ⟨h.refs, List.pairwise_singleton _ _, fun y hy z hz e => ?_⟩
    obtain rfl := List.mem_singleton.1 hz
    unfold findP at hn
    rw [List.find?_eq_none] at hn
    exact hn y hy (by simpa using e)
  · rcases List.mem_append.1 hy with hy | hy
    · exact h.wfs y hy
    · obtain rfl := List.mem_singleton.1 hy
      exact ⟨hp, hq⟩

end Go.Proofs.Ytdfijlcjmllplaa

namespace Go.Proofs.Ytdfijlcjmllplaa
open Go.RowKit Go.Maps Go.WideMaps

theorem news_ints {w : World} {b off n : Nat} {l : List Int} (h : IAt w (some ⟨b, off, none⟩) n l) : ∀ j u, (ints l)[j]? = some u → w.cell? ((⟨b, off, none⟩ : Addr).add j) = some u := by
  intro j u hj
  have hjl : j < l.length := by
    have := (List.getElem?_eq_some_iff.1 hj).1
    simpa [ints] using this
  rcases h.2 with h0 | ⟨b', off', e, _, hc⟩
  · have := h.1; omega
  · cases e
    have := hc j (by rw [← h.1]; exact hjl)
    have ea : (⟨b, off, none⟩ : Addr).add j = ⟨b, off + j, none⟩ := by simp [Addr.add]
    rw [ea, this]
    simp [ints] at hj
    obtain ⟨a, ha, rfl⟩ := hj
    rw [List.getD, ha]; rfl
theorem one_ints (l : List Int) : ∀ u ∈ ints l, u.oneCell' = true := by
  intro u hu
  simp [ints] at hu
  obtain ⟨a, _, rfl⟩ := hu
  rfl

/-- Keys appended to an empty row that has just been laid. -/
theorem keys_added {W : World} {X b off n c base : Nat} {l : List Int} (hX : W.heap[X]? = some (.cells #[] 2 (0, 0))) (hbX : base ≤ X) (hI : IAt W (some ⟨b, off, none⟩) n l) (hn : n ≤ 1048576) (hb : base ≤ W.heap.size) :
    ∃ g cap w3, (Builtin.append_ #[32, 32] 32 #[.slice (some ⟨X, 0, none⟩) 0 0, .slice (some ⟨b, off, none⟩) n c]).run Try.prog W = .ok (.slice (some ⟨g, 0, none⟩) n cap) w3 ∧
      Hid (w3.ownsRow base 2 1 (.slice (some ⟨g, 0, none⟩) n cap) n (ints l) ∧ W.grownBy w3 (some X)) := by
  obtain ⟨i0, hi, hz0, hz1, hz2⟩ := info_parts Try.infoI64
  have hown := own_empty (size := 1) hX hbX
  obtain ⟨v', w3, hrun, hown', hgrow, hsome⟩ := run_append_own (P := Try.prog) W base 32 32 2 i0 (.int .i64 0) 1 8 Try.underlying32 hi hz0 hz1 hz2 rfl (by decide) (.slice (some ⟨X, 0, none⟩) 0 0) 0 [] hown ⟨b, off, none⟩ n c (ints l) (by simp [ints, hI.1]) (news_ints hI) (one_ints l) (by unfold maxLen; omega) (by omega) hb
  rw [Nat.zero_add, List.nil_append] at hown'
  rcases id hown'.2 with ⟨e1, _⟩ | ⟨g, cap, cur, e1, _⟩
  · have := hsome.1 e1; simp at this
  · subst e1
    exact ⟨g, cap, w3, hrun, hown', hgrow⟩

/-- An append in a plain region, out of its own run. -/
theorem wpList_append_runC {P : Program} {w : World} {ops : Array Oper} {rest : List Oper} {o : Oper} {a : Act} {Q : Exit → Act → World → Prop} (hgd : o.guard = none) (s x : Operand) (t : TypeId)
    (hop : o.op = .call { callee := .builtin .append, args := #[s, x], argTypes := #[t, t] }) {v u v' : Value} {w' : World} (hs : a.eval s = v) (hx : a.eval x = u) (hrun : (Builtin.append_ #[t, t] o.type #[v, u]).run P w = .ok v' w') (h : wpList P ops Q rest (a.put o.dst v') w') :
    wpList P ops Q (o :: rest) a w :=
  wpList_plain hgd fun _ hK => by
    unfold Oper.wp
    simp [execOp, hop, resolve, invoke, builtin, hs, hx, hrun, Result.andThen]
    exact hK _ _ h

theorem grown_new {w W w3 : World} {X : Nat} (hb : Below w.heap.size w W) (hg : W.grownBy w3 (some X)) (hX : w.heap.size ≤ X) : Below w.heap.size w w3 := hb.grown hg hb.size (fun k e => by cases e; exact hX)

set_option maxRecDepth 20000 in
theorem clone_any (b off n cap : Nat) (l : List Int) (w : World) (hn : n ≤ 1048576) (hI : IAt w (some ⟨b, off, none⟩) n l) :
    Calls Try.prog 64 #[.slice (some ⟨b, off, none⟩) n cap] w fun e w' => ∃ g c, e = .returned (.slice (some ⟨g, 0, none⟩) n c) ∧ w'.ownsRow w.heap.size 2 1 (.slice (some ⟨g, 0, none⟩) n c) n (ints l) ∧ Below w.heap.size w w' := by
  have hbx : Below w.heap.size w (w.alloc (.cells #[] 2)) := below_box _
  obtain ⟨g, c, w3, hrun, HW⟩ := keys_added (W := w.alloc (.cells #[] 2)) (X := w.heap.size) (c := cap) (heap_alloc_new _ _) (Nat.le_refl _) (hI.below hbx (Nat.le_refl _)) hn hbx.size
  have HB : Hid (Below w.heap.size w (w.alloc (.cells #[] 2))) := hbx
  have hnil : ∀ W : World, (binOp BinOp.eql 32 (.slice (some ⟨b, off, none⟩) n cap) (.slice none 0 0)).run Try.prog W = .ok (.bool false) W := fun W => (by kernel_rfl)
  clear hI hbx
  go_enter Try.func64, Try.ntmps64
  go_wp2_with (first | (at_builtin; go_must (refine wpList_append_runC (by rfl) _ _ _ (by rfl) (by rfl) (by rfl) hrun ?_); clear hrun))
  go_ret
  exact ⟨g, c, rfl, HW.out.1, grown_new HB.out HW.out.2 (Nat.le_refl _)⟩

theorem Pu.set {w : World} {lo B b : Nat} {ps : List (Co × Value)} (h : Pu w lo B ps) (hB : B ≠ b) (hr : ∀ x ∈ ps, x.2.ownBlock ≠ some b) (i : Nat) (u : Value) : Pu (w.setCell ⟨b, i, none⟩ u) lo B ps := by
  obtain ⟨D, ho, hsz, hat⟩ := h.map
  exact ⟨⟨D, ho.setCell hB u, hsz, hat⟩, fun x hx => ownsRow_setCell_other (h.rows x hx) (a := ⟨b, i, none⟩) (hr x hx) u, h.base, h.apart, h.refs, h.wfs⟩
theorem Pu.newer {w : World} {lo B : Nat} {ps : List (Co × Value)} (h : Pu w lo B ps) {b : Nat} (hb : w.heap.size ≤ b) : ∀ x ∈ ps, x.2.ownBlock ≠ some b := fun x hx e => by
  have := ((h.rows x hx).lt b e).2
  omega

set_option maxRecDepth 20000 in
set_option maxHeartbeats 1000000 in
theorem put_any (B lo b off kc : Nat) (ps : List (Co × Value)) (op oq ov : Int) (ol : List Int) (ox oy oh : Int) (om : Bool) (w : World) (hP : Pu w lo B ps) (hlo : lo ≤ w.heap.size) (hlen : ol.length ≤ 1048576) (hI : IAt w (some ⟨b, off, none⟩) ol.length ol) (hp : (Lit.int .i64 op).wf = true) (hq : (Lit.int .i64 oq).wf = true) (hn : findP ps (op, oq) = none) (hl : ps.length ≤ 1000) :
    Calls Try.prog 44 #[.map (some B), .agg #[.int .i64 op, .int .i64 oq, .int .i64 ov, .slice (some ⟨b, off, none⟩) ol.length kc, .int .i64 ox, .int .i64 oy, .int .i64 oh, .bool om]] w fun e w' => e = .returned (.tuple #[]) ∧ Hid (∃ u, Pu w' lo B (ps ++ [(⟨op, oq, ov, ol, ox, oy, oh, om⟩, u)])) ∧ Chg w w' B (B + 1) := by
  have hbx : Below w.heap.size w (w.alloc (.cells #[.int .i64 op, .int .i64 oq, .int .i64 ov, .slice (some ⟨b, off, none⟩) ol.length kc, .int .i64 ox, .int .i64 oy, .int .i64 oh, .bool om] 41)) := below_box _
  have hC := clone_any b off ol.length kc ol (w.alloc (.cells #[.int .i64 op, .int .i64 oq, .int .i64 ov, .slice (some ⟨b, off, none⟩) ol.length kc, .int .i64 ox, .int .i64 oy, .int .i64 oh, .bool om] 41)) hlen (hI.below hbx (Nat.le_refl _))
  have HX : Hid ((w.alloc (.cells #[.int .i64 op, .int .i64 oq, .int .i64 ov, .slice (some ⟨b, off, none⟩) ol.length kc, .int .i64 ox, .int .i64 oy, .int .i64 oh, .bool om] 41)).heap[w.heap.size]? = some (.cells #[.int .i64 op, .int .i64 oq, .int .i64 ov, .slice (some ⟨b, off, none⟩) ol.length kc, .int .i64 ox, .int .i64 oy, .int .i64 oh, .bool om] 41 (0, 0))) := heap_alloc_new _ _
  have HBX : Hid (Below w.heap.size w (w.alloc (.cells #[.int .i64 op, .int .i64 oq, .int .i64 ov, .slice (some ⟨b, off, none⟩) ol.length kc, .int .i64 ox, .int .i64 oy, .int .i64 oh, .bool om] 41))) := hbx
  have HP : Hid (Pu w lo B ps) := hP
  have HN : Hid (findP ps (op, oq) = none) := hn
  have HWF : Hid ((Lit.int .i64 op).wf = true ∧ (Lit.int .i64 oq).wf = true) := ⟨hp, hq⟩
  clear hbx hI hP hn hp hq
  go_enter Try.func44, Try.ntmps44
  have key : ∀ w2 g c, w2.ownsRow (w.heap.size + 1) 2 1 (.slice (some ⟨g, 0, none⟩) ol.length c) ol.length (ints ol) → Below (w.heap.size + 1) (w.alloc (.cells #[.int .i64 op, .int .i64 oq, .int .i64 ov, .slice (some ⟨b, off, none⟩) ol.length kc, .int .i64 ox, .int .i64 oy, .int .i64 oh, .bool om] 41)) w2 →
      ∃ w', (Instr.mapUpdate 58 (.map (some B)) (.agg #[.int .i64 op, .int .i64 oq]) (.agg #[.int .i64 op, .int .i64 oq, .int .i64 ov, .slice (some ⟨g, 0, none⟩) ol.length c, .int .i64 ox, .int .i64 oy, .int .i64 oh, .bool om])).run Try.prog (w2.setCell ⟨w.heap.size, 3, none⟩ (.slice (some ⟨g, 0, none⟩) ol.length c)) = .ok () w' ∧
        Hid (Pu w' lo B (ps ++ [(⟨op, oq, ov, ol, ox, oy, oh, om⟩, .slice (some ⟨g, 0, none⟩) ol.length c)])) ∧ Hid (Chg w w' B (B + 1)) := by
    intro w2 g c hrow hb2
    have hsz : (w.alloc (.cells #[.int .i64 op, .int .i64 oq, .int .i64 ov, .slice (some ⟨b, off, none⟩) ol.length kc, .int .i64 ox, .int .i64 oy, .int .i64 oh, .bool om] 41)).heap.size = w.heap.size + 1 := by simp
    have hb2' : Below (w.alloc (.cells #[.int .i64 op, .int .i64 oq, .int .i64 ov, .slice (some ⟨b, off, none⟩) ol.length kc, .int .i64 ox, .int .i64 oy, .int .i64 oh, .bool om] 41)).heap.size (w.alloc (.cells #[.int .i64 op, .int .i64 oq, .int .i64 ov, .slice (some ⟨b, off, none⟩) ol.length kc, .int .i64 ox, .int .i64 oy, .int .i64 oh, .bool om] 41)) w2 := by rw [hsz]; exact hb2
    have hb3 : Below w.heap.size w w2 := HBX.out.trans (hb2.mono (by omega))
    have hBl := HP.out.lt
    have h1 : Pu w2 lo B ps := HP.out.below hb3
    have hgb := (hrow.lt g rfl).1
    have h2 := h1.set (b := w.heap.size) (by omega) (HP.out.newer (Nat.le_refl _)) 3 (.slice (some ⟨g, 0, none⟩) ol.length c)
    have hrow2 : (w2.setCell ⟨w.heap.size, 3, none⟩ (.slice (some ⟨g, 0, none⟩) ol.length c)).ownsRow lo 2 1 (.slice (some ⟨g, 0, none⟩) ol.length c) ol.length (ints ol) :=
      Joins.ownsRow_le (ownsRow_setCell_below hrow (a := ⟨w.heap.size, 3, none⟩) (show w.heap.size < _ by omega) _) (by omega)
    obtain ⟨w', hrun, hPu, hg⟩ := h2.store (x := (⟨op, oq, ov, ol, ox, oy, oh, om⟩, .slice (some ⟨g, 0, none⟩) ol.length c)) HWF.out.1 HWF.out.2 HN.out hl hrow2 (fun y hy b' hb' e => by
      have : g = b' := by simpa [Value.ownBlock] using e
      have := ((HP.out.rows y hy).lt b' hb').2
      omega)
    refine ⟨w', hrun, hPu, ?_⟩
    have c2 : Below w.heap.size w (w2.setCell ⟨w.heap.size, 3, none⟩ (.slice (some ⟨g, 0, none⟩) ol.length c)) := hb3.setCell (p := ⟨w.heap.size, 3, none⟩) (Nat.le_refl _) _
    exact (Chg.of_below c2 _ _).trans (Chg.of_grown hg fun k e => by cases e; omega)
  clear HWF HN
  go_wp2_with (first
    | (go_at_call 64; (with_reducible refine hC.mono ?_); clear hC; rintro e w2 ⟨g, c, rfl, hrow, hb2⟩; have hsz : (w.alloc (.cells #[.int .i64 op, .int .i64 oq, .int .i64 ov, .slice (some ⟨b, off, none⟩) ol.length kc, .int .i64 ox, .int .i64 oy, .int .i64 oh, .bool om] 41)).heap.size = w.heap.size + 1 := (by simp); rw [hsz] at hrow hb2; obtain ⟨w', hrun, HPU, HCH⟩ := key w2 g c hrow hb2; obtain ⟨⟨s0, s1, s2, s3, s4, s5, s6, s7⟩, f0, f1, f2, f3, f4, f5, f6, f7⟩ := cells8 ((hb2.block w.heap.size (by omega)).trans HX.out); clear hrow hb2 key))
  go_end0
  exact ⟨rfl, ⟨_, HPU.out⟩, HCH.out⟩

end Go.Proofs.Ytdfijlcjmllplaa

namespace Go.Proofs.Ytdfijlcjmllplaa
open Go.RowKit Go.Maps Go.WideMaps

def dropP (ps : List (Co × Value)) (r : Int × Int) : List (Co × Value) := ps.filter fun x => decide (refOf x ≠ r)
theorem find_drop {ps : List (Co × Value)} {r t : Int × Int} : findP (dropP ps r) t = if t = r then none else findP ps t := by
  unfold findP dropP
  induction ps with
  | nil => simp
  | cons x l ih =>
    by_cases e : refOf x = r
    · rw [List.filter_cons_of_neg (by simp [e]), ih]
      by_cases e2 : t = r
      · rw [if_pos e2, if_pos e2]
      · rw [if_neg e2, if_neg e2, List.find?_cons_of_neg (by simp; exact fun e3 => e2 (e3.symm.trans e))]
    · rw [List.filter_cons_of_pos (by simp [e])]
      by_cases e3 : refOf x = t
      · rw [List.find?_cons_of_pos (by simp [e3]), if_neg (fun e4 => e (e3.trans e4)), List.find?_cons_of_pos (by simp [e3])]
      · rw [List.find?_cons_of_neg (by simp [e3]), ih, List.find?_cons_of_neg (by simp [e3])]

theorem refs_inj {ps : List (Co × Value)} (h : ps.Pairwise fun x y => refOf x ≠ refOf y) : ∀ x ∈ ps, ∀ y ∈ ps, refOf x = refOf y → x = y := by
  induction ps with
  | nil => intro x hx; cases hx
  | cons a l ih =>
    rw [List.pairwise_cons] at h
    intro x hx y hy e
    rcases List.mem_cons.1 hx with e1 | h1 <;> rcases List.mem_cons.1 hy with e2 | h2
    · rw [e1, e2]
    · rw [e1] at e; exact absurd e (h.1 y h2)
    · rw [e2] at e; exact absurd e.symm (h.1 x h1)
    · exact ih h.2 x h1 y h2 e
theorem find_mem {ps : List (Co × Value)} (h : ps.Pairwise fun x y => refOf x ≠ refOf y) {x : Co × Value} (hx : x ∈ ps) : findP ps (refOf x) = some x := by
  cases hf : findP ps (refOf x) with
  | none =>
    unfold findP at hf
    rw [List.find?_eq_none] at hf
    exact absurd (by simp) (hf x hx)
  | some y =>
    unfold findP at hf
    have h1 := List.mem_of_find?_eq_some hf
    have h2 := List.find?_some hf
    rw [refs_inj h y h1 x hx (by simpa using h2)]
theorem find_get {ps : List (Co × Value)} {r : Int × Int} {x : Co × Value} (h : findP ps r = some x) : x ∈ ps ∧ refOf x = r := by
  unfold findP at h
  exact ⟨List.mem_of_find?_eq_some h, by simpa using List.find?_some h⟩
theorem drop_length {ps : List (Co × Value)} (h : ps.Pairwise fun x y => refOf x ≠ refOf y) {r : Int × Int} {x : Co × Value} (hx : findP ps r = some x) : (dropP ps r).length + 1 = ps.length := by
  induction ps with
  | nil => simp [findP] at hx
  | cons a l ih =>
    rw [List.pairwise_cons] at h
    by_cases e : refOf a = r
    · have h2 : dropP l r = l := by
        unfold dropP
        rw [List.filter_eq_self]
        intro y hy
        have := h.1 y hy
        rw [e] at this
        simpa using this.symm
      have h3 : dropP (a :: l) r = dropP l r := by unfold dropP; rw [List.filter_cons_of_neg (by simp [e])]
      rw [h3, h2]
      rfl
    · have h3 : dropP (a :: l) r = a :: dropP l r := by unfold dropP; rw [List.filter_cons_of_pos (by simp [e])]
      have h4 : findP l r = some x := by unfold findP at hx ⊢; rwa [List.find?_cons_of_neg (by simp [e])] at hx
      have := ih h.2 h4
      rw [h3]
      simp only [List.length_cons]
      omega

theorem Pu.drop {w : World} {lo B : Nat} {ps : List (Co × Value)} (h : Pu w lo B ps) {r : Int × Int} {x : Co × Value} (hx : findP ps r = some x) (hp : (Lit.int .i64 r.1).wf = true) (hq : (Lit.int .i64 r.2).wf = true) (ty : TypeId) :
    ∃ w', (Builtin.delete_ #[58, 38] ty #[.map (some B), encR r]).run Try.prog w = .ok (.tuple #[]) w' ∧ Pu w' lo B (dropP ps r) ∧ w.mapTurned w' B := by
  obtain ⟨D, ho, hsz, hat⟩ := h.map
  obtain ⟨kl, hk⟩ := keyRf (r := r) hp hq
  obtain ⟨w', hrun, ho', hg⟩ := ho.drop kR Try.underlying58 hk ty
  have hyes : Maps.has D kl = true := by have := hat r kl hk; rw [hx] at this; exact this.1
  have hs2 : Maps.size (D.del kl) = (dropP ps r).length := by
    have h1 := size_del (k := kl) (ho.tidy kR)
    have h2 := drop_length h.refs hx
    rw [hyes] at h1
    simp at h1
    omega
  have ho2 := ownsMap_tight ho'
  rw [hs2] at ho2
  have nb : ∀ y ∈ ps, y.2.ownBlock ≠ some B := fun y hy e => by
    obtain ⟨es, clock, hb, _⟩ := ho
    rcases (h.rows y hy).2 with ⟨e1, _⟩ | ⟨g, c, cur, e1, _, hh, _⟩
    · rw [e1] at e; cases e
    · rw [e1] at e
      have : g = B := by simpa [Value.ownBlock] using e
      rw [this, hb] at hh
      cases hh
  have hsub : ∀ y ∈ dropP ps r, y ∈ ps := fun y hy => (List.mem_filter.1 hy).1
  refine ⟨w', hrun, ⟨⟨D.del kl, ho2, hs2, fun t kl' ht => ?_⟩, fun y hy => (h.rows y (hsub y hy)).kept (hg.grown) (.inr (nb y (hsub y hy))), h.base, h.apart.filter _, h.refs.filter _, fun y hy => h.wfs y (hsub y hy)⟩, hg⟩
  rw [find_drop]
  by_cases e : t = r
  · subst e
    rw [hk] at ht
    cases ht
    rw [if_pos rfl]
    exact ⟨has_del_same, fun zd => atKey_del_same zd⟩
  · rw [if_neg e]
    have hne : kl' ≠ kl := fun e2 => e (encR_inj (kR.inj ht (by rw [e2]; exact hk)))
    have hl2 := hat t kl' ht
    cases hf : findP ps t with
    | none =>
      rw [hf] at hl2
      exact ⟨(has_del_other hne).trans hl2.1, fun zd => (atKey_del_other hne zd).trans (hl2.2 zd)⟩
    | some y =>
      rw [hf] at hl2
      exact ⟨(has_del_other hne).trans hl2.1, fun zd => (atKey_del_other hne zd).trans (hl2.2 zd)⟩

end Go.Proofs.Ytdfijlcjmllplaa

namespace Go.Proofs.Ytdfijlcjmllplaa
open Go.RowKit Go.Maps Go.WideMaps

/-- Coins of one's own, read as coins. -/
theorem COwn.at {w : World} {lo hi n : Nat} {v : Value} {f : Nat → Co} {kv : Nat → Value} (h : COwn w lo hi v n f kv) {cs : List Co} (hn : cs.length = n) (hc : ∀ j, j < n → cs.getD j C0 = f j) (hl : ∀ j, j < n → (f j).l.length ≤ 1048576) :
    ∃ a c, v = .slice a n c ∧ CAt w a n cs := by
  obtain ⟨xs, h1, h2⟩ := h.row
  rcases id h1.2 with ⟨rfl, rfl⟩ | ⟨g, cap, cur, rfl, hbg, hgg, hnc, hcm, _⟩
  · exact ⟨none, 0, rfl, hn, .inl rfl⟩
  · refine ⟨some ⟨g, 0, none⟩, cap, rfl, hn, .inr ⟨g, 0, rfl, (h1.lt g rfl).2, fun j hj => ?_⟩⟩
    have hk := (h.keys j hj).1
    have h5 := hl j hj
    obtain ⟨a0, a1, a2, a3, a4, a5, a6, a7⟩ := h2 j hj
    have hxl := h1.1
    rw [hc j hj]
    have cell : ∀ i, i < 8 → w.cell? ⟨g, 0 + j * 8 + i, none⟩ = xs[j * 8 + i]? := fun i hi => by rw [Nat.zero_add]; exact h1.cellAt (j * 8 + i) (by omega)
    have cell0 : w.cell? ⟨g, 0 + j * 8, none⟩ = xs[j * 8]? := cell 0 (by omega)
    rcases id hk.2 with ⟨e, e2⟩ | ⟨g', cap', cur', e, _⟩
    · refine ⟨none, 0, ⟨cell0.trans a0, (cell 1 (by omega)).trans a1, (cell 2 (by omega)).trans a2, ?_, (cell 4 (by omega)).trans a4, (cell 5 (by omega)).trans a5, (cell 6 (by omega)).trans a6, (cell 7 (by omega)).trans a7⟩, by unfold maxLen; omega, rfl, .inl e2⟩
      rw [cell 3 (by omega), a3, e, e2]
    · refine ⟨some ⟨g', 0, none⟩, cap', ⟨cell0.trans a0, (cell 1 (by omega)).trans a1, (cell 2 (by omega)).trans a2, ?_, (cell 4 (by omega)).trans a4, (cell 5 (by omega)).trans a5, (cell 6 (by omega)).trans a6, (cell 7 (by omega)).trans a7⟩, by unfold maxLen; omega, ?_⟩
      · rw [cell 3 (by omega), a3, e]
      · rw [e] at hk
        exact IAt.owned hk rfl

end Go.Proofs.Ytdfijlcjmllplaa

namespace Go.Proofs.Ytdfijlcjmllplaa
open Go.RowKit Go.Maps Go.WideMaps

theorem rises {pr : Int × Int} {cs : List Co} (h : csR pr cs = 0) : (∀ c ∈ cs, coinR c = 0) ∧ (∀ c ∈ cs, 0 < cmpR (c.p, c.q) pr) ∧ cs.Pairwise (fun a b => 0 < cmpR (b.p, b.q) (a.p, a.q)) := by
  induction cs generalizing pr with
  | nil => exact ⟨fun c hc => (by cases hc), fun c hc => (by cases hc), List.Pairwise.nil⟩
  | cons c t ih =>
    have h0 : coinR c = 0 := by
      by_cases e : coinR c = 0
      · exact e
      · rw [csR_bad rfl e] at h; exact absurd h e
    have h1 : ¬ cmpR (c.p, c.q) pr ≤ 0 := fun e => by rw [csR_form h0 e] at h; cases h
    rw [csR_go h0 h1] at h
    obtain ⟨i1, i2, i3⟩ := ih h
    refine ⟨fun d hd => ?_, fun d hd => ?_, List.Pairwise.cons (fun d hd => i2 d hd) i3⟩
    · rcases List.mem_cons.1 hd with rfl | hd
      · exact h0
      · exact i1 d hd
    · rcases List.mem_cons.1 hd with rfl | hd
      · omega
      · obtain ⟨p1, p2⟩ := pr
        have a := cmpR_pos.1 (i2 d hd)
        have b := cmpR_pos.1 (show 0 < cmpR (c.p, c.q) (p1, p2) by omega)
        exact cmpR_pos.2 (by omega)
theorem coin_more {c : Co} (h : coinR c = 0) : (1 ≤ c.p ∧ c.p ≤ 60) ∧ (0 ≤ c.q ∧ c.q ≤ 3) ∧ 1 ≤ c.l.length ∧ c.l.length ≤ 3 := by
  unfold coinR at h
  by_cases h1 : refB (c.p, c.q) = false ∨ inB c.h 0 999 = false
  · rw [if_pos h1] at h; cases h
  · rw [if_neg h1] at h; unfold outR at h
    have h2 : refB (c.p, c.q) = true := by cases e : refB (c.p, c.q); exact absurd (.inl e) h1; rfl
    by_cases h3 : inB c.v 1 1000000 = false
    · rw [if_pos h3] at h; cases h
    · rw [if_neg h3] at h; unfold ruleR at h
      by_cases h4 : inB c.l.length 1 3 = false
      · rw [if_pos h4] at h; cases h
      · have h5 : inB c.l.length 1 3 = true := by cases e : inB c.l.length 1 3; exact absurd e h4; rfl
        simp [refB, inB] at h2 h5
        omega
theorem coins_rise {cs : List Co} (h : coinsR cs = 0) : cs.length ≤ 40 ∧ (∀ c ∈ cs, coinR c = 0) ∧ cs.Pairwise (fun a b => 0 < cmpR (b.p, b.q) (a.p, a.q)) := by
  unfold coinsR at h
  by_cases e : 40 < cs.length
  · rw [if_pos e] at h; cases h
  · rw [if_neg e] at h; exact ⟨by omega, (rises h).1, (rises h).2.2⟩
theorem find_none {ps : List (Co × Value)} {L0 cs : List Co} {n j : Nat} {o : Co} (hn : cs.length = n) (hlt : j < n) (ho : o = cs.getD j C0) (hp : ps.map (·.1) = L0 ++ cs.take j) (hr : (L0 ++ cs).Pairwise (fun a b => (a.p, a.q) ≠ (b.p, b.q))) : findP ps (o.p, o.q) = none := by
  unfold findP
  rw [List.find?_eq_none]
  intro y hy
  have h1 : y.1 ∈ L0 ++ cs.take j := by rw [← hp]; exact List.mem_map.2 ⟨y, hy, rfl⟩
  have h2 : L0 ++ cs = (L0 ++ cs.take j) ++ cs.drop j := by rw [List.append_assoc, List.take_append_drop]
  rw [h2, List.pairwise_append] at hr
  have h3 := hr.2.2 y.1 h1 o (by rw [next_coin hn hlt ho]; exact List.mem_cons_self ..)
  intro e
  have e2 : refOf y = (o.p, o.q) := by simpa using e
  exact h3 (by simpa [refOf] using e2)
theorem rise_ne {cs : List Co} (h : cs.Pairwise (fun a b => 0 < cmpR (b.p, b.q) (a.p, a.q))) : cs.Pairwise (fun a b => (a.p, a.q) ≠ (b.p, b.q)) := by
  refine h.imp fun {a b} k e => ?_
  have := cmpR_pos.1 k
  simp at e
  omega

/-- What filling a purse comes to. -/
def FillR (w w' : World) (e : Ending) (cs : List Co) : Prop :=
  Below w.heap.size w w' ∧ ((coinsR cs ≠ 0 ∧ e = .returned (.tuple #[.map none, .int .i64 (coinsR cs)])) ∨ (coinsR cs = 0 ∧ ∃ B ps, e = .returned (.tuple #[.map (some B), .int .i64 0]) ∧ Pu w' w.heap.size B ps ∧ ps.map (·.1) = cs))

set_option maxRecDepth 20000 in
set_option maxHeartbeats 2000000 in
/-- All coins of a list are put into a purse that has none of their refs; the list is older memory than the purse. -/
theorem putAll_any (B lo n c : Nat) (a : Option Addr) (cs : List Co) (ps0 : List (Co × Value)) (w v : World) (hn : n ≤ 500) (hl0 : ps0.length ≤ 500) (hC : CAt w a n cs) (hok : ∀ c ∈ cs, coinR c = 0) (hap : (ps0.map (·.1) ++ cs).Pairwise (fun a b => (a.p, a.q) ≠ (b.p, b.q))) (hbv : Below w.heap.size w v) (hB : w.heap.size ≤ B) (hlo : lo ≤ v.heap.size) (hP : Pu v lo B ps0) :
    Calls Try.prog 41 #[.map (some B), .slice a n c] v fun e w' => e = .returned (.tuple #[]) ∧ Hid (∃ ps, Pu w' lo B ps ∧ ps.map (·.1) = ps0.map (·.1) ++ cs) ∧ Below w.heap.size w w' ∧ Chg v w' B (B + 1) := by
  have HC : Hid (CAt w a n cs) := hC
  have HN : Hid (cs.length = n) := hC.1
  have HOK : Hid (∀ c ∈ cs, coinR c = 0) := hok
  have HAP : Hid ((ps0.map (·.1) ++ cs).Pairwise (fun a b => (a.p, a.q) ≠ (b.p, b.q))) := hap
  have HPV : Hid (Pu v lo B ps0) := hP
  have HLB := hP.lt
  clear hC hok hap hP
  go_enter Try.func41, Try.ntmps41
  go_wp2
  go_loopw [8] (fun i wr => ∃ j : Nat, j ≤ n ∧ i = .int .i64 j ∧ Below w.heap.size w wr ∧ Hid (∃ ps, Pu wr lo B ps ∧ ps.map (·.1) = ps0.map (·.1) ++ cs.take j) ∧ Hid (Chg v wr B (B + 1))) (fun i _ => n - (intOf i).toNat)
  case atStart => exact ⟨0, Nat.zero_le _, rfl, hbv, ⟨ps0, HPV.out, by simp⟩, Chg.refl _ _ _⟩
  case round =>
    obtain ⟨j, hj, rfl, hbel, HP, HCH⟩ := hrel
    by_cases hlt : j < n
    · rcases HC.out.2 with h0 | ⟨b, off, e0, l0, d0⟩
      · omega
      subst e0
      obtain ⟨ps, hPu, hps⟩ := HP.out
      obtain ⟨o, ho⟩ : ∃ o, o = cs.getD j C0 := ⟨_, rfl⟩
      obtain ⟨ka, kc, p0, p4, p5⟩ := d0 j hlt
      rw [← ho] at p0 p4 p5
      have hmem : o ∈ cs := by
        have e : cs.getD j C0 = cs[j]'(by rw [HN.out]; exact hlt) := by simp [List.getD, List.getElem?_eq_getElem (show j < cs.length by rw [HN.out]; exact hlt)]
        rw [ho, e]; exact List.getElem_mem _
      obtain ⟨g1, g2, g3, g4⟩ := coin_more (HOK.out o hmem)
      have hfn := find_none HN.out hlt ho hps HAP.out
      have HNX : Hid (cs.take (j + 1) = cs.take j ++ [o]) := by
        have e : cs.getD j C0 = cs[j]'(by rw [HN.out]; exact hlt) := by simp [List.getD, List.getElem?_eq_getElem (show j < cs.length by rw [HN.out]; exact hlt)]
        show _ = _
        rw [List.take_add_one, ho, e, List.getElem?_eq_getElem (by rw [HN.out]; exact hlt)]; rfl
      have hpl : ps.length = ps0.length + j := by
        have := congrArg List.length hps
        rw [List.length_map, List.length_append, List.length_map, List.length_take] at this
        have := HN.out
        omega
      obtain ⟨op, oq, ov, ol, ox, oy, oh, om⟩ := o
      simp only at p0 p4 p5 g1 g2 g3 g4 hfn
      rcases p5.2 with h0 | ⟨kb, ko, ek, hkl, _⟩
      · omega
      subst ek
      obtain ⟨x0, x1, x2, x3, x4, x5, x6, x7⟩ := p0.below hbel l0
      simp only at x0 x1 x2 x3 x4 x5 x6 x7
      have hbx : Below wr.heap.size wr (wr.alloc (.cells #[.int .i64 op, .int .i64 oq, .int .i64 ov, .slice (some ⟨kb, ko, none⟩) ol.length kc, .int .i64 ox, .int .i64 oy, .int .i64 oh, .bool om] 41)) := below_box _
      have hvs := HCH.out.size
      have hput := put_any B lo kb ko kc ps op oq ov ol ox oy oh om (wr.alloc (.cells #[.int .i64 op, .int .i64 oq, .int .i64 ov, .slice (some ⟨kb, ko, none⟩) ol.length kc, .int .i64 ox, .int .i64 oy, .int .i64 oh, .bool om] 41)) (hPu.below hbx) (Nat.le_trans hlo (Nat.le_trans hvs hbx.size)) (by omega) ((p5.below hbel (Nat.le_refl _)).below hbx (Nat.le_refl _)) (WalkArith.wf_i64 (by omega)) (WalkArith.wf_i64 (by omega)) hfn (by omega)
      have HPS : Hid (ps.map (·.1) = ps0.map (·.1) ++ cs.take j) := hps
      have HBX : Hid (Below w.heap.size w (wr.alloc (.cells #[.int .i64 op, .int .i64 oq, .int .i64 ov, .slice (some ⟨kb, ko, none⟩) ol.length kc, .int .i64 ox, .int .i64 oy, .int .i64 oh, .bool om] 41))) := hbel.trans (hbx.mono hbel.size)
      have HCX : Hid (Chg v (wr.alloc (.cells #[.int .i64 op, .int .i64 oq, .int .i64 ov, .slice (some ⟨kb, ko, none⟩) ol.length kc, .int .i64 ox, .int .i64 oy, .int .i64 oh, .bool om] 41)) B (B + 1)) := HCH.out.trans (Chg.of_below hbx _ _)
      clear ho d0 p0 p4 p5 hmem g1 g2 g3 g4 hfn hPu hps hbx
      have hki : (j : Int) < (n : Int) := by omega
      go_wp2_with (first
        | (go_at_call 44; (with_reducible refine hput.mono ?_); clear hput; rintro e w3 ⟨rfl, HPU, hch⟩; have HB3 : Hid (Below w.heap.size w w3) := HBX.out.trans (hch.below (by omega) (by have := HBX.out.size; omega)); have HC3 : Hid (Chg v w3 B (B + 1)) := HCX.out.trans hch; clear hch))
      go_roundw
      case rel =>
        obtain ⟨u, hu⟩ := HPU.out
        exact ⟨j + 1, by omega, by go_num, HB3.out, ⟨_, hu, by rw [List.map_append, HPS.out, HNX.out, List.append_assoc]; rfl⟩, HC3.out⟩
      case measure => simp [intOf]; omega
    · have e1 : cs.take j = cs := List.take_of_length_le (by rw [HN.out]; omega)
      go_wp2
      go_end0
      obtain ⟨ps, h1, h2⟩ := HP.out
      exact ⟨rfl, ⟨ps, h1, by rw [h2, e1]⟩, hbel, HCH.out⟩

set_option maxRecDepth 20000 in
set_option maxHeartbeats 2000000 in
theorem fillPurse_any (n c : Nat) (a : Option Addr) (cs : List Co) (w : World) (hn : n ≤ 1048576) (hk : ∀ j, j < n → (cs.getD j C0).l.length ≤ 1048576) (hC : CAt w a n cs) :
    Calls Try.prog 22 #[.slice a n c] w fun e w' => FillR w w' e cs := by
  have hF := iCoinsFault_any n c a cs w hn hk hC
  have HC : Hid (CAt w a n cs) := hC
  have hmm := @run_makeMap Try.prog
  obtain ⟨cd, hcd⟩ : ∃ r, r = coinsR cs := ⟨_, rfl⟩
  rw [← hcd] at hF
  have HCD : Hid (coinsR cs = cd) := hcd.symm
  by_cases h0 : cd = 0
  · subst h0
    obtain ⟨h40, hok, hri⟩ := coins_rise hcd.symm
    rw [hC.1] at h40
    have HOK : Hid (∀ c ∈ cs, coinR c = 0) := hok
    have HRI : Hid (cs.Pairwise (fun a b => (a.p, a.q) ≠ (b.p, b.q))) := rise_ne hri
    clear hcd hC hk hok hri
    go_enter Try.func22, Try.ntmps22
    go_wp2_with (first
      | (go_at_call 11; (with_reducible refine hF.mono ?_); clear hF; rintro e w2 ⟨rfl, hb2⟩; have hs2 := hb2.size; have hpa := putAll_any w2.heap.size w.heap.size n c a cs [] w (w2.alloc (.map #[] 0)) (by omega) (by simp) HC.out HOK.out (by simpa using HRI.out) (hb2.trans ((below_box _).mono hs2)) hs2 (by simp; omega) (Pu.made hs2); clear hb2)
      | (go_at_call 41; (with_reducible refine hpa.mono ?_); clear hpa; rintro e w3 ⟨rfl, HP, hB3, _⟩))
    refine bodyPost_ret (v := .tuple #[.map (some w2.heap.size), .int .i64 0]) (by simp [results, Try.results22, go_sem]) rfl ⟨hB3, .inr ⟨HCD.out, ?_⟩⟩
    obtain ⟨ps, h1, h2⟩ := HP.out
    exact ⟨_, ps, rfl, h1, by simpa using h2⟩
  · clear hcd hC hk
    go_enter Try.func22, Try.ntmps22
    go_wp2_with (first
      | (go_at_call 11; (with_reducible refine hF.mono ?_); clear hF; rintro e w2 ⟨rfl, hb2⟩))
    refine bodyPost_ret (v := .tuple #[.map none, .int .i64 cd]) (by simp [results, Try.results22, go_sem]) rfl ⟨hb2, .inl ⟨by rw [HCD.out]; exact h0, by rw [HCD.out]⟩⟩

/-- What CoinAt answers: a code, and the coin alone. -/
def atR (cs : List Co) (r : Int × Int) : Int × List Co := if coinsR cs ≠ 0 then (coinsR cs, []) else match cs.find? (fun c => decide ((c.p, c.q) = r)) with | none => (4, []) | some c => (0, [c])
theorem find_map {ps : List (Co × Value)} {r : Int × Int} : (ps.map (·.1)).find? (fun c => decide ((c.p, c.q) = r)) = (findP ps r).map (·.1) := by
  unfold findP
  induction ps with
  | nil => rfl
  | cons x t ih =>
    simp only [List.map_cons, List.find?_cons]
    by_cases e : refOf x = r
    · have e2 : decide ((x.1.p, x.1.q) = r) = true := decide_eq_true e
      rw [e2, decide_eq_true e]; rfl
    · have e2 : decide ((x.1.p, x.1.q) = r) = false := decide_eq_false e
      rw [e2, decide_eq_false e]; exact ih

/-- What an answer of coins is owed: new memory of its own. -/
def OutCs (w w' : World) (e : Ending) (cd : Int) (cs : List Co) : Prop :=
  ∃ v kv, e = .returned (.agg #[.int .i64 cd, v]) ∧ COwn w' w.heap.size w'.heap.size v cs.length (fun j => cs.getD j C0) kv ∧ Below w.heap.size w w'
theorem COwn.zero {w : World} {lo hi : Nat} (f : Nat → Co) : COwn w lo hi (.slice none 0 0) 0 f (fun _ => .slice none 0 0) :=
  ⟨⟨[], World.ownsRow_nil _ _ _ _, fun j hj => (by omega)⟩, fun b hb => (by cases hb), fun j hj => (by omega), fun i j _ hj => (by omega)⟩
theorem COwn.one {w : World} {lo X : Nat} {x : Co} {u : Value} (hX : w.heap[X]? = some (.cells #[.int .i64 x.p, .int .i64 x.q, .int .i64 x.v, u, .int .i64 x.x, .int .i64 x.y, .int .i64 x.h, .bool x.m] 41 (0, 0))) (hlo : lo ≤ X) (hrow : w.ownsRow lo 2 1 u x.l.length (ints x.l)) :
    COwn w lo w.heap.size (.slice (some ⟨X, 0, none⟩) 1 1) 1 (fun j => [x].getD j C0) (fun _ => u) := by
  refine ⟨⟨[.int .i64 x.p, .int .i64 x.q, .int .i64 x.v, u, .int .i64 x.x, .int .i64 x.y, .int .i64 x.h, .bool x.m], ⟨rfl, .inr ⟨X, 1, #[.int .i64 x.p, .int .i64 x.q, .int .i64 x.v, u, .int .i64 x.x, .int .i64 x.y, .int .i64 x.h, .bool x.m], rfl, hlo, hX, Nat.le_refl _, by unfold maxLen; omega, rfl, rfl⟩⟩, fun j hj => ?_⟩, fun b hb => ?_, fun j hj => ⟨?_, fun b hb => (hrow.lt b hb).2⟩, fun i j hij hj => (by omega)⟩
  · obtain rfl : j = 0 := by omega
    exact ⟨rfl, rfl, rfl, rfl, rfl, rfl, rfl, rfl⟩
  · cases hb
    exact lt_of_block hX
  · obtain rfl : j = 0 := by omega
    exact hrow

end Go.Proofs.Ytdfijlcjmllplaa

namespace Go.Proofs.Ytdfijlcjmllplaa
open Go.RowKit Go.Maps Go.WideMaps

theorem COwn.set2 {w : World} {lo hi b n : Nat} {v : Value} {f : Nat → Co} {kv : Nat → Value} (h : COwn w lo hi v n f kv) (hv : v.ownBlock ≠ some b) (hk : ∀ j, j < n → (kv j).ownBlock ≠ some b) (i : Nat) (u : Value) : COwn (w.setCell ⟨b, i, none⟩ u) lo hi v n f kv := by
  obtain ⟨xs, h1, h2⟩ := h.row
  exact ⟨⟨xs, ownsRow_setCell_other h1 (a := ⟨b, i, none⟩) hv u, h2⟩, h.top, fun j hj => ⟨ownsRow_setCell_other (h.keys j hj).1 (a := ⟨b, i, none⟩) (hk j hj) u, (h.keys j hj).2⟩, h.apart⟩

theorem COwn.lower {w : World} {lo lo' hi hi' n : Nat} {v : Value} {f : Nat → Co} {kv : Nat → Value} (h : COwn w lo hi v n f kv) (hl : lo' ≤ lo) (hh : hi ≤ hi') : COwn w lo' hi' v n f kv := by
  obtain ⟨xs, h1, h2⟩ := h.row
  exact ⟨⟨xs, Joins.ownsRow_le h1 hl, h2⟩, fun b hb => Nat.lt_of_lt_of_le (h.top b hb) hh, fun j hj => ⟨Joins.ownsRow_le (h.keys j hj).1 hl, fun b hb => Nat.lt_of_lt_of_le ((h.keys j hj).2 b hb) hh⟩, h.apart⟩
theorem look_none {w : World} {lo B : Nat} {cs : List Co} {p q : Int} (h : ∃ ps, Pu w lo B ps ∧ ps.map (·.1) = cs) (hl : ∀ ps : List (Co × Value), ps.map (·.1) = cs → cs.find? (fun c => decide ((c.p, c.q) = (p, q))) = (findP ps (p, q)).map (·.1)) (hf : cs.find? (fun c => decide ((c.p, c.q) = (p, q))) = none) (hp : (Lit.int .i64 p).wf = true) (hq : (Lit.int .i64 q).wf = true) :
    (Instr.lookup 58 (.map (some B)) (.agg #[.int .i64 p, .int .i64 q]) true).run Try.prog w = .ok (.tuple #[.agg #[.int .i64 0, .int .i64 0, .int .i64 0, .slice none 0 0, .int .i64 0, .int .i64 0, .int .i64 0, .bool false], .bool false]) w := by
  obtain ⟨ps, hPu, hps⟩ := h
  have h1 := hPu.look (r := (p, q)) hp hq
  have h2 := hl ps hps
  rw [hf] at h2
  cases h3 : findP ps (p, q) with
  | none => rw [h3] at h1; exact h1
  | some x => rw [h3] at h2; cases h2
theorem look_some {w : World} {lo B : Nat} {cs : List Co} {p q : Int} {x : Co} (h : ∃ ps, Pu w lo B ps ∧ ps.map (·.1) = cs) (hl : ∀ ps : List (Co × Value), ps.map (·.1) = cs → cs.find? (fun c => decide ((c.p, c.q) = (p, q))) = (findP ps (p, q)).map (·.1)) (hf : cs.find? (fun c => decide ((c.p, c.q) = (p, q))) = some x) (hp : (Lit.int .i64 p).wf = true) (hq : (Lit.int .i64 q).wf = true) :
    ∃ ua uc, (Instr.lookup 58 (.map (some B)) (.agg #[.int .i64 p, .int .i64 q]) true).run Try.prog w = .ok (.tuple #[.agg #[.int .i64 x.p, .int .i64 x.q, .int .i64 x.v, .slice ua x.l.length uc, .int .i64 x.x, .int .i64 x.y, .int .i64 x.h, .bool x.m], .bool true]) w ∧ Hid (w.ownsRow lo 2 1 (.slice ua x.l.length uc) x.l.length (ints x.l)) := by
  obtain ⟨ps, hPu, hps⟩ := h
  have h1 := hPu.look (r := (p, q)) hp hq
  have h2 := hl ps hps
  rw [hf] at h2
  cases h3 : findP ps (p, q) with
  | none => rw [h3] at h2; cases h2
  | some y =>
    rw [h3] at h1 h2
    obtain ⟨y1, u⟩ := y
    obtain rfl : x = y1 := by simpa using h2
    have hrow := hPu.rows (x, u) (by unfold findP at h3; exact List.mem_of_find?_eq_some h3)
    obtain ⟨ua, uc, hu⟩ : ∃ ua uc, u = .slice ua x.l.length uc := by
      rcases hrow.2 with ⟨e1, e2⟩ | ⟨g, cp, cur, e1, _⟩
      · exact ⟨none, 0, by rw [show u = .slice none 0 0 from e1, show x.l.length = 0 from e2]⟩
      · exact ⟨some ⟨g, 0, none⟩, cp, e1⟩
    subst hu
    exact ⟨ua, uc, h1, hrow⟩

set_option maxRecDepth 20000 in
set_option maxHeartbeats 2000000 in
theorem iCoinAt_any (n c : Nat) (a : Option Addr) (cs : List Co) (p q : Int) (w : World) (hn : n ≤ 1048576) (hk : ∀ j, j < n → (cs.getD j C0).l.length ≤ 1048576) (hp : (Lit.int .i64 p).wf = true) (hq : (Lit.int .i64 q).wf = true) (hC : CAt w a n cs) :
    Calls Try.prog 8 #[.slice a n c, .agg #[.int .i64 p, .int .i64 q]] w fun e w' => OutCs w w' e (atR cs (p, q)).1 (atR cs (p, q)).2 := by
  obtain ⟨t0, t1, t2⟩ := blocks2 w (.cells #[.int .i64 p, .int .i64 q] 38) (.cells #[.int .i64 0, .slice none 0 0] 29)
  have hbx : Below w.heap.size w ((w.alloc (.cells #[.int .i64 p, .int .i64 q] 38)).alloc (.cells #[.int .i64 0, .slice none 0 0] 29)) := below_box2 _ _
  have hF := fillPurse_any n c a cs ((w.alloc (.cells #[.int .i64 p, .int .i64 q] 38)).alloc (.cells #[.int .i64 0, .slice none 0 0] 29)) hn hk (hC.below hbx (Nat.le_refl _))
  have HBX : Hid (Below w.heap.size w ((w.alloc (.cells #[.int .i64 p, .int .i64 q] 38)).alloc (.cells #[.int .i64 0, .slice none 0 0] 29))) := hbx
  have T0 : Hid (((w.alloc (.cells #[.int .i64 p, .int .i64 q] 38)).alloc (.cells #[.int .i64 0, .slice none 0 0] 29)).heap[w.heap.size]? = some (.cells #[.int .i64 p, .int .i64 q] 38 (0, 0))) := t0
  have T1 : Hid (((w.alloc (.cells #[.int .i64 p, .int .i64 q] 38)).alloc (.cells #[.int .i64 0, .slice none 0 0] 29)).heap[w.heap.size + 1]? = some (.cells #[.int .i64 0, .slice none 0 0] 29 (0, 0))) := t1
  have HSZ : Hid (((w.alloc (.cells #[.int .i64 p, .int .i64 q] 38)).alloc (.cells #[.int .i64 0, .slice none 0 0] 29)).heap.size = w.heap.size + 1 + 1) := t2
  have HWF : Hid ((Lit.int .i64 p).wf = true ∧ (Lit.int .i64 q).wf = true) := ⟨hp, hq⟩
  clear hbx t0 t1 t2 hC hk hp hq
  by_cases h0 : coinsR cs = 0
  · have hF' : Calls Try.prog 22 #[.slice a n c] ((w.alloc (.cells #[.int .i64 p, .int .i64 q] 38)).alloc (.cells #[.int .i64 0, .slice none 0 0] 29)) fun e w' => Below ((w.alloc (.cells #[.int .i64 p, .int .i64 q] 38)).alloc (.cells #[.int .i64 0, .slice none 0 0] 29)).heap.size ((w.alloc (.cells #[.int .i64 p, .int .i64 q] 38)).alloc (.cells #[.int .i64 0, .slice none 0 0] 29)) w' ∧ ∃ B, e = .returned (.tuple #[.map (some B), .int .i64 0]) ∧ Hid (∃ ps, Pu w' (w.heap.size + 1 + 1) B ps ∧ ps.map (·.1) = cs) := hF.mono fun e w' h => by
      rcases h.2 with h1 | ⟨_, B, ps, h1, h2, h3⟩
      · exact absurd h0 h1.1
      · rw [HSZ.out] at h2
        exact ⟨h.1, B, h1, ps, h2, h3⟩
    clear hF
    have HL : Hid (∀ ps : List (Co × Value), ps.map (·.1) = cs → cs.find? (fun c => decide ((c.p, c.q) = (p, q))) = (findP ps (p, q)).map (·.1)) := fun ps h => by rw [← h]; exact find_map
    cases hfd : cs.find? (fun c => decide ((c.p, c.q) = (p, q))) with
    | none =>
      have hr : atR cs (p, q) = (4, []) := by unfold atR; rw [if_neg (by simp [h0]), hfd]
      rw [hr]
      have HFD : Hid (cs.find? (fun c => decide ((c.p, c.q) = (p, q))) = none) := hfd
      clear hr hfd h0
      go_enter Try.func8, Try.ntmps8
      go_wp2_with (first
        | (go_at_call 22; (with_reducible refine hF'.mono ?_); clear hF'; rintro e w2 ⟨hb2, B, rfl, HPU⟩; have HT0 := keepb T0.out hb2; have HT1 := keepb T1.out hb2; have HB2 : Hid (Below w.heap.size w w2) := HBX.out.trans (hb2.mono HBX.out.size); obtain ⟨s0, s1⟩ := cells2 HT0.out; obtain ⟨y0, y1⟩ := cells2 HT1.out; have f0 := Joins.unfrozen_of_block HT1.out 0; have f1 := Joins.unfrozen_of_block HT1.out 1; have hsz2 := hb2.size; rw [HSZ.out] at hsz2; clear hb2; have hrun : (Instr.lookup 58 (.map (some B)) (.agg #[.int .i64 p, .int .i64 q]) true).run Try.prog w2 = .ok (.tuple #[.agg #[.int .i64 0, .int .i64 0, .int .i64 0, .slice none 0 0, .int .i64 0, .int .i64 0, .int .i64 0, .bool false], .bool false]) w2 := (look_none HPU.out HL.out HFD.out HWF.out.1 HWF.out.2); have HU : Hid ((w2.alloc (.cells #[.int .i64 0, .int .i64 0, .int .i64 0, .slice none 0 0, .int .i64 0, .int .i64 0, .int .i64 0, .bool false] 41)).heap[w.heap.size + 1]? = some (.cells #[.int .i64 0, .slice none 0 0] 29 (0, 0))) := keepb HT1.out (below_box _); clear y0 y1 f0 f1; obtain ⟨y0, y1⟩ := cells2 HU.out; have f0 := Joins.unfrozen_of_block HU.out 0; have f1 := Joins.unfrozen_of_block HU.out 1))
      have HB3 : Below w.heap.size w (w2.alloc (.cells #[.int .i64 0, .int .i64 0, .int .i64 0, .slice none 0 0, .int .i64 0, .int .i64 0, .int .i64 0, .bool false] 41)) := HB2.out.trans ((below_box _).mono HB2.out.size)
      obtain ⟨_, j1⟩ := two_set HU.out (.int .i64 4) (.slice none 0 0)
      refine bodyPost_ret (v := .agg #[.int .i64 4, .slice none 0 0]) (by simp [results, Try.results8, go_sem, j1]) rfl ⟨_, _, rfl, COwn.zero _, (HB3.setCell (p := ⟨w.heap.size + 1, 0, none⟩) (show w.heap.size ≤ w.heap.size + 1 by omega) _).setCell (p := ⟨w.heap.size + 1, 1, none⟩) (show w.heap.size ≤ w.heap.size + 1 by omega) _⟩
    | some x =>
      have hr : atR cs (p, q) = (0, [x]) := by unfold atR; rw [if_neg (by simp [h0]), hfd]
      rw [hr]
      have HFD : Hid (cs.find? (fun c => decide ((c.p, c.q) = (p, q))) = some x) := hfd
      clear hr hfd h0
      go_enter Try.func8, Try.ntmps8
      go_wp2_with (first
        | (go_at_call 22; (with_reducible refine hF'.mono ?_); clear hF'; rintro e w2 ⟨hb2, B, rfl, HPU⟩; have HT0 := keepb T0.out hb2; have HT1 := keepb T1.out hb2; have HB2 : Hid (Below w.heap.size w w2) := HBX.out.trans (hb2.mono HBX.out.size); obtain ⟨s0, s1⟩ := cells2 HT0.out; obtain ⟨y0, y1⟩ := cells2 HT1.out; have f0 := Joins.unfrozen_of_block HT1.out 0; have f1 := Joins.unfrozen_of_block HT1.out 1; have hsz2 := hb2.size; rw [HSZ.out] at hsz2; clear hb2; obtain ⟨ua, uc, hrun, HROW⟩ := look_some HPU.out HL.out HFD.out HWF.out.1 HWF.out.2; have HU : Hid (((w2.alloc (.cells #[.int .i64 x.p, .int .i64 x.q, .int .i64 x.v, .slice ua x.l.length uc, .int .i64 x.x, .int .i64 x.y, .int .i64 x.h, .bool x.m] 41)).alloc (.cells #[.int .i64 x.p, .int .i64 x.q, .int .i64 x.v, .slice ua x.l.length uc, .int .i64 x.x, .int .i64 x.y, .int .i64 x.h, .bool x.m] 41)).heap[w.heap.size + 1]? = some (.cells #[.int .i64 0, .slice none 0 0] 29 (0, 0))) := keepb HT1.out (below_box2 _ _); clear y0 y1 f0 f1; obtain ⟨y0, y1⟩ := cells2 HU.out; have f0 := Joins.unfrozen_of_block HU.out 0; have f1 := Joins.unfrozen_of_block HU.out 1))
      have HB3 : Below w.heap.size w ((w2.alloc (.cells #[.int .i64 x.p, .int .i64 x.q, .int .i64 x.v, .slice ua x.l.length uc, .int .i64 x.x, .int .i64 x.y, .int .i64 x.h, .bool x.m] 41)).alloc (.cells #[.int .i64 x.p, .int .i64 x.q, .int .i64 x.v, .slice ua x.l.length uc, .int .i64 x.x, .int .i64 x.y, .int .i64 x.h, .bool x.m] 41)) := HB2.out.trans ((below_box2 _ _).mono HB2.out.size)
      obtain ⟨_, j1⟩ := two_set HU.out (.int .i64 0) (.slice (some ⟨w2.heap.size + 1, 0, none⟩) 1 1)
      refine bodyPost_ret (v := .agg #[.int .i64 0, .slice (some ⟨w2.heap.size + 1, 0, none⟩) 1 1]) (by simp [results, Try.results8, go_sem, j1]) rfl ⟨_, fun _ => .slice ua x.l.length uc, rfl, ?_, (HB3.setCell (p := ⟨w.heap.size + 1, 0, none⟩) (show w.heap.size ≤ w.heap.size + 1 by omega) _).setCell (p := ⟨w.heap.size + 1, 1, none⟩) (show w.heap.size ≤ w.heap.size + 1 by omega) _⟩
      have hX := (blocks2 w2 (.cells #[.int .i64 x.p, .int .i64 x.q, .int .i64 x.v, .slice ua x.l.length uc, .int .i64 x.x, .int .i64 x.y, .int .i64 x.h, .bool x.m] 41) (.cells #[.int .i64 x.p, .int .i64 x.q, .int .i64 x.v, .slice ua x.l.length uc, .int .i64 x.x, .int .i64 x.y, .int .i64 x.h, .bool x.m] 41)).2.1
      have hrow3 : ((w2.alloc (.cells #[.int .i64 x.p, .int .i64 x.q, .int .i64 x.v, .slice ua x.l.length uc, .int .i64 x.x, .int .i64 x.y, .int .i64 x.h, .bool x.m] 41)).alloc (.cells #[.int .i64 x.p, .int .i64 x.q, .int .i64 x.v, .slice ua x.l.length uc, .int .i64 x.x, .int .i64 x.y, .int .i64 x.h, .bool x.m] 41)).ownsRow (w.heap.size + 1 + 1) 2 1 (.slice ua x.l.length uc) x.l.length (ints x.l) := HROW.out.kept (grown_of_below (below_box2 _ _)) (by cases Value.ownBlock (.slice ua x.l.length uc) <;> simp)
      have hO := COwn.one (lo := w.heap.size + 1 + 1) hX (by omega) hrow3
      have nb : ∀ b, (Value.slice ua x.l.length uc).ownBlock = some b → w.heap.size + 1 + 1 ≤ b := fun b hb => (hrow3.lt b hb).1
      have hne : (Value.slice (some ⟨w2.heap.size + 1, 0, none⟩) 1 1).ownBlock ≠ some (w.heap.size + 1) := fun e => by
        have e2 : w2.heap.size + 1 = w.heap.size + 1 := (by simpa [Value.ownBlock] using e)
        omega
      have hO2 := (hO.set2 (b := w.heap.size + 1) hne (fun _ _ e => by have := nb _ e; omega) 0 (.int .i64 0)).set2 (b := w.heap.size + 1) hne (fun _ _ e => by have := nb _ e; omega) 1 (.slice (some ⟨w2.heap.size + 1, 0, none⟩) 1 1)
      refine COwn.lower (hi := ((w2.alloc (.cells #[.int .i64 x.p, .int .i64 x.q, .int .i64 x.v, .slice ua x.l.length uc, .int .i64 x.x, .int .i64 x.y, .int .i64 x.h, .bool x.m] 41)).alloc (.cells #[.int .i64 x.p, .int .i64 x.q, .int .i64 x.v, .slice ua x.l.length uc, .int .i64 x.x, .int .i64 x.y, .int .i64 x.h, .bool x.m] 41)).heap.size) hO2 (by omega) (by simp)
  · have hr : atR cs (p, q) = (coinsR cs, []) := by unfold atR; rw [if_pos h0]
    rw [hr]
    obtain ⟨cd, hcd⟩ : ∃ r, r = coinsR cs := ⟨_, rfl⟩
    have hF' : Calls Try.prog 22 #[.slice a n c] ((w.alloc (.cells #[.int .i64 p, .int .i64 q] 38)).alloc (.cells #[.int .i64 0, .slice none 0 0] 29)) fun e w' => Below ((w.alloc (.cells #[.int .i64 p, .int .i64 q] 38)).alloc (.cells #[.int .i64 0, .slice none 0 0] 29)).heap.size ((w.alloc (.cells #[.int .i64 p, .int .i64 q] 38)).alloc (.cells #[.int .i64 0, .slice none 0 0] 29)) w' ∧ e = .returned (.tuple #[.map none, .int .i64 cd]) := hF.mono fun e w' h => by
      rcases h.2 with h1 | h1
      · rw [hcd]; exact ⟨h.1, h1.2⟩
      · exact absurd h1.1 h0
    rw [← hcd] at h0 ⊢
    clear hF hcd hr
    go_enter Try.func8, Try.ntmps8
    go_wp2_with (first
      | (go_at_call 22; (with_reducible refine hF'.mono ?_); clear hF'; rintro e w2 ⟨hb2, rfl⟩; have HT0 := keepb T0.out hb2; have HT1 := keepb T1.out hb2; have HB2 : Hid (Below w.heap.size w w2) := HBX.out.trans (hb2.mono HBX.out.size); obtain ⟨s0, s1⟩ := cells2 HT0.out; obtain ⟨y0, y1⟩ := cells2 HT1.out; have f0 := Joins.unfrozen_of_block HT1.out 0; have f1 := Joins.unfrozen_of_block HT1.out 1; have hsz2 := hb2.size; rw [HSZ.out] at hsz2; clear hb2))
    obtain ⟨_, j1⟩ := two_set HT1.out (.int .i64 cd) (.slice none 0 0)
    have HB3 := HB2.out
    refine bodyPost_ret (v := .agg #[.int .i64 cd, .slice none 0 0]) (by simp [results, Try.results8, go_sem, j1]) rfl ⟨_, _, rfl, COwn.zero _, (HB3.setCell (p := ⟨w.heap.size + 1, 0, none⟩) (show w.heap.size ≤ w.heap.size + 1 by omega) _).setCell (p := ⟨w.heap.size + 1, 1, none⟩) (show w.heap.size ≤ w.heap.size + 1 by omega) _⟩

end Go.Proofs.Ytdfijlcjmllplaa

namespace Go.Proofs.Ytdfijlcjmllplaa
open Go.RowKit Go.Maps Go.WideMaps

set_option maxRecDepth 20000 in
set_option maxHeartbeats 1000000 in
theorem l2Copy_any (b off n cap : Nat) (l : List Int) (x y : Int) (w : World) (hn : n ≤ 1048576) (hI : IAt w (some ⟨b, off, none⟩) n l) :
    Calls Try.prog 52 #[.agg #[.slice (some ⟨b, off, none⟩) n cap, .int .i64 x, .int .i64 y]] w fun e w' => ∃ g c, e = .returned (.agg #[.slice (some ⟨g, 0, none⟩) n c, .int .i64 x, .int .i64 y]) ∧ w'.ownsRow (w.heap.size + 1 + 1) 2 1 (.slice (some ⟨g, 0, none⟩) n c) n (ints l) ∧ Below w.heap.size w w' := by
  obtain ⟨t0, t1, t2, t3⟩ := three_blocks w (.cells #[.slice (some ⟨b, off, none⟩) n cap, .int .i64 x, .int .i64 y] 34) (.cells #[.slice none 0 0, .int .i64 0, .int .i64 0] 34) (.cells #[] 2)
  have hbx : Below w.heap.size w (((w.alloc (.cells #[.slice (some ⟨b, off, none⟩) n cap, .int .i64 x, .int .i64 y] 34)).alloc (.cells #[.slice none 0 0, .int .i64 0, .int .i64 0] 34)).alloc (.cells #[] 2)) := below_box3 _ _ _
  obtain ⟨g, kc, w3, hrun, HW⟩ := keys_added (W := (((w.alloc (.cells #[.slice (some ⟨b, off, none⟩) n cap, .int .i64 x, .int .i64 y] 34)).alloc (.cells #[.slice none 0 0, .int .i64 0, .int .i64 0] 34)).alloc (.cells #[] 2))) (X := w.heap.size + 1 + 1) (c := cap) (base := w.heap.size + 1 + 1) t2 (Nat.le_refl _) (hI.below hbx (Nat.le_refl _)) hn (by rw [t3]; omega)
  have h0 : w3.heap[w.heap.size]? = some (.cells #[.slice (some ⟨b, off, none⟩) n cap, .int .i64 x, .int .i64 y] 34 (0, 0)) := (HW.out.2.block w.heap.size (by rw [t3]; omega) (by simp; omega)).trans t0
  have h1 : w3.heap[w.heap.size + 1]? = some (.cells #[.slice none 0 0, .int .i64 0, .int .i64 0] 34 (0, 0)) := (HW.out.2.block (w.heap.size + 1) (by rw [t3]; omega) (by simp)).trans t1
  have HB3 : Hid (Below w.heap.size w w3) := grown_new hbx HW.out.2 (by omega)
  obtain ⟨s0, s1, s2⟩ := cells3 h0
  obtain ⟨r0, r1, r2⟩ := cells3 h1
  have f0 := Joins.unfrozen_of_block h0 0
  have q0 := Joins.unfrozen_of_block h1 0
  have q1 := Joins.unfrozen_of_block h1 1
  have q2 := Joins.unfrozen_of_block h1 2
  have H1 : Hid (w3.heap[w.heap.size + 1]? = some (.cells #[.slice none 0 0, .int .i64 0, .int .i64 0] 34 (0, 0))) := h1
  clear t0 t1 t2 t3 hbx hI h0 h1
  go_enter Try.func52, Try.ntmps52
  go_wp2_with (first | (at_builtin; go_must (refine wpList_append_runC (by rfl) _ _ _ (by rfl) (by rfl) (by rfl) hrun ?_); clear hrun))
  have hR : (w3.setCell ⟨w.heap.size, 0, none⟩ (.slice (some ⟨g, 0, none⟩) n kc)).heap[w.heap.size + 1]? = some (.cells #[.slice none 0 0, .int .i64 0, .int .i64 0] 34 (0, 0)) := (Below.heap_setCell _ ⟨w.heap.size, 0, none⟩ _ (w.heap.size + 1) (show w.heap.size + 1 ≠ w.heap.size by omega)).trans H1.out
  obtain ⟨j0, j1, j2⟩ := three_set hR (.slice (some ⟨g, 0, none⟩) n kc) (.int .i64 x) (.int .i64 y)
  refine bodyPost_ret (v := .agg #[.slice (some ⟨g, 0, none⟩) n kc, .int .i64 x, .int .i64 y]) (by simp [results, Try.results52, go_sem, j0, j1, j2]) rfl ⟨g, kc, rfl, ?_, ?_⟩
  · exact row_set3 (ownsRow_setCell_below HW.out.1 (a := ⟨w.heap.size, 0, none⟩) (show w.heap.size < _ by omega) _) (by omega) _ _ _
  · exact below_set3 (HB3.out.setCell (p := ⟨w.heap.size, 0, none⟩) (Nat.le_refl _) _) (by omega) _ _ _

/-- A coin more: what the append leaves. -/
theorem coin_added {W : World} {lo X j : Nat} {v u : Value} {f : Nat → Co} {kv : Nat → Value} {o : Co} (h : COwn W lo W.heap.size v j f kv) (hX : W.heap[X]? = some (.cells #[.int .i64 o.p, .int .i64 o.q, .int .i64 o.v, u, .int .i64 o.x, .int .i64 o.y, .int .i64 o.h, .bool o.m] 41 (0, 0))) (hu1 : u.oneCell' = true) (hrow : W.ownsRow lo 2 1 u o.l.length (ints o.l)) (hap : ∀ i, i < j → ∀ b, (kv i).ownBlock = some b → u.ownBlock ≠ some b) (hj : j ≤ 1000) (hlo : lo ≤ W.heap.size) (hf : f j = o) :
    ∃ g cap w5, (Builtin.append_ #[24, 24] 24 #[v, .slice (some ⟨X, 0, none⟩) 1 1]).run Try.prog W = .ok (.slice (some ⟨g, 0, none⟩) (j + 1) cap) w5 ∧
      Hid (COwn w5 lo w5.heap.size (.slice (some ⟨g, 0, none⟩) (j + 1) cap) (j + 1) f (fun i => if i = j then u else kv i) ∧ W.grownBy w5 v.ownBlock) := by
  obtain ⟨i0, hi, hz0, hz1, hz2⟩ := info_parts Try.infoCoin
  obtain ⟨xs, hown, hcells⟩ := h.row
  obtain ⟨v', w5, hrun, hown', hgrow, hsome⟩ := run_append_own (P := Try.prog) W lo 24 24 41 i0 (.agg #[.int .i64 0, .int .i64 0, .int .i64 0, .slice none 0 0, .int .i64 0, .int .i64 0, .int .i64 0, .bool false]) 8 80 Try.underlying24 hi hz0 hz1 hz2 rfl (by decide) v j xs hown ⟨X, 0, none⟩ 1 1 [.int .i64 o.p, .int .i64 o.q, .int .i64 o.v, u, .int .i64 o.x, .int .i64 o.y, .int .i64 o.h, .bool o.m] rfl (World.news_of_block hX) (by
    intro z hz
    simp only [List.mem_cons, List.not_mem_nil, or_false] at hz
    rcases hz with rfl | rfl | rfl | rfl | rfl | rfl | rfl | rfl <;> first | rfl | exact hu1) (by unfold maxLen; omega) (by omega) hlo
  obtain ⟨g, cap, rfl⟩ := ownsRow_succ hown'
  have hxl := hown.1
  have kp : ∀ (z : Value) (d : Nat) (zs : List Value), W.ownsRow lo 2 1 z d zs → w5.ownsRow lo 2 1 z d zs := fun z d zs hz => hz.kept hgrow (by
    cases e : z.ownBlock with
    | none => exact .inl rfl
    | some b => exact .inr fun e2 => rows_apart (by decide) hown hz b e2.symm e)
  refine ⟨g, cap, w5, hrun, ⟨⟨_, hown', fun i hi => ?_⟩, fun b hb => (hown'.lt b hb).2, fun i hi => ?_, fun i k hik hk b hb => ?_⟩, hgrow⟩
  · by_cases e : i = j
    · subst e
      rw [if_pos rfl, hf]
      refine ⟨?_, ?_, ?_, ?_, ?_, ?_, ?_, ?_⟩ <;> (rw [List.getElem?_append_right (by omega), hxl]; simp)
    · obtain ⟨a0, a1, a2, a3, a4, a5, a6, a7⟩ := hcells i (by omega)
      rw [if_neg e]
      refine ⟨?_, ?_, ?_, ?_, ?_, ?_, ?_, ?_⟩
      · rw [List.getElem?_append_left (by omega)]; exact a0
      · rw [List.getElem?_append_left (by omega)]; exact a1
      · rw [List.getElem?_append_left (by omega)]; exact a2
      · rw [List.getElem?_append_left (by omega)]; exact a3
      · rw [List.getElem?_append_left (by omega)]; exact a4
      · rw [List.getElem?_append_left (by omega)]; exact a5
      · rw [List.getElem?_append_left (by omega)]; exact a6
      · rw [List.getElem?_append_left (by omega)]; exact a7
  · by_cases e : i = j
    · subst e
      rw [if_pos rfl, hf]
      exact ⟨kp _ _ _ hrow, fun b hb => ((kp _ _ _ hrow).lt b hb).2⟩
    · rw [if_neg e]
      have := kp _ _ _ (h.keys i (by omega)).1
      exact ⟨this, fun b hb => (this.lt b hb).2⟩
  · rw [if_neg (by omega)] at hb
    by_cases e : k = j
    · rw [if_pos e]; exact hap i (by omega) b hb
    · rw [if_neg e]; exact h.apart i k hik (by omega) b hb

end Go.Proofs.Ytdfijlcjmllplaa

namespace Go.Proofs.Ytdfijlcjmllplaa
open Go.RowKit Go.Maps Go.WideMaps Go.Shelf
attribute [local go_sem] Oper.semAt_some

/-- A coin as the map tells it: its keys are a slice. -/
abbrev SC := { x : Co × Value // ∃ a n c, x.2 = Value.slice a n c }
abbrev encsC (x : SC) : Array Value := #[coV x.1]
def cellsC (x : SC) : List Value := [.int .i64 x.1.1.p, .int .i64 x.1.1.q, .int .i64 x.1.1.v, x.1.2, .int .i64 x.1.1.x, .int .i64 x.1.1.y, .int .i64 x.1.1.h, .bool x.1.1.m]

def ComeC (ps : List (Co × Value)) (left : Lit → Bool) (ss : List SC) : Prop :=
  (∀ x ∈ ss, x.1 ∈ ps) ∧ (ss.Pairwise fun x y => refOf x.1 ≠ refOf y.1) ∧ ∀ x ∈ ps, ∀ kl, keyOf Try.prog 38 (encR (refOf x)) = some kl → (left kl = true ↔ ¬ ∃ y ∈ ss, y.1 = x)
def AllC (ps : List (Co × Value)) (ss : List SC) : Prop :=
  (∀ x ∈ ss, x.1 ∈ ps) ∧ (ss.Pairwise fun x y => refOf x.1 ≠ refOf y.1) ∧ ∀ x ∈ ps, ∃ y ∈ ss, y.1 = x

/-- What the map tells of the refs. -/
structure Told (D : DataW Value) (ps : List (Co × Value)) : Prop where
  size : Maps.size D = ps.length
  look : ∀ r kl, keyOf Try.prog 38 (encR r) = some kl → LookD D kl (findP ps r)
  refs : ps.Pairwise fun x y => refOf x ≠ refOf y
  wfs : ∀ x ∈ ps, (Lit.int .i64 x.1.p).wf = true ∧ (Lit.int .i64 x.1.q).wf = true
  sl : ∀ x ∈ ps, ∃ a n c, x.2 = Value.slice a n c

theorem come_start {D : DataW Value} {ps : List (Co × Value)} (h : Told D ps) : ComeC ps (fun kl => Maps.has D kl) [] := by
  refine ⟨fun x hx => (by cases hx), List.Pairwise.nil, fun x hx kl hk => ?_⟩
  have := h.look (refOf x) kl hk
  rw [find_mem h.refs hx] at this
  simp [this.1]
theorem come_all {ps : List (Co × Value)} {left : Lit → Bool} {ss : List SC} (h : ComeC ps left ss) (hw : ∀ x ∈ ps, (Lit.int .i64 x.1.p).wf = true ∧ (Lit.int .i64 x.1.q).wf = true) (hl : ∀ kl, left kl = false) : AllC ps ss := by
  refine ⟨h.1, h.2.1, fun x hx => ?_⟩
  obtain ⟨kl, hk⟩ := keyRf (r := refOf x) (hw x hx).1 (hw x hx).2
  have := h.2.2 x hx kl hk
  rw [hl kl] at this
  exact Classical.byContradiction fun e => by simpa using this.2 e
theorem come_step {ps : List (Co × Value)} {left : Lit → Bool} {ss : List SC} (h : ComeC ps left ss) (hrefs : ps.Pairwise fun x y => refOf x ≠ refOf y) {z : SC} {kl : Lit} (hz : z.1 ∈ ps) (hk : keyOf Try.prog 38 (encR (refOf z.1)) = some kl) (hl : left kl = true) :
    ComeC ps (fun t => left t && !t.sameKey kl) (ss ++ [z]) := by
  have hno := (h.2.2 z.1 hz kl hk).1 hl
  refine ⟨fun x hx => ?_, ?_, fun x hx kl' hk' => ?_⟩
  · rcases List.mem_append.1 hx with hx | hx
    · exact h.1 x hx
    · obtain rfl := List.mem_singleton.1 hx; exact hz
  · rw [List.pairwise_append]
    refine ⟨h.2.1, List.pairwise_singleton _ _, fun x hx y hy e => ?_⟩
    obtain rfl := List.mem_singleton.1 hy
    exact hno ⟨x, hx, refs_inj hrefs x.1 (h.1 x hx) y.1 hz e⟩
  · by_cases e : x = z.1
    · subst e
      rw [hk] at hk'
      cases hk'
      show (left kl && !kl.sameKey kl) = true ↔ _
      rw [WideAt.sameKey_self (kR.key hk)]
      simp
    · have hne : kl' ≠ kl := fun e2 => e (refs_inj hrefs x hx z.1 hz (encR_inj (kR.inj hk' (by rw [e2]; exact hk))))
      show (left kl' && !kl'.sameKey kl) = true ↔ _
      rw [sameKey_ne hne]
      simp only [Bool.not_false, Bool.and_true]
      rw [h.2.2 x hx kl' hk']
      constructor
      · rintro h1 ⟨y, hy, e2⟩
        rcases List.mem_append.1 hy with hy | hy
        · exact h1 ⟨y, hy, e2⟩
        · obtain rfl := List.mem_singleton.1 hy; exact e e2.symm
      · rintro h1 ⟨y, hy, e2⟩
        exact h1 ⟨y, List.mem_append_left _ hy, e2⟩

/-- The entry that has come is a coin of the purse. -/
theorem come_which {D : DataW Value} {ps : List (Co × Value)} (h : Told D ps) {key c : Value} {kl : Lit} (hk : keyOf Try.prog 38 key = some kl) (hat : ∀ zd, D.atKey kl zd = .held c) :
    ∃ z : SC, z.1 ∈ ps ∧ key = encR (refOf z.1) ∧ c = coV z.1 ∧ (Lit.int .i64 z.1.1.p).wf = true ∧ (Lit.int .i64 z.1.1.q).wf = true := by
  obtain ⟨r, rfl, _, _⟩ := keyRf_inv hk
  have hl := h.look r kl hk
  cases hf : findP ps r with
  | none =>
    rw [hf] at hl
    have := (hl.2 (.lit (.bool true))).symm.trans (hat _)
    cases this
  | some z =>
    rw [hf] at hl
    have := (hl.2 (.lit (.bool true))).symm.trans (hat _)
    obtain ⟨h1, h2⟩ := find_get hf
    exact ⟨⟨z, h.sl z h1⟩, h1, by rw [← h2], (DataW.held.inj this).symm, h.wfs z h1⟩

set_option maxRecDepth 100000 in
set_option maxHeartbeats 2000000 in
theorem valuesC_in (n : Nat) (hn : 1 ≤ n) (l Bm b : Nat) (ps : List (Co × Value)) (D : DataW Value) (J Jx : List SC → World → Prop)
    (hY : ∀ pre x W, J pre W → pre.length < ps.length → YieldAt Fence.wide (n - 1) Try.prog l (encsC x) W fun e W' =>
      (e = .returned (.bool true) ∧ J (pre ++ [x]) W' ∧ KeepsWalks W W') ∨ (e = .returned (.bool false) ∧ Jx (pre ++ [x]) W'))
    (W : World) (hJ : AbidesFrom W.heap.size J) (hm : W.cell? ⟨Bm, 0, none⟩ = some (.map (some b))) (hown : W.ownsMap Try.prog 38 Rv b ps.length D) (hT : Told D ps) (h0 : J [] W) :
    CallsIn Fence.wide n Try.prog 67 #[.func (.yield l) #[] #[], .pointer (some ⟨Bm, 0, none⟩)] W fun e W' => (∃ v, e = .returned v) ∧
      ((∃ xs, AllC ps xs ∧ J xs W') ∨ (∃ pre : List SC, True ∧ Jx pre W')) := by
  refine callsIn_of_wp Try.func67 rfl trivial ?_ rfl
  simp only [Try.ntmps67, List.size_toArray, List.length_cons, List.length_nil, Nat.reduceAdd, Nat.reduceSub, Array.replicate_succ, Array.replicate_zero, List.push_toArray, List.append_toArray, List.nil_append, List.cons_append]
  gi_wp2_with (first
    | (gi_at_range; refine wpListIn_range_own _ rfl _ 58 rfl 38 41 kR Try.underlying58 _ b ps.length _ rfl hown ?_; intro w0 hrg0 hg0 hs0)
    | gi_in)
  go_frame
  gi_loopw [4] (fun _ wr => ∃ (left : Lit → Bool) (cnt : Nat) (ss : List SC), wr.ranges Try.prog 38 Rv b W.heap.size ps.length D left cnt ∧ ss.length + cnt ≤ ps.length ∧ ComeC ps left ss ∧ J ss wr)
    (fun _ wr => wr.rangeLeft b W.heap.size)
  case atStart =>
    exact ⟨_, _, [], hrg0, by simp [hT.size], come_start hT, hJ [] W w0 none h0 hg0 (fun r e => by cases e)⟩
  case round =>
    obtain ⟨left, cnt, ss, hrg, hcs, hC, hJs⟩ := hrel
    gi_wp2_with (first
      | (gi_at_next; refine wpListIn_next_ranges _ rfl _ rfl 38 kR Rv id id (fun key kl hk => ⟨key, rfl⟩) (fun v _ _ => ⟨v, rfl⟩) b W.heap.size ps.length _ _ _ rfl hrg ?_ ?_)
      | gi_in)
    · intro hc0 hl0
      gi_wp2
      go_end0
      exact ⟨⟨_, rfl⟩, .inl ⟨ss, come_all hC hT.wfs hl0, hJs⟩⟩
    · intro x c kl yd yp w2 cnt2 hkey hlk hv hat hrg2 hlt hg2 hs2 hen
      obtain rfl : yd = .held c := (Prod.mk.inj (show (DataW.held c, ([] : List MemPlace)) = (yd, yp) from Option.some.inj hv)).1.symm
      obtain ⟨z, hz, rfl, rfl, hw1, hw2⟩ := come_which hT (show keyOf Try.prog 38 x = some kl from hkey) hat
      have hC2 := come_step hC hT.refs hz (show keyOf Try.prog 38 (encR (refOf z.1)) = some kl from hkey) hlk
      obtain ⟨⟨zc, zu⟩, za, zn, zp, hzu⟩ := z
      simp only at hzu
      subst hzu
      have hJ2 : J ss w2 := hJ _ wr w2 (some W.heap.size) hJs hg2 (fun r e => by cases e; exact ⟨Nat.le_refl _, hrg.iter_walk⟩)
      have hJ3 : J ss (w2.alloc (.cells #[.int .i64 zc.p, .int .i64 zc.q, .int .i64 zc.v, .slice za zn zp, .int .i64 zc.x, .int .i64 zc.y, .int .i64 zc.h, .bool zc.m] 41)) := hJ _ w2 _ none hJ2 (grown_of_below (below_box _)) (fun r e => by cases e)
      obtain ⟨fn, tmps, assign, body, hy, hR⟩ := hY ss ⟨(zc, .slice za zn zp), za, zn, zp, rfl⟩ _ hJ3 (by omega)
      dsimp only [encsC, coV] at hy
      dsimp only [coV, encR, refOf, id] at hen ⊢
      clear hs2
      gi_wp2
      refine hR.mono ?_
      rintro e W3 (⟨rfl, hJ4, hk3⟩ | ⟨rfl, hJx3⟩)
      · gi_wp2
        have hrg3 := (hrg2.of_walks (KeepsWalks.alloc _ _)).of_walks hk3
        go_roundw
        case rel => exact ⟨_, cnt2, _, hrg3, by simp; omega, hC2, hJ4⟩
        case measure => rw [hrg3.left_eq, hrg.left_eq]; exact hlt
      · gi_wp2
        refine bodyPost_ret (results_none rfl _ _ _) rfl ?_
        exact ⟨⟨_, rfl⟩, .inr ⟨_, trivial, hJx3⟩⟩

theorem valuesC_stops (n : Nat) (hn : 1 ≤ n) (Bm b lo : Nat) (ps : List (Co × Value)) (w : World) (hBm : Bm < w.heap.size) (hm : w.cell? ⟨Bm, 0, none⟩ = some (.map (some b))) (hP : Pu w lo b ps) :
    SeqStopsK Fence.wide n Try.prog 67 #[.pointer (some ⟨Bm, 0, none⟩)] encsC KeepsWalks (AllC ps) (fun _ => True) ps.length w := fun l J Jx W hW hJ _ hY h0 => by
  obtain ⟨D, ho, hsz, hat⟩ := hP.map
  have hown : W.ownsMap Try.prog 38 Rv b ps.length D := ho.kept (grown_of_below hW) (by simp)
  exact valuesC_in n hn l Bm b ps D J Jx hY W hJ ((hW.cell (p := ⟨Bm, 0, none⟩) hBm).trans hm) hown ⟨hsz, hat, hP.refs, hP.wfs, fun x hx => by
    rcases (hP.rows x hx).2 with ⟨e1, _⟩ | ⟨g, cp, cur, e1, _⟩
    · exact ⟨none, 0, 0, e1⟩
    · exact ⟨_, _, _, e1⟩⟩ h0

set_option maxHeartbeats 1000000 in
theorem values_any (B : Nat) (w : World) :
    Calls Try.prog 46 #[.map (some B)] w fun e w' => e = .returned (.func (.func 67) #[] #[.pointer (some ⟨w.heap.size, 0, none⟩)]) ∧ w' = w.alloc (.cells #[.map (some B)] 58) := by
  go_enter Try.func46, Try.ntmps46
  go_wp2
  go_ret
  exact ⟨rfl, rfl⟩

theorem walks_of_others {A B : World} (h : KeepsOthers A B) : KeepsWalks A B := ⟨h.size, fun k o hk ho => h.same k o hk (by cases o <;> first | rfl | cases ho)⟩

/-- The loop's own variable in its block. -/
def AxC (w0 : World) (sv : Value) (x : SC) (a' : Act) (W : World) : Prop :=
  ∃ Bq0, W.heap[Bq0]? = some (.cells #[.int .i64 x.1.1.p, .int .i64 x.1.1.q, .int .i64 x.1.1.v, x.1.2, .int .i64 x.1.1.x, .int .i64 x.1.1.y, .int .i64 x.1.1.h, .bool x.1.1.m] 41 (0, 0)) ∧
    a' = { tmps := #[.slice none 0 0, sv, .pointer (some ⟨w0.heap.size, 0, none⟩), undef, .slice none 0 0, .pointer (some ⟨Bq0, 0, none⟩), sv, coV x.1, undef, undef, undef, undef, undef], defers := [] }
theorem AxC.own (w0 : World) (sv : Value) (B : Nat) (x : SC) (a' : Act) : OwnFrom B (fun (_ : Unit) W => AxC w0 sv x a' W) := by
  rintro _ X Y row ⟨Bq0, hb, ha⟩ hg hr
  refine ⟨Bq0, ?_, ha⟩
  refine (hg.block Bq0 (lt_of_block hb) fun e => ?_).trans hb
  obtain ⟨_, o, ho, hc⟩ := hr Bq0 e.symm
  rw [hb] at ho
  cases ho
  cases hc

set_option maxRecDepth 100000 in
set_option maxHeartbeats 4000000 in
theorem appendSeqC (n : Nat) (hn : 3 ≤ n) (Bm b lo : Nat) (ps : List (Co × Value)) (w : World) (hps : ps.length ≤ 1000) (hBm : Bm < w.heap.size) (hm : w.cell? ⟨Bm, 0, none⟩ = some (.map (some b))) (hP : Pu w lo b ps) :
    CallsIn Fence.wide n Try.prog 76 #[.slice none 0 0, .func (.func 67) #[] #[.pointer (some ⟨Bm, 0, none⟩)]] w fun e w' =>
      ∃ (v : Value) (ss : List SC), e = .returned v ∧ AllC ps ss ∧ w'.ownsRow w.heap.size 41 8 v ss.length (ss.flatMap cellsC) ∧ (v = .slice none 0 0 ↔ ss = []) ∧ Below w.heap.size w w' := by
  have h1 : 1 ≤ n := by omega
  obtain ⟨i0, hi, hz0, hz1, hz2⟩ := info_parts Try.infoCoin
  refine callsIn_of_wp_marks Try.func76 rfl trivial ?_ rfl
  simp only [Try.ntmps76, List.size_toArray, List.length_cons, List.length_nil, Nat.reduceAdd, Nat.reduceSub, Array.replicate_succ, Array.replicate_zero, List.push_toArray, List.append_toArray, List.nil_append, List.cons_append]
  gi_wp2
  have bO := Boxed.new w 24 (.slice none 0 0)
  have hB0 : Below w.heap.size w (w.alloc (.cells #[.slice none 0 0] 24)) := below_box _
  refine wpIn_rangeFunc_ownH rfl h1 (gf := 67) (lb := #[.pointer (some ⟨Bm, 0, none⟩)]) rfl trivial (enters_of Try.func67 (by kernel_rfl) rfl)
    (valuesC_stops (n - 1) (by omega) Bm b lo ps (w.alloc (.cells #[.slice none 0 0] 24)) (by simp; omega) ((hB0.cell (p := ⟨Bm, 0, none⟩) hBm).trans hm) (hP.below hB0)) walksK_t walksK_b (Below.refl _ _) (fun _ => rfl)
    (fun pre W => (∃ v, Boxed W w.heap.size 24 v ∧ W.ownsRow w.heap.size 41 8 v pre.length (pre.flatMap cellsC) ∧ (v = .slice none 0 0 ↔ pre = [])) ∧ Below w.heap.size w W)
    (fun _ _ _ => False)
    (OwnFrom.and (Own.from (holdsRow_own w.heap.size w.heap.size 24 41 8 (fun pre : List SC => pre.length) (fun pre => pre.flatMap cellsC) (fun pre v => v = .slice none 0 0 ↔ pre = [])) _) (ownFrom_below (Nat.le_refl _) (by simp)))
    (fun _ _ _ _ _ hs _ _ => hs)
    ⟨⟨_, bO, World.ownsRow_nil _ _ _ _, by simp⟩, hB0⟩
    (AxC w (.func (.func 67) #[] #[.pointer (some ⟨Bm, 0, none⟩)])) (AxC.own _ _ _) ?assign ?body ?done ?stop
  case assign =>
    rintro l pre ⟨⟨zc, zu⟩, za, zn, zp, hzu⟩ W K ⟨⟨v, hv, hrow, hnil⟩, hB⟩ hK
    simp only at hzu
    subst hzu
    dsimp only [encsC, coV] at *
    gi_wp2
    exact hK _ _ ((KeepsOthers.alloc _ _).from _) (KeepsWalks.alloc _ _) ⟨⟨v, hv.alloc _, hrow.alloc _, hnil⟩, hB.alloc hB.size _⟩ ⟨W.heap.size, heap_alloc_new _ _, rfl⟩
  case body =>
    rintro l pre ⟨⟨zc, zu⟩, za, zn, zp, hzu⟩ a' W hl hr ⟨⟨v, hv, hrow, hnil⟩, hB⟩ ⟨Bq0, hBk, rfl⟩ hlt
    simp only at hzu
    subst hzu
    dsimp only [coV] at hBk ⊢
    have hc := hv.cell
    obtain ⟨⟨s0, s1, s2, s3, s4, s5, s6, s7⟩, _⟩ := cells8 hBk
    gi_wp2_with (gi_at_builtin; refine wpListIn_append_own _ rfl _ _ 24 rfl w.heap.size 41 i0 (.agg #[.int .i64 0, .int .i64 0, .int .i64 0, .slice none 0 0, .int .i64 0, .int .i64 0, .int .i64 0, .bool false]) 8 80 Try.underlying24 hi hz0 hz1 hz2 rfl (by decide) _ _ _ rfl (hrow.alloc _) ⟨W.heap.size, 0, none⟩ 1 1 [.int .i64 zc.p, .int .i64 zc.q, .int .i64 zc.v, .slice za zn zp, .int .i64 zc.x, .int .i64 zc.y, .int .i64 zc.h, .bool zc.m] rfl rfl (World.news_of_block (heap_alloc_new _ _)) (by simp [Value.oneCell']) (by unfold maxLen; omega) (by omega) (by have := hB.size; simp; omega) ?_; intro v' w1 hown' hgrow _; obtain ⟨g', cap', rfl⟩ := ownsRow_succ hown'; obtain ⟨hv1, hv2, hr2, hk2, hb2⟩ := hv.appended (by decide) hrow hB.size (Nat.le_refl _) hown' hgrow; have hc1 := hv1.cell; have hf1 := hv1.frozen)
    exact ⟨hk2.from _, walks_of_others hk2, ⟨⟨_, hv2, by simpa [cellsC] using hr2, by simp⟩, hB.trans hb2⟩⟩
  case done =>
    rintro D ys W hD hS ⟨⟨v, hv, hrow, hnil⟩, hB⟩ hK
    have hc := hv.cell
    gi_wp2
    refine ⟨by simp, .inl ⟨_, _, rfl, run_takeDeferred hK, ?_⟩⟩
    exact ⟨_, results_tmp rfl _ _ _, v, ys, rfl, hS, ownsRow_putObj hrow _ hK rfl, hnil, hB.trans (belowK_b (w := w) (Nat.le_refl _) W D _ _ (by simp at hD; omega) hK rfl rfl)⟩
  case stop =>
    rintro D c pre W _ _ h _
    exact h.elim

set_option maxHeartbeats 1000000 in
theorem collectC (Bm b lo : Nat) (ps : List (Co × Value)) (w : World) (hps : ps.length ≤ 1000) (hBm : Bm < w.heap.size) (hm : w.cell? ⟨Bm, 0, none⟩ = some (.map (some b))) (hP : Pu w lo b ps) :
    Calls Try.prog 65 #[.func (.func 67) #[] #[.pointer (some ⟨Bm, 0, none⟩)]] w fun e w' =>
      ∃ (v : Value) (ss : List SC), e = .returned v ∧ AllC ps ss ∧ w'.ownsRow w.heap.size 41 8 v ss.length (ss.flatMap cellsC) ∧ (v = .slice none 0 0 ↔ ss = []) ∧ Below w.heap.size w w' := by
  have hA := (callsIn_wide (n := 3)).2 (callsIn_wide.1 (appendSeqC 3 (by omega) Bm b lo ps w hps hBm hm hP))
  have hA' := callsIn_wide.1 hA
  clear hA
  go_enter Try.func65, Try.ntmps65
  go_wp2_with (go_at_call 76; (with_reducible refine hA'.mono ?_); clear hA'; rintro e w' ⟨v, ss, rfl, hS, hrow, hnil, hb⟩)
  go_ret
  exact ⟨v, ss, rfl, hS, hrow, hnil, hb⟩

end Go.Proofs.Ytdfijlcjmllplaa

namespace Go.Proofs.Ytdfijlcjmllplaa
open Go.RowKit Go.Maps Go.WideMaps

def txIn (ps : List (Co × Value)) (t : Int) : Bool := ps.any fun x => decide (x.1.p = t)
/-- None of those that have come is of the transaction. -/
def NotYet (ps : List (Co × Value)) (t : Int) (left : Lit → Bool) : Prop := ∀ x ∈ ps, ∀ kl, keyOf Try.prog 38 (encR (refOf x)) = some kl → left kl = false → x.1.p ≠ t
theorem notYet_start {D : DataW Value} {ps : List (Co × Value)} (h : Told D ps) (t : Int) : NotYet ps t (fun kl => Maps.has D kl) := fun x hx kl hk hl => by
  have := h.look (refOf x) kl hk
  rw [find_mem h.refs hx] at this
  have hl' : Maps.has D kl = false := hl
  rw [this.1] at hl'
  cases hl'
theorem notYet_step {ps : List (Co × Value)} {t : Int} {left : Lit → Bool} (h : NotYet ps t left) (hrefs : ps.Pairwise fun x y => refOf x ≠ refOf y) {z : Co × Value} {kl : Lit} (hz : z ∈ ps) (hk : keyOf Try.prog 38 (encR (refOf z)) = some kl) (hne : z.1.p ≠ t) : NotYet ps t (fun s => left s && !s.sameKey kl) := fun x hx kl' hk' hl => by
  by_cases e : x = z
  · rw [e]; exact hne
  · have hne2 : kl' ≠ kl := fun e2 => e (refs_inj hrefs x hx z hz (encR_inj (kR.inj hk' (by rw [e2]; exact hk))))
    refine h x hx kl' hk' ?_
    have h2 : (left kl' && !kl'.sameKey kl) = false := hl
    rw [sameKey_ne hne2] at h2
    simpa using h2
theorem notYet_end {ps : List (Co × Value)} {t : Int} {left : Lit → Bool} (h : NotYet ps t left) (hw : ∀ x ∈ ps, (Lit.int .i64 x.1.p).wf = true ∧ (Lit.int .i64 x.1.q).wf = true) (hl : ∀ kl, left kl = false) : txIn ps t = false := by
  unfold txIn
  rw [List.any_eq_false]
  intro x hx
  obtain ⟨kl, hk⟩ := keyRf (r := refOf x) (hw x hx).1 (hw x hx).2
  simpa using h x hx kl hk (hl kl)
theorem txIn_true {ps : List (Co × Value)} {z : Co × Value} {t : Int} (hz : z ∈ ps) (e : z.1.p = t) : txIn ps t = true := by
  unfold txIn
  rw [List.any_eq_true]
  exact ⟨z, hz, by simpa using e⟩

set_option maxRecDepth 100000 in
set_option maxHeartbeats 2000000 in
theorem hasTx_any (B lo : Nat) (t : Int) (ps : List (Co × Value)) (w : World) (hP : Pu w lo B ps) :
    Calls Try.prog 43 #[.map (some B), .int .i64 t] w fun e w' => e = .returned (.bool (txIn ps t)) ∧ Below w.heap.size w w' := by
  obtain ⟨D, hown, hsz, hat0⟩ := hP.map
  have hT : Told D ps := ⟨hsz, hat0, hP.refs, hP.wfs, fun x hx => by
    rcases (hP.rows x hx).2 with ⟨e1, _⟩ | ⟨g, cp, cur, e1, _⟩
    · exact ⟨none, 0, 0, e1⟩
    · exact ⟨_, _, _, e1⟩⟩
  have HT : Hid (Told D ps) := hT
  clear hP hsz hat0 hT
  go_enter Try.func43, Try.ntmps43
  go_wp2_with (first
    | (at_range; refine wpList_range_own _ rfl _ 58 rfl 38 41 kR Try.underlying58 _ B ps.length _ rfl hown ?_; intro w0 hrg0 hg0 hs0))
  go_frame
  go_loopw [5] (fun _ wr => ∃ (left : Lit → Bool) (cnt : Nat), wr.ranges Try.prog 38 Rv B w.heap.size ps.length D left cnt ∧ Hid (NotYet ps t left) ∧ Hid (Below w.heap.size w wr)) (fun _ wr => wr.rangeLeft B w.heap.size)
  case atStart => exact ⟨_, _, hrg0, notYet_start HT.out t, (Below.refl _ w).grown hg0 (Nat.le_refl _) (fun k e => by cases e)⟩
  case round =>
    obtain ⟨left, cnt, hrg, HN, HB⟩ := hrel
    go_wp2_with (first
      | (at_next; refine wpList_next_ranges _ rfl _ rfl 38 kR Rv id id (fun key kl hk => ⟨key, rfl⟩) (fun v _ _ => ⟨v, rfl⟩) B w.heap.size ps.length _ _ _ rfl hrg ?_ ?_))
    · intro hc0 hl0
      go_wp2
      go_ret
      exact ⟨by rw [notYet_end HN.out HT.out.wfs hl0]; rfl, HB.out⟩
    · intro x c kl yd yp w2 cnt2 hkey hlk hv hat hrg2 hlt hg2 hs2 hen
      obtain rfl : yd = .held c := (Prod.mk.inj (show (DataW.held c, ([] : List MemPlace)) = (yd, yp) from Option.some.inj hv)).1.symm
      obtain ⟨z, hz, rfl, rfl, _, _⟩ := come_which HT.out (show keyOf Try.prog 38 x = some kl from hkey) hat
      have hkz : keyOf Try.prog 38 (encR (refOf z.1)) = some kl := hkey
      have hB2 : Below w.heap.size w w2 := HB.out.grown hg2 HB.out.size (fun k e => by cases e; exact Nat.le_refl _)
      have HB3 : Hid (Below w.heap.size w (w2.alloc (.cells #[.int .i64 z.1.1.p, .int .i64 z.1.1.q] 38))) := hB2.trans ((below_box _).mono hB2.size)
      have hrg3 := hrg2.of_walks (KeepsWalks.alloc w2 (.cells #[.int .i64 z.1.1.p, .int .i64 z.1.1.q] 38))
      dsimp only [coV, encR, refOf, id] at hen ⊢
      clear hs2 hB2 hkey hat hv
      by_cases hzt : z.1.1.p = t
      · have HX : Hid (txIn ps t = true) := txIn_true hz hzt
        clear hrg hrg2 hrg3 hz hkz
        go_wp2
        go_ret
        exact ⟨by rw [HX.out]; rfl, by have := HB3.out; rwa [hzt] at this⟩
      · have HS : Hid (NotYet ps t (fun s => left s && !s.sameKey kl)) := notYet_step HN.out HT.out.refs hz hkz hzt
        have HR3 : Hid ((w2.alloc (.cells #[.int .i64 z.1.1.p, .int .i64 z.1.1.q] 38)).ranges Try.prog 38 Rv B w.heap.size ps.length D (fun s => left s && !s.sameKey kl) cnt2) := hrg3
        have HR0 : Hid (wr.ranges Try.prog 38 Rv B w.heap.size ps.length D left cnt) := hrg
        clear hrg2 hrg3 hrg hz hkz
        go_wp2
        go_roundw
        case rel => exact ⟨_, cnt2, HR3.out, HS.out, HB3.out⟩
        case measure => rw [HR3.out.left_eq, HR0.out.left_eq]; exact hlt

end Go.Proofs.Ytdfijlcjmllplaa
