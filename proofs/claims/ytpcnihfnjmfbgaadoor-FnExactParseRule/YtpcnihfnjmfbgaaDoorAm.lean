/- Results that hold a rule: alike, marked, held. -/
import Derived.Test.YtpcnihfnjmfbgaaDoorAl
namespace Go.Proofs.YtpcnihfnjmfbgaaDoor
open Go.RowKit Go.Shelf Go.Maps Go.WideMaps

set_option maxHeartbeats 1000000 in
theorem eqRR_any (a b : Option Addr) (n c1 c2 : Nat) (cd p h : Int) (l : List Int) (w : World) (hl : n ≤ 1048576) (ha : IAt w a n l) (hb : IAt w b n l) :
    Calls Tryd.prog 6 #[.agg #[.int .i64 cd, .slice a n c1, .int .i64 p, .int .i64 h], .agg #[.int .i64 cd, .slice b n c2, .int .i64 p, .int .i64 h]] w fun e w' => e = .returned (.bool true) ∧ Below w.heap.size w w' := by
  have hbx : Below w.heap.size w ((w.alloc (.cells #[.int .i64 cd, .slice a n c1, .int .i64 p, .int .i64 h] 26)).alloc (.cells #[.int .i64 cd, .slice b n c2, .int .i64 p, .int .i64 h] 26)) := below_box2 _ _
  have hE := eqRu_any a b n c1 c2 l p h _ hl (ha.below hbx (Nat.le_refl _)) (hb.below hbx (Nat.le_refl _))
  have HBX : Hid (Below w.heap.size w ((w.alloc (.cells #[.int .i64 cd, .slice a n c1, .int .i64 p, .int .i64 h] 26)).alloc (.cells #[.int .i64 cd, .slice b n c2, .int .i64 p, .int .i64 h] 26))) := hbx
  clear hbx ha hb
  go_enter Tryd.func6, Tryd.ntmps6
  go_wp2_with (first | (go_at_call 15; refine hE.mono ?_; rintro e w2 ⟨rfl, hb2⟩))
  go_ret
  exact ⟨rfl, HBX.out.trans (hb2.mono (by simp; omega))⟩
set_option maxHeartbeats 1000000 in
theorem markRuleA_any (a : Option Addr) (n c lo hi k : Nat) (xs : List Value) (p h : Int) (w : World) (hkn : k + n ≤ 4000000) (H0 : Own1 w lo hi a n c xs) :
    Calls Tryd.prog 16 #[.agg #[.slice a n c, .int .i64 p, .int .i64 h], .int .i64 k] w fun e w' => e = .returned (.int .i64 (k + n : Nat)) ∧ Own1 w' lo hi a n c (mkI k n) ∧ Chg w w' lo hi := by
  have hL := markI_any (.slice a n c) n lo k xs (w.alloc (.cells #[.slice a n c, .int .i64 p, .int .i64 h] 24)) hkn (H0.t.alloc _)
  have H : Hid (Own1 w lo hi a n c xs) := H0
  clear H0
  go_enter Tryd.func16, Tryd.ntmps16
  go_wp2_with (first | (go_at_call 31; refine hL.mono ?_; rintro e w2 ⟨rfl, ho2, hg2⟩))
  go_ret
  exact ⟨rfl, ⟨ho2, H.out.tb⟩, (Chg.of_below (below_box _) lo hi).trans (Chg.of_grown hg2 (fun k hk => ⟨(H.out.t.lt k hk).1, H.out.tb k hk⟩))⟩
set_option maxHeartbeats 1000000 in
theorem markRR_any (a : Option Addr) (n c lo hi k : Nat) (xs : List Value) (cd p h : Int) (w : World) (hkn : k + n ≤ 4000000) (H0 : Own1 w lo hi a n c xs) :
    Calls Tryd.prog 7 #[.agg #[.int .i64 cd, .slice a n c, .int .i64 p, .int .i64 h], .int .i64 k] w fun e w' => e = .returned (.int .i64 (k + n : Nat)) ∧ Own1 w' lo hi a n c (mkI k n) ∧ Chg w w' lo hi := by
  have hL := markRuleA_any a n c lo hi k xs p h (w.alloc (.cells #[.int .i64 cd, .slice a n c, .int .i64 p, .int .i64 h] 26)) hkn (H0.below (below_box _))
  clear H0
  go_enter Tryd.func7, Tryd.ntmps7
  go_wp2_with (first | (go_at_call 16; refine hL.mono ?_; rintro e w2 ⟨rfl, ho2, hg2⟩))
  go_ret
  exact ⟨rfl, ho2, (Chg.of_below (below_box _) lo hi).trans hg2⟩
set_option maxHeartbeats 1000000 in
theorem heldRuleA_any (a : Option Addr) (n c lo hi k : Nat) (p h : Int) (w : World) (hkn : k + n ≤ 4000000) (H0 : Own1 w lo hi a n c (mkI k n)) :
    Calls Tryd.prog 17 #[.agg #[.slice a n c, .int .i64 p, .int .i64 h], .int .i64 k] w fun e w' => e = .returned (.int .i64 (k + n : Nat)) ∧ Below w.heap.size w w' := by
  have hL := heldI_any (.slice a n c) n lo k (w.alloc (.cells #[.slice a n c, .int .i64 p, .int .i64 h] 24)) hkn (H0.t.alloc _)
  clear H0
  go_enter Tryd.func17, Tryd.ntmps17
  go_wp2_with (first | (go_at_call 32; refine hL.mono ?_; rintro e w2 ⟨rfl, hw⟩; subst hw))
  go_ret
  exact ⟨ret_int (by omega), below_box _⟩
set_option maxHeartbeats 1000000 in
theorem heldRR_any (a : Option Addr) (n c lo hi k : Nat) (cd p h : Int) (w : World) (hkn : k + n ≤ 4000000) (H0 : Own1 w lo hi a n c (mkI k n)) :
    Calls Tryd.prog 8 #[.agg #[.int .i64 cd, .slice a n c, .int .i64 p, .int .i64 h], .int .i64 k] w fun e w' => e = .returned (.int .i64 (k + n : Nat)) ∧ Below w.heap.size w w' := by
  have hL := heldRuleA_any a n c lo hi k p h (w.alloc (.cells #[.int .i64 cd, .slice a n c, .int .i64 p, .int .i64 h] 26)) hkn (H0.below (below_box _))
  clear H0
  go_enter Tryd.func8, Tryd.ntmps8
  go_wp2_with (first | (go_at_call 17; refine hL.mono ?_; rintro e w2 ⟨rfl, hb2⟩))
  go_ret
  exact ⟨ret_int (by omega), (below_box _).trans (hb2.mono (by simp))⟩
theorem own_pu {w : World} {base n c : Nat} {a : Option Addr} {xs : List Value} (h : w.ownsRow base 2 1 (.slice a n c) n xs) : Own1 w base w.heap.size a n c xs := ⟨h, fun b hb => (h.lt b hb).2⟩
theorem prR_len (t : List UInt8) : (prR t).2.1.length ≤ 3 := by
  unfold prR
  by_cases e : (parU t).2 = true
  · rw [if_pos e]; exact (ruleR_zero rfl (parU_sound e).1).1.2
  · rw [if_neg e]; simp

end Go.Proofs.YtpcnihfnjmfbgaaDoor
