/- Results that hold a block: alike, marked, held. -/
import Derived.Test.YtlacmcedpphphaaGreatDoorGj
namespace Go.Proofs.YtlacmcedpphphaaGreatDoor
open Go.RowKit Go.Shelf Go.Maps Go.WideMaps

set_option maxHeartbeats 1000000 in
theorem eqBlk_any (a b : Option Addr) (n c1 c2 : Nat) (p h m : Int) (l : List Int) (w : World) (hl : n ≤ 1048576) (ha : IAt w a n l) (hb : IAt w b n l) :
    Calls Tryz.prog 21 #[.agg #[.int .i64 p, .int .i64 h, .int .i64 m, .slice a n c1], .agg #[.int .i64 p, .int .i64 h, .int .i64 m, .slice b n c2]] w fun e w' => e = .returned (.bool true) ∧ Below w.heap.size w w' := by
  have hbx : Below w.heap.size w ((w.alloc (.cells #[.int .i64 p, .int .i64 h, .int .i64 m, .slice a n c1] 29)).alloc (.cells #[.int .i64 p, .int .i64 h, .int .i64 m, .slice b n c2] 29)) := below_box2 _ _
  have hE := eqI_any a b n c1 c2 l _ hl (ha.below hbx (Nat.le_refl _)) (hb.below hbx (Nat.le_refl _))
  have HBX : Hid (Below w.heap.size w ((w.alloc (.cells #[.int .i64 p, .int .i64 h, .int .i64 m, .slice a n c1] 29)).alloc (.cells #[.int .i64 p, .int .i64 h, .int .i64 m, .slice b n c2] 29))) := hbx
  clear hbx ha hb
  go_enter Tryz.func21, Tryz.ntmps21
  go_wp2_with (first | (go_at_call 37; refine hE.mono ?_; rintro e w2 ⟨rfl, hb2⟩))
  go_ret
  exact ⟨rfl, HBX.out.trans (hb2.mono (by simp; omega))⟩
set_option maxHeartbeats 1000000 in
theorem eqBR_any (a b : Option Addr) (n c1 c2 : Nat) (cd p h m : Int) (l : List Int) (w : World) (hl : n ≤ 1048576) (ha : IAt w a n l) (hb : IAt w b n l) :
    Calls Tryz.prog 8 #[.agg #[.int .i64 cd, .int .i64 p, .int .i64 h, .int .i64 m, .slice a n c1], .agg #[.int .i64 cd, .int .i64 p, .int .i64 h, .int .i64 m, .slice b n c2]] w fun e w' => e = .returned (.bool true) ∧ Below w.heap.size w w' := by
  have hbx : Below w.heap.size w ((w.alloc (.cells #[.int .i64 cd, .int .i64 p, .int .i64 h, .int .i64 m, .slice a n c1] 31)).alloc (.cells #[.int .i64 cd, .int .i64 p, .int .i64 h, .int .i64 m, .slice b n c2] 31)) := below_box2 _ _
  have hE := eqBlk_any a b n c1 c2 p h m l _ hl (ha.below hbx (Nat.le_refl _)) (hb.below hbx (Nat.le_refl _))
  have HBX : Hid (Below w.heap.size w ((w.alloc (.cells #[.int .i64 cd, .int .i64 p, .int .i64 h, .int .i64 m, .slice a n c1] 31)).alloc (.cells #[.int .i64 cd, .int .i64 p, .int .i64 h, .int .i64 m, .slice b n c2] 31))) := hbx
  clear hbx ha hb
  go_enter Tryz.func8, Tryz.ntmps8
  go_wp2_with (first | (go_at_call 21; refine hE.mono ?_; rintro e w2 ⟨rfl, hb2⟩))
  go_ret
  exact ⟨rfl, HBX.out.trans (hb2.mono (by simp; omega))⟩
set_option maxHeartbeats 1000000 in
theorem markBlk_any (a : Option Addr) (n c lo hi k : Nat) (xs : List Value) (p h m : Int) (w : World) (hkn : k + n ≤ 4000000) (H0 : Own1 w lo hi a n c xs) :
    Calls Tryz.prog 26 #[.agg #[.int .i64 p, .int .i64 h, .int .i64 m, .slice a n c], .int .i64 k] w fun e w' => e = .returned (.int .i64 (k + n : Nat)) ∧ Own1 w' lo hi a n c (mkI k n) ∧ Chg w w' lo hi := by
  have hL := markI_any (.slice a n c) n lo k xs (w.alloc (.cells #[.int .i64 p, .int .i64 h, .int .i64 m, .slice a n c] 29)) hkn (H0.t.alloc _)
  have H : Hid (Own1 w lo hi a n c xs) := H0
  clear H0
  go_enter Tryz.func26, Tryz.ntmps26
  go_wp2_with (first | (go_at_call 40; refine hL.mono ?_; rintro e w2 ⟨rfl, ho2, hg2⟩))
  go_ret
  exact ⟨rfl, ⟨ho2, H.out.tb⟩, (Chg.of_below (below_box _) lo hi).trans (Chg.of_grown hg2 (fun k hk => ⟨(H.out.t.lt k hk).1, H.out.tb k hk⟩))⟩
set_option maxHeartbeats 1000000 in
theorem markBR_any (a : Option Addr) (n c lo hi k : Nat) (xs : List Value) (cd p h m : Int) (w : World) (hkn : k + n ≤ 4000000) (H0 : Own1 w lo hi a n c xs) :
    Calls Tryz.prog 11 #[.agg #[.int .i64 cd, .int .i64 p, .int .i64 h, .int .i64 m, .slice a n c], .int .i64 k] w fun e w' => e = .returned (.int .i64 (k + n : Nat)) ∧ Own1 w' lo hi a n c (mkI k n) ∧ Chg w w' lo hi := by
  have hL := markBlk_any a n c lo hi k xs p h m (w.alloc (.cells #[.int .i64 cd, .int .i64 p, .int .i64 h, .int .i64 m, .slice a n c] 31)) hkn (H0.below (below_box _))
  clear H0
  go_enter Tryz.func11, Tryz.ntmps11
  go_wp2_with (first | (go_at_call 26; refine hL.mono ?_; rintro e w2 ⟨rfl, ho2, hg2⟩))
  go_ret
  exact ⟨rfl, ho2, (Chg.of_below (below_box _) lo hi).trans hg2⟩
set_option maxHeartbeats 1000000 in
theorem heldBlk_any (a : Option Addr) (n c lo hi k : Nat) (p h m : Int) (w : World) (hkn : k + n ≤ 4000000) (H0 : Own1 w lo hi a n c (mkI k n)) :
    Calls Tryz.prog 27 #[.agg #[.int .i64 p, .int .i64 h, .int .i64 m, .slice a n c], .int .i64 k] w fun e w' => e = .returned (.int .i64 (k + n : Nat)) ∧ Below w.heap.size w w' := by
  have hL := heldI_any (.slice a n c) n lo k (w.alloc (.cells #[.int .i64 p, .int .i64 h, .int .i64 m, .slice a n c] 29)) hkn (H0.t.alloc _)
  clear H0
  go_enter Tryz.func27, Tryz.ntmps27
  go_wp2_with (first | (go_at_call 41; refine hL.mono ?_; rintro e w2 ⟨rfl, hw⟩; subst hw))
  go_ret
  exact ⟨ret_int (by omega), below_box _⟩
set_option maxHeartbeats 1000000 in
theorem heldBR_any (a : Option Addr) (n c lo hi k : Nat) (cd p h m : Int) (w : World) (hkn : k + n ≤ 4000000) (H0 : Own1 w lo hi a n c (mkI k n)) :
    Calls Tryz.prog 12 #[.agg #[.int .i64 cd, .int .i64 p, .int .i64 h, .int .i64 m, .slice a n c], .int .i64 k] w fun e w' => e = .returned (.int .i64 (k + n : Nat)) ∧ Below w.heap.size w w' := by
  have hL := heldBlk_any a n c lo hi k p h m (w.alloc (.cells #[.int .i64 cd, .int .i64 p, .int .i64 h, .int .i64 m, .slice a n c] 31)) hkn (H0.below (below_box _))
  clear H0
  go_enter Tryz.func12, Tryz.ntmps12
  go_wp2_with (first | (go_at_call 27; refine hL.mono ?_; rintro e w2 ⟨rfl, hb2⟩))
  go_ret
  exact ⟨ret_int (by omega), (below_box _).trans (hb2.mono (by simp))⟩
theorem pbR_len (t : List UInt8) : (pbR t).2.2.2.2.length ≤ 6 := by
  unfold pbR
  by_cases e : (parB t).2 = true
  · rw [if_pos e]; exact (bl_ok (parB_sound e).1).n
  · rw [if_neg e]; simp

end Go.Proofs.YtlacmcedpphphaaGreatDoor
