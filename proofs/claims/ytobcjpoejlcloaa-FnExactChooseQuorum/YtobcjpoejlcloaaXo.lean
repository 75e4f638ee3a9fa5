/- Results that hold a quorum: two are compared, marked, and held. -/
import Derived.Test.YtobcjpoejlcloaaXn
namespace Go.Proofs.Ytobcjpoejlcloaa
open Go.RowKit Go.Maps Go.WideMaps

theorem cells2b {v : World} {b : Nat} {a0 a1 : Value} {t : TypeId} (h : v.heap[b]? = some (.cells #[a0, a1] t (0, 0))) : v.cell? ⟨b, 0, none⟩ = some a0 ∧ v.cell? ⟨b, 1, none⟩ = some a1 := ⟨by unfold World.cell?; rw [h]; rfl, by unfold World.cell?; rw [h]; rfl⟩

set_option maxHeartbeats 400000 in
theorem eqQq_any (a b : Option Addr) (n c1 c2 : Nat) (l : List Int) (x : Int) (w : World) (hl : n ≤ 1048576) (ha : IAt w a n l) (hb : IAt w b n l) :
    Calls Try.prog 25 #[.agg #[.slice a n c1, .int .i64 x], .agg #[.slice b n c2, .int .i64 x]] w fun e w' => e = .returned (.bool true) ∧ Below w.heap.size w w' := by
  have hbx : Below w.heap.size w ((w.alloc (.cells #[.slice a n c1, .int .i64 x] 24)).alloc (.cells #[.slice b n c2, .int .i64 x] 24)) := below_box2 _ _
  have hS := eqI_any a b n c1 c2 l _ hl (ha.below hbx (Nat.le_refl _)) (hb.below hbx (Nat.le_refl _))
  have t0 := block_at2 (w := w) (o := .cells #[.slice a n c1, .int .i64 x] 24) (o' := .cells #[.slice b n c2, .int .i64 x] 24)
  have t1 := heap_alloc_at (w.alloc (.cells #[.slice a n c1, .int .i64 x] 24)) (.cells #[.slice b n c2, .int .i64 x] 24) (w.heap.size + 1) (by simp)
  have HBX : Hid (Below w.heap.size w ((w.alloc (.cells #[.slice a n c1, .int .i64 x] 24)).alloc (.cells #[.slice b n c2, .int .i64 x] 24))) := hbx
  have T0 : Hid _ := t0
  have T1 : Hid _ := t1
  clear hbx ha hb t0 t1
  go_enter Try.func25, Try.ntmps25
  go_wp2_with (first
    | (go_at_call 8; refine hS.mono ?_; rintro e w2 ⟨rfl, hb2⟩; obtain ⟨p0, p1⟩ := cells2b ((hb2.block _ (by simp; omega)).trans T0.out); obtain ⟨q0, q1⟩ := cells2b ((hb2.block _ (by simp)).trans T1.out); have HBW : Hid (Below w.heap.size w w2) := HBX.out.trans (hb2.mono (by simp; omega)); clear hb2))
  go_ret
  exact ⟨rfl, HBW.out⟩

set_option maxHeartbeats 400000 in
theorem eqQR_any (a b : Option Addr) (n c1 c2 : Nat) (p x : Int) (l : List Int) (w : World) (hl : n ≤ 1048576) (ha : IAt w a n l) (hb : IAt w b n l) :
    Calls Try.prog 7 #[.agg #[.int .i64 p, .slice a n c1, .int .i64 x], .agg #[.int .i64 p, .slice b n c2, .int .i64 x]] w fun e w' => e = .returned (.bool true) ∧ Below w.heap.size w w' := by
  have hbx : Below w.heap.size w ((w.alloc (.cells #[.int .i64 p, .slice a n c1, .int .i64 x] 26)).alloc (.cells #[.int .i64 p, .slice b n c2, .int .i64 x] 26)) := below_box2 _ _
  have hS := eqQq_any a b n c1 c2 l x _ hl (ha.below hbx (Nat.le_refl _)) (hb.below hbx (Nat.le_refl _))
  have HBX : Hid (Below w.heap.size w ((w.alloc (.cells #[.int .i64 p, .slice a n c1, .int .i64 x] 26)).alloc (.cells #[.int .i64 p, .slice b n c2, .int .i64 x] 26))) := hbx
  clear hbx ha hb
  go_enter Try.func7, Try.ntmps7
  go_wp2_with (first
    | (go_at_call 25; refine hS.mono ?_; rintro e w2 ⟨rfl, hb2⟩; have HBW : Hid (Below w.heap.size w w2) := HBX.out.trans (hb2.mono (by simp; omega)); clear hb2))
  go_ret
  exact ⟨rfl, HBW.out⟩

set_option maxHeartbeats 400000 in
theorem markQq_any (a : Option Addr) (n c lo hi k : Nat) (xs : List Value) (x : Int) (w : World) (hkn : k + n ≤ 4000000) (h : Own1 w lo hi a n c xs) :
    Calls Try.prog 26 #[.agg #[.slice a n c, .int .i64 x], .int .i64 k] w fun e w' => e = .returned (.int .i64 (k + n : Nat)) ∧ Own1 w' lo hi a n c (mkI k n) ∧ Chg w w' lo hi := by
  have hL := markI_any (.slice a n c) n lo k xs (w.alloc (.cells #[.slice a n c, .int .i64 x] 24)) hkn (h.t.alloc _)
  have H : Hid (Own1 w lo hi a n c xs) := h
  clear h
  go_enter Try.func26, Try.ntmps26
  go_wp2_with (first | (go_at_call 9; refine hL.mono ?_; rintro e w2 ⟨rfl, ho2, hg2⟩))
  go_ret
  exact ⟨rfl, ⟨ho2, H.out.tb⟩, (Chg.of_below (below_box _) lo hi).trans (Chg.of_grown hg2 (fun k hk => ⟨(H.out.t.lt k hk).1, H.out.tb k hk⟩))⟩

set_option maxHeartbeats 400000 in
theorem markQR_any (a : Option Addr) (n c lo hi k : Nat) (xs : List Value) (p x : Int) (w : World) (hkn : k + n ≤ 4000000) (h : Own1 w lo hi a n c xs) :
    Calls Try.prog 10 #[.agg #[.int .i64 p, .slice a n c, .int .i64 x], .int .i64 k] w fun e w' => e = .returned (.int .i64 (k + n : Nat)) ∧ Own1 w' lo hi a n c (mkI k n) ∧ Chg w w' lo hi := by
  have hL := markQq_any a n c lo hi k xs x (w.alloc (.cells #[.int .i64 p, .slice a n c, .int .i64 x] 26)) hkn (h.below (below_box _))
  clear h
  go_enter Try.func10, Try.ntmps10
  go_wp2_with (first | (go_at_call 26; refine hL.mono ?_; rintro e w2 ⟨rfl, ho2, hg2⟩))
  go_ret
  exact ⟨rfl, ho2, (Chg.of_below (below_box _) lo hi).trans hg2⟩

set_option maxHeartbeats 400000 in
theorem heldQq_any (a : Option Addr) (n c lo hi k : Nat) (x : Int) (w : World) (hkn : k + n ≤ 4000000) (h : Own1 w lo hi a n c (mkI k n)) :
    Calls Try.prog 27 #[.agg #[.slice a n c, .int .i64 x], .int .i64 k] w fun e w' => e = .returned (.int .i64 (k + n : Nat)) ∧ Below w.heap.size w w' := by
  have hL := heldI_any (.slice a n c) n lo k (w.alloc (.cells #[.slice a n c, .int .i64 x] 24)) hkn (h.t.alloc _)
  clear h
  go_enter Try.func27, Try.ntmps27
  go_wp2_with (first | (go_at_call 40; refine hL.mono ?_; rintro e w2 ⟨rfl, hw⟩; subst hw))
  go_ret
  exact ⟨ret_int (by omega), below_box _⟩

set_option maxHeartbeats 400000 in
theorem heldQR_any (a : Option Addr) (n c lo hi k : Nat) (p x : Int) (w : World) (hkn : k + n ≤ 4000000) (h : Own1 w lo hi a n c (mkI k n)) :
    Calls Try.prog 11 #[.agg #[.int .i64 p, .slice a n c, .int .i64 x], .int .i64 k] w fun e w' => e = .returned (.int .i64 (k + n : Nat)) ∧ Below w.heap.size w w' := by
  have hL := heldQq_any a n c lo hi k x (w.alloc (.cells #[.int .i64 p, .slice a n c, .int .i64 x] 26)) hkn (h.below (below_box _))
  clear h
  go_enter Try.func11, Try.ntmps11
  go_wp2_with (first | (go_at_call 27; refine hL.mono ?_; rintro e w2 ⟨rfl, hb2⟩))
  go_ret
  exact ⟨ret_int (by omega), (below_box _).trans (hb2.mono (by simp))⟩

theorem choL_length (l : List Int) (s : Int) (m : Nat) : (choL l s m).length ≤ l.length := by
  unfold choL
  rw [List.length_take, srt_length, srt_length]
  omega
theorem choR_len (l : List Int) (s m : Int) : (choR l s m).2.1.length ≤ l.length := by
  unfold choR
  split
  · simp
  · exact choL_length _ _ _

end Go.Proofs.Ytobcjpoejlcloaa
