/- What SameRules answers: the specification's and the program's. -/
import Derived.Test.YtaopblgnmmhjfaaSrB
namespace Go.Proofs.Ytaopblgnmmhjfaa
open Go.RowKit Go.Maps Go.WideMaps

theorem sSameRules_any (a b : Option Addr) (n m c1 c2 : Nat) (l l' : List Int) (x x' y y' : Int) (w : World) (hl : n ≤ 1048576) (hl2 : m ≤ 1048576) (ha : IAt w a n l) (hb : IAt w b m l') :
    Calls Try.prog 56 #[.agg #[.slice a n c1, .int .i64 x, .int .i64 y], .agg #[.slice b m c2, .int .i64 x', .int .i64 y']] w fun e w' => e = .returned (.bool (sameR l l' x x' y y')) ∧ Below w.heap.size w w' := by
  have hbx : Below w.heap.size w ((w.alloc (.cells #[.slice a n c1, .int .i64 x, .int .i64 y] 70)).alloc (.cells #[.slice b m c2, .int .i64 x', .int .i64 y'] 70)) := below_box2 _ _
  have hS := l2Same_any w.heap.size (w.heap.size + 1) a b n m c1 c2 l l' x x' y y' _ hl hl2 (ha.below hbx (Nat.le_refl _)) (hb.below hbx (Nat.le_refl _)) block_at2 (heap_alloc_at _ _ _ (by simp))
  have HBX : Hid (Below w.heap.size w ((w.alloc (.cells #[.slice a n c1, .int .i64 x, .int .i64 y] 70)).alloc (.cells #[.slice b m c2, .int .i64 x', .int .i64 y'] 70))) := hbx
  clear hbx ha hb
  go_enter Try.func56, Try.ntmps56
  go_wp2_with (first | (go_at_call 117; refine hS.mono ?_; rintro e w2 ⟨rfl, hb2⟩))
  go_ret
  exact ⟨rfl, HBX.out.trans (hb2.mono (by simp; omega))⟩

set_option maxHeartbeats 400000 in
theorem iSameRules_any (a b : Option Addr) (n m c1 c2 : Nat) (l l' : List Int) (x x' y y' : Int) (w : World) (hl : n ≤ 1048576) (hl2 : m ≤ 1048576) (ha : IAt w a n l) (hb : IAt w b m l') :
    Calls Try.prog 57 #[.agg #[.slice a n c1, .int .i64 x, .int .i64 y], .agg #[.slice b m c2, .int .i64 x', .int .i64 y']] w fun e w' => e = .returned (.bool (sameR l l' x x' y y')) ∧ Below w.heap.size w w' := by
  have hbx : Below w.heap.size w ((w.alloc (.cells #[.slice a n c1, .int .i64 x, .int .i64 y] 70)).alloc (.cells #[.slice b m c2, .int .i64 x', .int .i64 y'] 70)) := below_box2 _ _
  have hS := sEqual_any a b n m c1 c2 l l' _ hl hl2 (ha.below hbx (Nat.le_refl _)) (hb.below hbx (Nat.le_refl _))
  have HBX : Hid (Below w.heap.size w ((w.alloc (.cells #[.slice a n c1, .int .i64 x, .int .i64 y] 70)).alloc (.cells #[.slice b m c2, .int .i64 x', .int .i64 y'] 70))) := hbx
  have T0 : Hid _ := block_at2 (w := w) (o := .cells #[.slice a n c1, .int .i64 x, .int .i64 y] 70) (o' := .cells #[.slice b m c2, .int .i64 x', .int .i64 y'] 70)
  have T1 : Hid _ := heap_alloc_at (w.alloc (.cells #[.slice a n c1, .int .i64 x, .int .i64 y] 70)) (.cells #[.slice b m c2, .int .i64 x', .int .i64 y'] 70) (w.heap.size + 1) (by simp)
  clear hbx ha hb
  obtain ⟨q, hq⟩ : ∃ q, q = decide (l = l') := ⟨_, rfl⟩
  have hr : sameR l l' x x' y y' = (decide (x = x') && (decide (y = y') && q)) := by rw [hq]; rfl
  rw [← hq] at hS
  rw [hr]
  clear hr hq
  cases q
  · have e0 : (decide (x = x') && (decide (y = y') && false)) = false := by simp
    rw [e0]
    clear e0
    go_enter Try.func57, Try.ntmps57
    go_wp2_with (go_at_call 118; refine hS.mono ?_; rintro e w2 ⟨rfl, hb2⟩; obtain ⟨⟨p0, p1, p2⟩, _, HP⟩ := res3 T0.out hb2 (by simp; omega); obtain ⟨⟨q0, q1, q2⟩, _, HQ⟩ := res3 T1.out hb2 (by simp))
    go_ret
    exact ⟨rfl, HBX.out.trans (hb2.mono (by simp; omega))⟩
  by_cases hx : x = x'
  · subst hx
    by_cases hy : y = y'
    · subst hy
      have e0 : (decide (x = x) && (decide (y = y) && true)) = true := by simp
      rw [e0]
      clear e0
      go_enter Try.func57, Try.ntmps57
      go_wp2_with (go_at_call 118; refine hS.mono ?_; rintro e w2 ⟨rfl, hb2⟩; obtain ⟨⟨p0, p1, p2⟩, _, HP⟩ := res3 T0.out hb2 (by simp; omega); obtain ⟨⟨q0, q1, q2⟩, _, HQ⟩ := res3 T1.out hb2 (by simp))
      go_ret
      exact ⟨rfl, HBX.out.trans (hb2.mono (by simp; omega))⟩
    · have e0 : (decide (x = x) && (decide (y = y') && true)) = false := by simp [hy]
      have hyb : (y == y') = false := by simpa using hy
      rw [e0]
      clear e0
      go_enter Try.func57, Try.ntmps57
      go_wp2_with (go_at_call 118; refine hS.mono ?_; rintro e w2 ⟨rfl, hb2⟩; obtain ⟨⟨p0, p1, p2⟩, _, HP⟩ := res3 T0.out hb2 (by simp; omega); obtain ⟨⟨q0, q1, q2⟩, _, HQ⟩ := res3 T1.out hb2 (by simp))
      all_goals go_ret
      all_goals exact ⟨by simp [*], HBX.out.trans (hb2.mono (by simp; omega))⟩
  · have e0 : (decide (x = x') && (decide (y = y') && true)) = false := by simp [hx]
    have hxb : (x == x') = false := by simpa using hx
    rw [e0]
    clear e0
    go_enter Try.func57, Try.ntmps57
    go_wp2_with (go_at_call 118; refine hS.mono ?_; rintro e w2 ⟨rfl, hb2⟩; obtain ⟨⟨p0, p1, p2⟩, _, HP⟩ := res3 T0.out hb2 (by simp; omega); obtain ⟨⟨q0, q1, q2⟩, _, HQ⟩ := res3 T1.out hb2 (by simp))
    all_goals go_ret
    all_goals exact ⟨by simp [*], HBX.out.trans (hb2.mono (by simp; omega))⟩

end Go.Proofs.Ytaopblgnmmhjfaa
