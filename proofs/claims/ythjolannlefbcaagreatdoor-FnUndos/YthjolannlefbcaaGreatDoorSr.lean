/- Two rules held against each other: the specification's way and the program's. Two rules held against each other, boxed: the specification's way. What SameRules answers: the specification's and the program's. -/
import Derived.Test.YthjolannlefbcaaGreatDoorJn2
namespace Go.Proofs.YthjolannlefbcaaGreatDoor
open Go.RowKit Go.Maps Go.WideMaps

def sameR (l l' : List Int) (x x' y y' : Int) : Bool := decide (x = x') && (decide (y = y') && decide (l = l'))
theorem take_same {l l' : List Int} {n k : Nat} (hn : l.length = n) (hm : l'.length = n) (hlt : k < n) (h : l.take k = l'.take k) {s : Int} (hs : s = l.getD k 0) (ht : s = l'.getD k 0) : Hid (l.take (k + 1) = l'.take (k + 1)) := by
  show _ = _
  have e1 : l[k]? = some s := by rw [hs]; simp [List.getD, show k < l.length by omega]
  have e2 : l'[k]? = some s := by rw [ht]; simp [List.getD, show k < l'.length by omega]
  rw [List.take_add_one, List.take_add_one, h, e1, e2]
theorem not_same {l l' : List Int} {k : Nat} {s t : Int} (hs : s = l.getD k 0) (ht : t = l'.getD k 0) (h : ¬ s = t) : ¬ l = l' := by
  rintro rfl; exact h (hs.trans ht.symm)

set_option maxHeartbeats 400000 in
theorem sEqual_any (a b : Option Addr) (n m c1 c2 : Nat) (l l' : List Int) (w : World) (hl : n ≤ 1048576) (hl2 : m ≤ 1048576) (ha : IAt w a n l) (hb : IAt w b m l') :
    Calls Tryz.prog 125 #[.slice a n c1, .slice b m c2] w fun e w' => e = .returned (.bool (decide (l = l'))) ∧ Below w.heap.size w w' := by
  obtain ⟨r, hr⟩ : ∃ r, r = decide (l = l') := ⟨_, rfl⟩
  rw [← hr]
  have HR : Hid (r = decide (l = l')) := hr
  have HA : Hid (IAt w a n l) := ha
  have HB : Hid (IAt w b m l') := hb
  clear hr ha hb
  by_cases hnm : n = m
  · subst hnm
    go_enter Tryz.func125, Tryz.ntmps125
    go_wp2
    go_loopw [13] (fun i wr => ∃ k : Nat, k ≤ n ∧ i = .int .i64 k ∧ Below w.heap.size w wr ∧ Hid (l.take k = l'.take k)) (fun i _ => n - (intOf i).toNat)
    case atStart => exact ⟨0, Nat.zero_le _, rfl, Below.refl _ _, by show _ = _; simp⟩
    case round =>
      obtain ⟨k, hk, rfl, hbel, HT⟩ := hrel
      by_cases hlt : k < n
      · rcases HA.out.2 with h0 | ⟨b0, o0, e0, l0, d0⟩
        · omega
        subst e0
        rcases HB.out.2 with h0 | ⟨b1, o1, e1, l1, d1⟩
        · omega
        subst e1
        obtain ⟨s, hs⟩ : ∃ s, s = l.getD k 0 := ⟨_, rfl⟩
        obtain ⟨t, ht⟩ : ∃ t, t = l'.getD k 0 := ⟨_, rfl⟩
        have x0 := (hbel.cell (p := ⟨b0, o0 + k, none⟩) l0).trans (d0 k hlt)
        have x1 := (hbel.cell (p := ⟨b1, o1 + k, none⟩) l1).trans (d1 k hlt)
        rw [← hs] at x0
        rw [← ht] at x1
        have HS : Hid (s = l.getD k 0) := hs
        have HTT : Hid (t = l'.getD k 0) := ht
        clear hs ht d0 d1
        have hki : (k : Int) < (n : Int) := by omega
        by_cases hst : s = t
        · subst hst
          go_wp2
          go_quiet (fail)
          go_wp2
          go_roundw
          case rel => exact ⟨k + 1, by omega, by go_num, hbel.trans (Joins.below_draws _ _ _), take_same HA.out.1 HB.out.1 hlt HT.out HS.out HTT.out⟩
          case measure => simp [intOf]; omega
        · go_wp2
          go_quiet (fail)
          go_wp2
          go_ret
          obtain rfl : r = false := by rw [HR.out]; exact decide_eq_false (not_same HS.out HTT.out hst)
          exact ⟨rfl, hbel.trans (Joins.below_draws _ _ _)⟩
      · go_wp2
        go_ret
        have e := HT.out
        rw [List.take_of_length_le (by rw [HA.out.1]; omega), List.take_of_length_le (by rw [HB.out.1]; omega)] at e
        obtain rfl : r = true := by rw [HR.out]; exact decide_eq_true e
        exact ⟨rfl, hbel⟩
  · have hni : (n : Int) ≠ (m : Int) := by omega
    go_enter Tryz.func125, Tryz.ntmps125
    go_wp2
    go_ret
    obtain rfl : r = false := by rw [HR.out]; exact decide_eq_false (by rintro rfl; exact hnm (HA.out.1.symm.trans HB.out.1))
    exact ⟨rfl, Below.refl _ _⟩

end Go.Proofs.YthjolannlefbcaaGreatDoor

namespace Go.Proofs.YthjolannlefbcaaGreatDoor
open Go.RowKit Go.Maps Go.WideMaps

end Go.Proofs.YthjolannlefbcaaGreatDoor

namespace Go.Proofs.YthjolannlefbcaaGreatDoor
open Go.RowKit Go.Maps Go.WideMaps

set_option maxHeartbeats 400000 in
theorem iSameRules_any (a b : Option Addr) (n m c1 c2 : Nat) (l l' : List Int) (x x' y y' : Int) (w : World) (hl : n ≤ 1048576) (hl2 : m ≤ 1048576) (ha : IAt w a n l) (hb : IAt w b m l') :
    Calls Tryz.prog 103 #[.agg #[.slice a n c1, .int .i64 x, .int .i64 y], .agg #[.slice b m c2, .int .i64 x', .int .i64 y']] w fun e w' => e = .returned (.bool (sameR l l' x x' y y')) ∧ Below w.heap.size w w' := by
  have hbx : Below w.heap.size w ((w.alloc (.cells #[.slice a n c1, .int .i64 x, .int .i64 y] 71)).alloc (.cells #[.slice b m c2, .int .i64 x', .int .i64 y'] 71)) := below_box2 _ _
  have hS := sEqual_any a b n m c1 c2 l l' _ hl hl2 (ha.below hbx (Nat.le_refl _)) (hb.below hbx (Nat.le_refl _))
  have HBX : Hid (Below w.heap.size w ((w.alloc (.cells #[.slice a n c1, .int .i64 x, .int .i64 y] 71)).alloc (.cells #[.slice b m c2, .int .i64 x', .int .i64 y'] 71))) := hbx
  have T0 : Hid _ := block_at2 (w := w) (o := .cells #[.slice a n c1, .int .i64 x, .int .i64 y] 71) (o' := .cells #[.slice b m c2, .int .i64 x', .int .i64 y'] 71)
  have T1 : Hid _ := heap_alloc_at (w.alloc (.cells #[.slice a n c1, .int .i64 x, .int .i64 y] 71)) (.cells #[.slice b m c2, .int .i64 x', .int .i64 y'] 71) (w.heap.size + 1) (by simp)
  clear hbx ha hb
  obtain ⟨q, hq⟩ : ∃ q, q = decide (l = l') := ⟨_, rfl⟩
  have hr : sameR l l' x x' y y' = (decide (x = x') && (decide (y = y') && q)) := by rw [hq]; rfl
  rw [← hq] at hS
  rw [hr]
  clear hr hq
  cases q
  · have e0 : (decide (x = x') && (decide (y = y') && false)) = false := by simp
    rw [e0]
    clear e0
    go_enter Tryz.func103, Tryz.ntmps103
    go_wp2_with (go_at_call 125; refine hS.mono ?_; rintro e w2 ⟨rfl, hb2⟩; obtain ⟨⟨p0, p1, p2⟩, _, HP⟩ := res3 T0.out hb2 (by simp; omega); obtain ⟨⟨q0, q1, q2⟩, _, HQ⟩ := res3 T1.out hb2 (by simp))
    go_ret
    exact ⟨rfl, HBX.out.trans (hb2.mono (by simp; omega))⟩
  by_cases hx : x = x'
  · subst hx
    by_cases hy : y = y'
    · subst hy
      have e0 : (decide (x = x) && (decide (y = y) && true)) = true := by simp
      rw [e0]
      clear e0
      go_enter Tryz.func103, Tryz.ntmps103
      go_wp2_with (go_at_call 125; refine hS.mono ?_; rintro e w2 ⟨rfl, hb2⟩; obtain ⟨⟨p0, p1, p2⟩, _, HP⟩ := res3 T0.out hb2 (by simp; omega); obtain ⟨⟨q0, q1, q2⟩, _, HQ⟩ := res3 T1.out hb2 (by simp))
      go_ret
      exact ⟨rfl, HBX.out.trans (hb2.mono (by simp; omega))⟩
    · have e0 : (decide (x = x) && (decide (y = y') && true)) = false := by simp [hy]
      have hyb : (y == y') = false := by simpa using hy
      rw [e0]
      clear e0
      go_enter Tryz.func103, Tryz.ntmps103
      go_wp2_with (go_at_call 125; refine hS.mono ?_; rintro e w2 ⟨rfl, hb2⟩; obtain ⟨⟨p0, p1, p2⟩, _, HP⟩ := res3 T0.out hb2 (by simp; omega); obtain ⟨⟨q0, q1, q2⟩, _, HQ⟩ := res3 T1.out hb2 (by simp))
      all_goals go_ret
      all_goals exact ⟨by simp [*], HBX.out.trans (hb2.mono (by simp; omega))⟩
  · have e0 : (decide (x = x') && (decide (y = y') && true)) = false := by simp [hx]
    have hxb : (x == x') = false := by simpa using hx
    rw [e0]
    clear e0
    go_enter Tryz.func103, Tryz.ntmps103
    go_wp2_with (go_at_call 125; refine hS.mono ?_; rintro e w2 ⟨rfl, hb2⟩; obtain ⟨⟨p0, p1, p2⟩, _, HP⟩ := res3 T0.out hb2 (by simp; omega); obtain ⟨⟨q0, q1, q2⟩, _, HQ⟩ := res3 T1.out hb2 (by simp))
    all_goals go_ret
    all_goals exact ⟨by simp [*], HBX.out.trans (hb2.mono (by simp; omega))⟩

end Go.Proofs.YthjolannlefbcaaGreatDoor
