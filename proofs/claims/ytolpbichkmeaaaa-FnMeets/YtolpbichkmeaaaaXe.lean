/- How many of a quorum's keys are bad: the specification's count and the program's; IsSafe, CanLock: the specification's. -/
import Derived.Test.YtolpbichkmeaaaaXd
import Derived.Test.YtolpbichkmeaaaaLOwnedBy
import Derived.Lib.QuietBelow
namespace Go.Proofs.Ytolpbichkmeaaaa
open Go.RowKit Go.Maps Go.WideMaps

def badN (l t : List Int) : Nat := (l.filter (hasK t)).length
theorem badN_yes {l t : List Int} {s : Int} (h : hasK t s = true) : badN (l ++ [s]) t = badN l t + 1 := by unfold badN; rw [List.filter_append]; simp [h]
theorem badN_no {l t : List Int} {s : Int} (h : hasK t s = false) : badN (l ++ [s]) t = badN l t := by unfold badN; rw [List.filter_append]; simp [h]
theorem badN_le (l t : List Int) : badN l t ≤ l.length := List.length_filter_le _ _

set_option maxHeartbeats 1000000 in
theorem l10Bad_any (n c m d : Nat) (a b : Option Addr) (l t : List Int) (w : World) (hl : n ≤ 1048576) (hm : m ≤ maxLen) (hI : IAt w a n l) (hJ : IAt w b m t) :
    Calls Try.prog 50 #[.slice a n c, .slice b m d] w fun e w' => e = .returned (.int .i64 (badN l t)) ∧ w' = w := by
  have HN : Hid (l.length = n) := hI.1
  have HSS : Hid (IAt w a n l) := hI
  have HJ : Hid (IAt w b m t) := hJ
  clear hI hJ
  go_enter Try.func50, Try.ntmps50
  go_wp2
  go_loop [5, 6] (fun v i => ∃ k : Nat, k ≤ n ∧ i = .int .i64 k ∧ ∃ q : Nat, q ≤ k ∧ v = .int .i64 q ∧ Hid (q = badN (l.take k) t)) (fun _ i => n - (intOf i).toNat)
  case atStart => exact ⟨0, Nat.zero_le _, rfl, 0, Nat.zero_le _, rfl, by show _ = _; simp [badN]⟩
  case round =>
    obtain ⟨k, hk, rfl, q, hq, rfl, HT⟩ := hrel
    by_cases hlt : k < n
    · rcases HSS.out.2 with h0 | ⟨b0, o0, e0, l0, d0⟩
      · omega
      subst e0
      obtain ⟨s, hs⟩ : ∃ s, s = l.getD k 0 := ⟨_, rfl⟩
      have x0 := d0 k hlt
      rw [← hs] at x0
      have HS : Hid (s = l.getD k 0) := hs
      obtain ⟨ks, hks⟩ : ∃ z, z = hasK t s := ⟨_, rfl⟩
      have hA := l4Among_any b m d t s w hm HJ.out
      rw [← hks] at hA
      have HKS : Hid (ks = hasK t s) := hks
      have hki : (k : Int) < (n : Int) := by omega
      have hwr : IntKind.i64.wrap ((q : Int) + 1) = (q : Int) + 1 := IntWalk.i64_in _ (by omega)
      clear hs d0 hks
      cases ks
      · go_wp2_with (go_at_call 36; (with_reducible refine hA.mono ?_); rintro e w' ⟨rfl, hw⟩; have hw2 := hw.symm; subst hw2)
        go_round
        case rel => exact ⟨k + 1, by omega, by go_num, q, by omega, rfl, by show _ = _; rw [take_next HN.out hlt HS.out, badN_no HKS.out.symm]; exact HT.out⟩
        case measure => simp [intOf]; omega
      · go_wp2_with (go_at_call 36; (with_reducible refine hA.mono ?_); rintro e w' ⟨rfl, hw⟩; have hw2 := hw.symm; subst hw2)
        go_round
        case rel => exact ⟨k + 1, by omega, by go_num, q + 1, by omega, by go_num, by show _ = _; rw [take_next HN.out hlt HS.out, badN_yes HKS.out.symm, HT.out]⟩
        case measure => simp [intOf]; omega
    · obtain rfl : q = badN l t := by rw [HT.out, take_all HN.out hlt]
      go_wp2
      go_ret
      exact ⟨rfl, rfl⟩

set_option maxHeartbeats 1000000 in
theorem countBad_any (n c m d : Nat) (a b : Option Addr) (l t : List Int) (x : Int) (w : World) (hl : n ≤ 1048576) (hm : m ≤ maxLen) (hI : IAt w a n l) (hJ : IAt w b m t) :
    Calls Try.prog 47 #[.agg #[.slice a n c, .int .i64 x], .slice b m d] w fun e w' => e = .returned (.int .i64 (badN l t)) ∧ Below w.heap.size w w' := by
  have HN : Hid (l.length = n) := hI.1
  have hbx : Below w.heap.size w (w.alloc (.cells #[.slice a n c, .int .i64 x] 28)) := below_box _
  have HBX : Hid (Below w.heap.size w (w.alloc (.cells #[.slice a n c, .int .i64 x] 28))) := hbx
  have HSS : Hid (IAt (w.alloc (.cells #[.slice a n c, .int .i64 x] 28)) a n l) := hI.below hbx (Nat.le_refl _)
  have HJ : Hid (IAt (w.alloc (.cells #[.slice a n c, .int .i64 x] 28)) b m t) := hJ.below hbx (Nat.le_refl _)
  clear hbx
  clear hI hJ
  go_enter Try.func47, Try.ntmps47
  go_wp2
  go_loop [5, 11] (fun v i => ∃ k : Nat, k ≤ n ∧ i = .int .i64 k ∧ ∃ q : Nat, q ≤ k ∧ v = .int .i64 q ∧ Hid (q = badN (l.take k) t)) (fun _ i => n - (intOf i).toNat)
  case atStart => exact ⟨0, Nat.zero_le _, rfl, 0, Nat.zero_le _, rfl, by show _ = _; simp [badN]⟩
  case round =>
    obtain ⟨k, hk, rfl, q, hq, rfl, HT⟩ := hrel
    by_cases hlt : k < n
    · rcases HSS.out.2 with h0 | ⟨b0, o0, e0, l0, d0⟩
      · omega
      subst e0
      obtain ⟨s, hs⟩ : ∃ s, s = l.getD k 0 := ⟨_, rfl⟩
      have x0 := d0 k hlt
      rw [← hs] at x0
      have HS : Hid (s = l.getD k 0) := hs
      obtain ⟨ks, hks⟩ : ∃ z, z = hasK t s := ⟨_, rfl⟩
      have hA := iContains_any b m d t s _ hm HJ.out
      rw [← hks] at hA
      have HKS : Hid (ks = hasK t s) := hks
      have hki : (k : Int) < (n : Int) := by omega
      have hwr : IntKind.i64.wrap ((q : Int) + 1) = (q : Int) + 1 := IntWalk.i64_in _ (by omega)
      clear hs d0 hks
      cases ks
      · go_wp2_with (go_at_call 51; (with_reducible refine hA.mono ?_); rintro e w' ⟨rfl, hw⟩; have hw2 := hw.symm; subst hw2)
        go_round
        case rel => exact ⟨k + 1, by omega, by go_num, q, by omega, rfl, by show _ = _; rw [take_next HN.out hlt HS.out, badN_no HKS.out.symm]; exact HT.out⟩
        case measure => simp [intOf]; omega
      · go_wp2_with (go_at_call 51; (with_reducible refine hA.mono ?_); rintro e w' ⟨rfl, hw⟩; have hw2 := hw.symm; subst hw2)
        go_round
        case rel => exact ⟨k + 1, by omega, by go_num, q + 1, by omega, by go_num, by show _ = _; rw [take_next HN.out hlt HS.out, badN_yes HKS.out.symm, HT.out]⟩
        case measure => simp [intOf]; omega
    · obtain rfl : q = badN l t := by rw [HT.out, take_all HN.out hlt]
      go_wp2
      go_ret
      exact ⟨rfl, HBX.out⟩

def safeR (l : List Int) (x : Int) (t : List Int) : Bool := if quoR l x = 0 then decide ((badN l t : Int) < 2 * x - l.length) else false
def canR (l : List Int) (x : Int) (t : List Int) : Bool := if quoR l x = 0 then decide (x ≤ (l.length : Int) - badN l t) else false

theorem quoR_zero {l : List Int} {x : Int} (h : quoR l x = 0) : (1 ≤ l.length ∧ l.length ≤ 8) ∧ 1 ≤ x ∧ x ≤ l.length ∧ allK l = true ∧ riseB 0 l = true := by
  unfold quoR at h
  by_cases h1 : inB l.length 1 8 = false
  · rw [if_pos h1] at h; cases h
  · rw [if_neg h1] at h
    by_cases h2 : allK l = false ∨ inB x 1 l.length = false
    · rw [if_pos h2] at h; cases h
    · rw [if_neg h2] at h
      by_cases h3 : riseB 0 l = false
      · rw [if_pos h3] at h; cases h
      · simp only [not_or, Bool.not_eq_false] at h1 h2 h3
        have b1 := inB_true.1 h1
        have b2 := inB_true.1 h2.2
        exact ⟨⟨by omega, by omega⟩, b2.1, b2.2, h2.1, h3⟩

end Go.Proofs.Ytolpbichkmeaaaa
