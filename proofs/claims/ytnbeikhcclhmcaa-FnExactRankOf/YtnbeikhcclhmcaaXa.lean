/- RankOf and NeedOf: the program's, the specification's, and the laws' walks. -/
import Derived.Test.YtnbeikhcclhmcaaTw
import Derived.Test.YtnbeikhcclhmcaaSp
import Derived.Test.YtnbeikhcclhmcaaBase
import Derived.Deep.QuietTactic
import Derived.BigQuiet
import Derived.Lib.SmallJoins
import Derived.Deep.RegionHeld3
namespace Go.Proofs.Ytnbeikhcclhmcaa
open Go.RowKit Go.Maps Go.WideMaps

def rankQ (k s : Int) : Int := (k * 40503 + s * 30011 + k * s + 7).tmod 65521
def rankR (k s : Int) : Int := if inB k 1 999 = true ∧ inB s 0 65535 = true then rankQ k s else -1
theorem isSeed_any (v : Int) (w : World) : Calls Try.prog 42 #[.int .i64 v] w fun e w' => e = .returned (.bool (inB v 0 65535)) ∧ w' = w := by
  go_enter Try.func42, Try.ntmps42
  go_wp2_with (go_at_call 37; refine (isWithin_any _ _ _ _).mono ?_; rintro e w' ⟨rfl, rfl⟩)
  go_ret
  exact ⟨rfl, rfl⟩
theorem l10Seed_any (v : Int) (w : World) : Calls Try.prog 40 #[.int .i64 v] w fun e w' => e = .returned (.bool (inB v 0 65535)) ∧ w' = w := by
  go_enter Try.func40, Try.ntmps40
  go_wp2_with (go_at_call 43; refine (l1In_any _ _ _ _).mono ?_; rintro e w' ⟨rfl, rfl⟩)
  go_ret
  exact ⟨rfl, rfl⟩
theorem rank_wraps {k s : Int} (h0 : 1 ≤ k) (h1 : k ≤ 999) (h2 : 0 ≤ s) (h3 : s ≤ 65535) :
    IntKind.i64.wrap (k * 40503) = k * 40503 ∧ IntKind.i64.wrap (s * 30011) = s * 30011 ∧ IntKind.i64.wrap (k * 40503 + s * 30011) = k * 40503 + s * 30011 ∧ IntKind.i64.wrap (k * s) = k * s ∧ IntKind.i64.wrap (k * 40503 + s * 30011 + k * s) = k * 40503 + s * 30011 + k * s ∧ IntKind.i64.wrap (k * 40503 + s * 30011 + k * s + 7) = k * 40503 + s * 30011 + k * s + 7 := by
  have a0 : 0 ≤ k * s := Int.mul_nonneg (by omega) h2
  have a1 : k * s ≤ 999 * 65535 := Int.mul_le_mul h1 h3 h2 (by omega)
  refine ⟨IntWalk.i64_in _ (by omega), IntWalk.i64_in _ (by omega), IntWalk.i64_in _ (by omega), IntWalk.i64_in _ (by omega), IntWalk.i64_in _ (by omega), IntWalk.i64_in _ (by omega)⟩

theorem sRankOf_any (k s : Int) (w : World) : Calls Try.prog 14 #[.int .i64 k, .int .i64 s] w fun e w' => e = .returned (.int .i64 (rankR k s)) ∧ w' = w := by
  obtain ⟨kb, hkb⟩ : ∃ x, x = inB k 1 999 := ⟨_, rfl⟩
  obtain ⟨sb, hsb⟩ : ∃ x, x = inB s 0 65535 := ⟨_, rfl⟩
  have hk : ∀ u, Calls Try.prog 39 #[.int .i64 k] u fun e w' => e = .returned (.bool kb) ∧ w' = u := fun u => by rw [hkb]; exact l1Key_any _ u
  have hs : ∀ u, Calls Try.prog 40 #[.int .i64 s] u fun e w' => e = .returned (.bool sb) ∧ w' = u := fun u => by rw [hsb]; exact l10Seed_any _ u
  cases kb
  · have hr : rankR k s = -1 := by unfold rankR; rw [if_neg (by rw [← hkb]; simp)]
    rw [hr]
    clear hr hkb hsb
    go_enter Try.func14, Try.ntmps14
    go_wp2_with (go_at_call 39; refine (hk _).mono ?_; rintro e w' ⟨rfl, hw⟩; have hw2 := hw.symm; subst hw2)
    go_ret
    exact ⟨rfl, rfl⟩
  cases sb
  · have hr : rankR k s = -1 := by unfold rankR; rw [if_neg (by rw [← hsb]; simp)]
    rw [hr]
    clear hr hkb hsb
    go_enter Try.func14, Try.ntmps14
    go_wp2_with (first | (go_at_call 39; refine (hk _).mono ?_; rintro e w' ⟨rfl, hw⟩; have hw2 := hw.symm; subst hw2) | (go_at_call 40; refine (hs _).mono ?_; rintro e w' ⟨rfl, hw⟩; have hw2 := hw.symm; subst hw2))
    go_ret
    exact ⟨rfl, rfl⟩
  · have hr : rankR k s = rankQ k s := by unfold rankR; rw [if_pos ⟨hkb.symm, hsb.symm⟩]
    rw [hr]
    have b1 := inB_true.1 hkb.symm
    have b2 := inB_true.1 hsb.symm
    obtain ⟨m1, m2, m3, m4, m5, m6⟩ := rank_wraps b1.1 b1.2 b2.1 b2.2
    clear hr hkb hsb b1 b2
    go_enter Try.func14, Try.ntmps14
    go_wp2_with (first | (go_at_call 39; refine (hk _).mono ?_; rintro e w' ⟨rfl, hw⟩; have hw2 := hw.symm; subst hw2) | (go_at_call 40; refine (hs _).mono ?_; rintro e w' ⟨rfl, hw⟩; have hw2 := hw.symm; subst hw2))
    go_ret
    exact ⟨rfl, rfl⟩

theorem iRankOf_any (k s : Int) (w : World) : Calls Try.prog 15 #[.int .i64 k, .int .i64 s] w fun e w' => e = .returned (.int .i64 (rankR k s)) ∧ w' = w := by
  obtain ⟨kb, hkb⟩ : ∃ x, x = inB k 1 999 := ⟨_, rfl⟩
  obtain ⟨sb, hsb⟩ : ∃ x, x = inB s 0 65535 := ⟨_, rfl⟩
  have hk : ∀ u, Calls Try.prog 41 #[.int .i64 k] u fun e w' => e = .returned (.bool kb) ∧ w' = u := fun u => by rw [hkb]; exact isKey_any _ u
  have hs : ∀ u, Calls Try.prog 42 #[.int .i64 s] u fun e w' => e = .returned (.bool sb) ∧ w' = u := fun u => by rw [hsb]; exact isSeed_any _ u
  cases kb
  · have hr : rankR k s = -1 := by unfold rankR; rw [if_neg (by rw [← hkb]; simp)]
    rw [hr]
    clear hr hkb hsb
    go_enter Try.func15, Try.ntmps15
    go_wp2_with (go_at_call 41; refine (hk _).mono ?_; rintro e w' ⟨rfl, hw⟩; have hw2 := hw.symm; subst hw2)
    go_ret
    exact ⟨rfl, rfl⟩
  cases sb
  · have hr : rankR k s = -1 := by unfold rankR; rw [if_neg (by rw [← hsb]; simp)]
    rw [hr]
    clear hr hkb hsb
    go_enter Try.func15, Try.ntmps15
    go_wp2_with (first | (go_at_call 41; refine (hk _).mono ?_; rintro e w' ⟨rfl, hw⟩; have hw2 := hw.symm; subst hw2) | (go_at_call 42; refine (hs _).mono ?_; rintro e w' ⟨rfl, hw⟩; have hw2 := hw.symm; subst hw2))
    go_ret
    exact ⟨rfl, rfl⟩
  · have hr : rankR k s = rankQ k s := by unfold rankR; rw [if_pos ⟨hkb.symm, hsb.symm⟩]
    rw [hr]
    have b1 := inB_true.1 hkb.symm
    have b2 := inB_true.1 hsb.symm
    obtain ⟨m1, m2, m3, m4, m5, m6⟩ := rank_wraps b1.1 b1.2 b2.1 b2.2
    clear hr hkb hsb b1 b2
    go_enter Try.func15, Try.ntmps15
    go_wp2_with (first | (go_at_call 41; refine (hk _).mono ?_; rintro e w' ⟨rfl, hw⟩; have hw2 := hw.symm; subst hw2) | (go_at_call 42; refine (hs _).mono ?_; rintro e w' ⟨rfl, hw⟩; have hw2 := hw.symm; subst hw2))
    go_ret
    exact ⟨rfl, rfl⟩

theorem lawRankOf (k s : Int) (w : World) : Calls Try.prog 4 #[.int .i64 k, .int .i64 s] w fun e w' => e = .returned (.bool true) ∧ Below w.heap.size w w' := by
  obtain ⟨c, hc⟩ : ∃ c, c = rankR k s := ⟨_, rfl⟩
  have h1 := fun u => sRankOf_any k s u
  have h2 := fun u => iRankOf_any k s u
  simp only [← hc] at h1 h2
  clear hc
  go_enter Try.func4, Try.ntmps4
  go_wp2_with (first
    | (go_at_call 14; (with_reducible refine (h1 _).mono ?_); rintro e w' ⟨rfl, hw⟩; have hw2 := hw.symm; subst hw2)
    | (go_at_call 15; (with_reducible refine (h2 _).mono ?_); rintro e w' ⟨rfl, hw⟩; have hw2 := hw.symm; subst hw2))
  go_ret
  exact ⟨rfl, Below.refl _ _⟩

end Go.Proofs.Ytnbeikhcclhmcaa
