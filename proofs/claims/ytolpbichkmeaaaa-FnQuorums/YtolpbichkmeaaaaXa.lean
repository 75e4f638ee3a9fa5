/- RankOf and NeedOf: the program's, the specification's, and the laws' walks. -/
import Derived.Test.YtolpbichkmeaaaaIdOf
import Derived.Test.YtolpbichkmeaaaaSp
namespace Go.Proofs.Ytolpbichkmeaaaa
open Go.RowKit Go.Maps Go.WideMaps

def rankQ (k s : Int) : Int := (k * 40503 + s * 30011 + k * s + 7).tmod 65521
def rankR (k s : Int) : Int := if inB k 1 999 = true ∧ inB s 0 65535 = true then rankQ k s else -1
def needR (n : Int) : Int × Int := if inB n 1 8 = true then (0, (2 * n).tdiv 3 + 1) else (3, 0)

theorem isSeed_any (v : Int) (w : World) : Calls Try.prog 39 #[.int .i64 v] w fun e w' => e = .returned (.bool (inB v 0 65535)) ∧ w' = w := by
  go_enter Try.func39, Try.ntmps39
  go_wp2_with (go_at_call 44; refine (isWithin_any _ _ _ _).mono ?_; rintro e w' ⟨rfl, rfl⟩)
  go_ret
  exact ⟨rfl, rfl⟩
theorem l10Seed_any (v : Int) (w : World) : Calls Try.prog 34 #[.int .i64 v] w fun e w' => e = .returned (.bool (inB v 0 65535)) ∧ w' = w := by
  go_enter Try.func34, Try.ntmps34
  go_wp2_with (go_at_call 35; refine (l1In_any _ _ _ _).mono ?_; rintro e w' ⟨rfl, rfl⟩)
  go_ret
  exact ⟨rfl, rfl⟩
theorem isQS_any (v : Int) (w : World) : Calls Try.prog 40 #[.int .i64 v] w fun e w' => e = .returned (.bool (inB v 1 8)) ∧ w' = w := by
  go_enter Try.func40, Try.ntmps40
  go_wp2_with (go_at_call 44; refine (isWithin_any _ _ _ _).mono ?_; rintro e w' ⟨rfl, rfl⟩)
  go_ret
  exact ⟨rfl, rfl⟩

theorem rank_wraps {k s : Int} (h0 : 1 ≤ k) (h1 : k ≤ 999) (h2 : 0 ≤ s) (h3 : s ≤ 65535) :
    IntKind.i64.wrap (k * 40503) = k * 40503 ∧ IntKind.i64.wrap (s * 30011) = s * 30011 ∧ IntKind.i64.wrap (k * 40503 + s * 30011) = k * 40503 + s * 30011 ∧ IntKind.i64.wrap (k * s) = k * s ∧ IntKind.i64.wrap (k * 40503 + s * 30011 + k * s) = k * 40503 + s * 30011 + k * s ∧ IntKind.i64.wrap (k * 40503 + s * 30011 + k * s + 7) = k * 40503 + s * 30011 + k * s + 7 := by
  have a0 : 0 ≤ k * s := Int.mul_nonneg (by omega) h2
  have a1 : k * s ≤ 999 * 65535 := Int.mul_le_mul h1 h3 h2 (by omega)
  refine ⟨IntWalk.i64_in _ (by omega), IntWalk.i64_in _ (by omega), IntWalk.i64_in _ (by omega), IntWalk.i64_in _ (by omega), IntWalk.i64_in _ (by omega), IntWalk.i64_in _ (by omega)⟩

theorem sRankOf_any (k s : Int) (w : World) : Calls Try.prog 64 #[.int .i64 k, .int .i64 s] w fun e w' => e = .returned (.int .i64 (rankR k s)) ∧ w' = w := by
  obtain ⟨kb, hkb⟩ : ∃ x, x = inB k 1 999 := ⟨_, rfl⟩
  obtain ⟨sb, hsb⟩ : ∃ x, x = inB s 0 65535 := ⟨_, rfl⟩
  have hk : ∀ u, Calls Try.prog 33 #[.int .i64 k] u fun e w' => e = .returned (.bool kb) ∧ w' = u := fun u => by rw [hkb]; exact l1Key_any _ u
  have hs : ∀ u, Calls Try.prog 34 #[.int .i64 s] u fun e w' => e = .returned (.bool sb) ∧ w' = u := fun u => by rw [hsb]; exact l10Seed_any _ u
  cases kb
  · have hr : rankR k s = -1 := by unfold rankR; rw [if_neg (by rw [← hkb]; simp)]
    rw [hr]
    clear hr hkb hsb
    go_enter Try.func64, Try.ntmps64
    go_wp2_with (go_at_call 33; refine (hk _).mono ?_; rintro e w' ⟨rfl, hw⟩; have hw2 := hw.symm; subst hw2)
    go_ret
    exact ⟨rfl, rfl⟩
  cases sb
  · have hr : rankR k s = -1 := by unfold rankR; rw [if_neg (by rw [← hsb]; simp)]
    rw [hr]
    clear hr hkb hsb
    go_enter Try.func64, Try.ntmps64
    go_wp2_with (first | (go_at_call 33; refine (hk _).mono ?_; rintro e w' ⟨rfl, hw⟩; have hw2 := hw.symm; subst hw2) | (go_at_call 34; refine (hs _).mono ?_; rintro e w' ⟨rfl, hw⟩; have hw2 := hw.symm; subst hw2))
    go_ret
    exact ⟨rfl, rfl⟩
  · have hr : rankR k s = rankQ k s := by unfold rankR; rw [if_pos ⟨hkb.symm, hsb.symm⟩]
    rw [hr]
    have b1 := inB_true.1 hkb.symm
    have b2 := inB_true.1 hsb.symm
    obtain ⟨m1, m2, m3, m4, m5, m6⟩ := rank_wraps b1.1 b1.2 b2.1 b2.2
    clear hr hkb hsb b1 b2
    go_enter Try.func64, Try.ntmps64
    go_wp2_with (first | (go_at_call 33; refine (hk _).mono ?_; rintro e w' ⟨rfl, hw⟩; have hw2 := hw.symm; subst hw2) | (go_at_call 34; refine (hs _).mono ?_; rintro e w' ⟨rfl, hw⟩; have hw2 := hw.symm; subst hw2))
    go_ret
    exact ⟨rfl, rfl⟩

theorem iRankOf_any (k s : Int) (w : World) : Calls Try.prog 10 #[.int .i64 k, .int .i64 s] w fun e w' => e = .returned (.int .i64 (rankR k s)) ∧ w' = w := by
  obtain ⟨kb, hkb⟩ : ∃ x, x = inB k 1 999 := ⟨_, rfl⟩
  obtain ⟨sb, hsb⟩ : ∃ x, x = inB s 0 65535 := ⟨_, rfl⟩
  have hk : ∀ u, Calls Try.prog 38 #[.int .i64 k] u fun e w' => e = .returned (.bool kb) ∧ w' = u := fun u => by rw [hkb]; exact isKey_any _ u
  have hs : ∀ u, Calls Try.prog 39 #[.int .i64 s] u fun e w' => e = .returned (.bool sb) ∧ w' = u := fun u => by rw [hsb]; exact isSeed_any _ u
  cases kb
  · have hr : rankR k s = -1 := by unfold rankR; rw [if_neg (by rw [← hkb]; simp)]
    rw [hr]
    clear hr hkb hsb
    go_enter Try.func10, Try.ntmps10
    go_wp2_with (go_at_call 38; refine (hk _).mono ?_; rintro e w' ⟨rfl, hw⟩; have hw2 := hw.symm; subst hw2)
    go_ret
    exact ⟨rfl, rfl⟩
  cases sb
  · have hr : rankR k s = -1 := by unfold rankR; rw [if_neg (by rw [← hsb]; simp)]
    rw [hr]
    clear hr hkb hsb
    go_enter Try.func10, Try.ntmps10
    go_wp2_with (first | (go_at_call 38; refine (hk _).mono ?_; rintro e w' ⟨rfl, hw⟩; have hw2 := hw.symm; subst hw2) | (go_at_call 39; refine (hs _).mono ?_; rintro e w' ⟨rfl, hw⟩; have hw2 := hw.symm; subst hw2))
    go_ret
    exact ⟨rfl, rfl⟩
  · have hr : rankR k s = rankQ k s := by unfold rankR; rw [if_pos ⟨hkb.symm, hsb.symm⟩]
    rw [hr]
    have b1 := inB_true.1 hkb.symm
    have b2 := inB_true.1 hsb.symm
    obtain ⟨m1, m2, m3, m4, m5, m6⟩ := rank_wraps b1.1 b1.2 b2.1 b2.2
    clear hr hkb hsb b1 b2
    go_enter Try.func10, Try.ntmps10
    go_wp2_with (first | (go_at_call 38; refine (hk _).mono ?_; rintro e w' ⟨rfl, hw⟩; have hw2 := hw.symm; subst hw2) | (go_at_call 39; refine (hs _).mono ?_; rintro e w' ⟨rfl, hw⟩; have hw2 := hw.symm; subst hw2))
    go_ret
    exact ⟨rfl, rfl⟩

theorem iNeedOf_any (n : Int) (w : World) : Calls Try.prog 12 #[.int .i64 n] w fun e w' => e = .returned (.agg #[.int .i64 (needR n).1, .int .i64 (needR n).2]) ∧ Below w.heap.size w w' := by
  obtain ⟨kb, hkb⟩ : ∃ k, k = inB n 1 8 := ⟨_, rfl⟩
  have hin : ∀ u, Calls Try.prog 40 #[.int .i64 n] u fun e w' => e = .returned (.bool kb) ∧ w' = u := fun u => by rw [hkb]; exact isQS_any _ u
  cases kb
  · have hr : needR n = (3, 0) := by unfold needR; rw [if_neg (by rw [← hkb]; simp)]
    rw [hr]
    clear hr hkb
    go_enter Try.func12, Try.ntmps12
    go_wp2_with (go_at_call 40; refine (hin _).mono ?_; rintro e w' ⟨rfl, hw⟩; have hw2 := hw.symm; subst hw2)
    obtain ⟨s0, s1⟩ := cells2 (heap_alloc_new w (.cells #[.int .i64 3, .int .i64 0] 36))
    exact bodyPost_ret (v := .agg #[.int .i64 3, .int .i64 0]) (by simp [results, Try.results12, go_sem, s0, s1]) rfl ⟨rfl, below_box _⟩
  · have hr : needR n = (0, (2 * n).tdiv 3 + 1) := by unfold needR; rw [if_pos hkb.symm]
    rw [hr]
    have hb := inB_true.1 hkb.symm
    have h0 : 1 ≤ n := hb.1
    have h1 : n ≤ 8 := hb.2
    have m1 : IntKind.i64.wrap (2 * n) = 2 * n := IntWalk.i64_in _ (by omega)
    have hd : (2 * n).tdiv 3 = (2 * n) / 3 := Int.tdiv_eq_ediv_of_nonneg (by omega)
    rw [hd]
    have m2 : IntKind.i64.wrap ((2 * n) / 3 + 1) = (2 * n) / 3 + 1 := IntWalk.i64_in _ (by omega)
    have m3 : IntKind.i64.wrap ((2 * n) / 3) = (2 * n) / 3 := IntWalk.i64_in _ (by omega)
    clear hr hkb hb
    go_enter Try.func12, Try.ntmps12
    go_wp2_with (go_at_call 40; refine (hin _).mono ?_; rintro e w' ⟨rfl, hw⟩; have hw2 := hw.symm; subst hw2)
    obtain ⟨s0, s1⟩ := cells2 (heap_alloc_new w (.cells #[.int .i64 0, .int .i64 (2 * n / 3 + 1)] 36))
    exact bodyPost_ret (v := .agg #[.int .i64 0, .int .i64 (2 * n / 3 + 1)]) (by simp [results, Try.results12, go_sem, s0, s1]) rfl ⟨rfl, below_box _⟩

end Go.Proofs.Ytolpbichkmeaaaa
