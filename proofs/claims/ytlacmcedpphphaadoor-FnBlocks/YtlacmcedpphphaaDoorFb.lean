/- RewardOf: the program's, the specification's, and the law's walk. -/
import Derived.Test.YtlacmcedpphphaaDoorIdOf
import Derived.Test.YtlacmcedpphphaaDoorSp
namespace Go.Proofs.YtlacmcedpphphaaDoor
open Go.RowKit Go.Maps Go.WideMaps

def rewQ (h : Int) : Int := 1000 / 2 ^ ((h - 1) / 8).toNat
def rewR (h : Int) : Int × Int := if inB h 1 40 = true then (0, rewQ h) else (3, 0)

theorem isBH_any (h : Int) (w : World) : Calls Tryd.prog 30 #[.int .i64 h] w fun e w' => e = .returned (.bool (inB h 1 40)) ∧ w' = w := by
  go_enter Tryd.func30, Tryd.ntmps30
  go_wp2_with (go_at_call 46; refine (isWithin_any _ _ _ _).mono ?_; rintro e w' ⟨rfl, rfl⟩)
  go_ret
  exact ⟨rfl, rfl⟩

theorem l7Reward_any (h : Int) (w : World) (h0 : 1 ≤ h) (h1 : h ≤ 40) : Calls Tryd.prog 32 #[.int .i64 h] w fun e w' => e = .returned (.int .i64 (rewQ h)) ∧ w' = w := by
  have hw : IntKind.i64.wrap (h - 1) = h - 1 := IntWalk.i64_in _ (by omega)
  go_enter Tryd.func32, Tryd.ntmps32
  go_wp2
  go_ret
  exact ⟨rfl, rfl⟩

theorem sRewardOf_any (h : Int) (w : World) : Calls Tryd.prog 15 #[.int .i64 h] w fun e w' => e = .returned (.agg #[.int .i64 (rewR h).1, .int .i64 (rewR h).2]) ∧ Below w.heap.size w w' := by
  obtain ⟨kb, hkb⟩ : ∃ k, k = inB h 1 40 := ⟨_, rfl⟩
  have hin : ∀ u, Calls Tryd.prog 31 #[.int .i64 h, .int .i64 1, .int .i64 40] u fun e w' => e = .returned (.bool kb) ∧ w' = u := fun u => by rw [hkb]; exact l1In_any _ _ _ u
  cases kb
  · have hr : rewR h = (3, 0) := by unfold rewR; rw [if_neg (by rw [← hkb]; simp)]
    rw [hr]
    clear hr hkb
    go_enter Tryd.func15, Tryd.ntmps15
    go_wp2_with (go_at_call 31; refine (hin _).mono ?_; rintro e w' ⟨rfl, hw⟩; have hw2 := hw.symm; subst hw2)
    obtain ⟨s0, s1⟩ := cells2 (heap_alloc_new w (.cells #[.int .i64 3, .int .i64 0] 38))
    exact bodyPost_ret (v := .agg #[.int .i64 3, .int .i64 0]) (by simp [results, Tryd.results15, go_sem, s0, s1]) rfl ⟨rfl, below_box _⟩
  · have hr : rewR h = (0, rewQ h) := by unfold rewR; rw [if_pos hkb.symm]
    rw [hr]
    have hb := inB_true.1 hkb.symm
    obtain ⟨q, hq⟩ : ∃ q, q = rewQ h := ⟨_, rfl⟩
    have hl : ∀ u, Calls Tryd.prog 32 #[.int .i64 h] u fun e w' => e = .returned (.int .i64 q) ∧ w' = u := fun u => by rw [hq]; exact l7Reward_any _ _ hb.1 hb.2
    rw [← hq]
    clear hr hkb hb hq
    go_enter Tryd.func15, Tryd.ntmps15
    go_wp2_with (first | (go_at_call 31; refine (hin _).mono ?_; rintro e w' ⟨rfl, hw⟩; have hw2 := hw.symm; subst hw2) | (go_at_call 32; refine (hl _).mono ?_; rintro e w' ⟨rfl, hw⟩; have hw2 := hw.symm; subst hw2))
    obtain ⟨s0, s1⟩ := cells2 (heap_alloc_new w (.cells #[.int .i64 0, .int .i64 q] 38))
    exact bodyPost_ret (v := .agg #[.int .i64 0, .int .i64 q]) (by simp [results, Tryd.results15, go_sem, s0, s1]) rfl ⟨rfl, below_box _⟩

theorem iRewardOf_any (h : Int) (w : World) : Calls Tryd.prog 13 #[.int .i64 h] w fun e w' => e = .returned (.agg #[.int .i64 (rewR h).1, .int .i64 (rewR h).2]) ∧ Below w.heap.size w w' := by
  obtain ⟨kb, hkb⟩ : ∃ k, k = inB h 1 40 := ⟨_, rfl⟩
  have hin : ∀ u, Calls Tryd.prog 30 #[.int .i64 h] u fun e w' => e = .returned (.bool kb) ∧ w' = u := fun u => by rw [hkb]; exact isBH_any _ u
  cases kb
  · have hr : rewR h = (3, 0) := by unfold rewR; rw [if_neg (by rw [← hkb]; simp)]
    rw [hr]
    clear hr hkb
    go_enter Tryd.func13, Tryd.ntmps13
    go_wp2_with (go_at_call 30; refine (hin _).mono ?_; rintro e w' ⟨rfl, hw⟩; have hw2 := hw.symm; subst hw2)
    obtain ⟨s0, s1⟩ := cells2 (heap_alloc_new w (.cells #[.int .i64 3, .int .i64 0] 38))
    exact bodyPost_ret (v := .agg #[.int .i64 3, .int .i64 0]) (by simp [results, Tryd.results13, go_sem, s0, s1]) rfl ⟨rfl, below_box _⟩
  · have hr : rewR h = (0, rewQ h) := by unfold rewR; rw [if_pos hkb.symm]
    rw [hr]
    have hb := inB_true.1 hkb.symm
    have h0 : 1 ≤ h := hb.1
    have h1 : h ≤ 40 := hb.2
    have hw : IntKind.i64.wrap (h - 1) = h - 1 := IntWalk.i64_in _ (by omega)
    have hq : IntKind.i64.wrap (1000 / 2 ^ ((h - 1) / 8).toNat) = 1000 / 2 ^ ((h - 1) / 8).toNat := IntWalk.i64_in _ (by have h1 := Int.ediv_nonneg (a := 1000) (b := 2 ^ ((h - 1) / 8).toNat) (by omega) (Int.le_of_lt (Int.pow_pos (by omega))); have h2 := Int.ediv_le_self (a := 1000) (2 ^ ((h - 1) / 8).toNat) (by omega); omega)
    have hu : IntKind.u64.wrap (h - 1) = h - 1 := by simp [IntKind.wrap, IntKind.bits, IntKind.signed]; omega
    clear hr hkb hb
    go_enter Tryd.func13, Tryd.ntmps13
    go_wp2_with (go_at_call 30; refine (hin _).mono ?_; rintro e w' ⟨rfl, hw⟩; have hw2 := hw.symm; subst hw2)
    have hr : 1000 / 2 ^ ((h - 1) / 8).toNat = rewQ h := rfl
    rw [hr]
    obtain ⟨s0, s1⟩ := cells2 (heap_alloc_new w (.cells #[.int .i64 0, .int .i64 (rewQ h)] 38))
    exact bodyPost_ret (v := .agg #[.int .i64 0, .int .i64 (rewQ h)]) (by simp [results, Tryd.results13, go_sem, s0, s1]) rfl ⟨rfl, below_box _⟩

end Go.Proofs.YtlacmcedpphphaaDoor
