/- RewardOf: the program's, the specification's, and the law's walk. -/
import Derived.Test.YtkmkdoddaooonaaIdOf
import Derived.Test.YtkmkdoddaooonaaSp
namespace Go.Proofs.Ytkmkdoddaooonaa
open Go.RowKit Go.Maps Go.WideMaps

def rewQ (h : Int) : Int := 1000 / 2 ^ ((h - 1) / 8).toNat
def rewR (h : Int) : Int × Int := if inB h 1 40 = true then (0, rewQ h) else (3, 0)

theorem isBH_any (h : Int) (w : World) : Calls Try.prog 21 #[.int .i64 h] w fun e w' => e = .returned (.bool (inB h 1 40)) ∧ w' = w := by
  go_enter Try.func21, Try.ntmps21
  go_wp2_with (go_at_call 24; refine (isWithin_any _ _ _ _).mono ?_; rintro e w' ⟨rfl, rfl⟩)
  go_ret
  exact ⟨rfl, rfl⟩

theorem l7Reward_any (h : Int) (w : World) (h0 : 1 ≤ h) (h1 : h ≤ 40) : Calls Try.prog 20 #[.int .i64 h] w fun e w' => e = .returned (.int .i64 (rewQ h)) ∧ w' = w := by
  have hw : IntKind.i64.wrap (h - 1) = h - 1 := IntWalk.i64_in _ (by omega)
  go_enter Try.func20, Try.ntmps20
  go_wp2
  go_ret
  exact ⟨rfl, rfl⟩

theorem sRewardOf_any (h : Int) (w : World) : Calls Try.prog 10 #[.int .i64 h] w fun e w' => e = .returned (.agg #[.int .i64 (rewR h).1, .int .i64 (rewR h).2]) ∧ Below w.heap.size w w' := by
  obtain ⟨kb, hkb⟩ : ∃ k, k = inB h 1 40 := ⟨_, rfl⟩
  have hin : ∀ u, Calls Try.prog 19 #[.int .i64 h, .int .i64 1, .int .i64 40] u fun e w' => e = .returned (.bool kb) ∧ w' = u := fun u => by rw [hkb]; exact l1In_any _ _ _ u
  cases kb
  · have hr : rewR h = (3, 0) := by unfold rewR; rw [if_neg (by rw [← hkb]; simp)]
    rw [hr]
    clear hr hkb
    go_enter Try.func10, Try.ntmps10
    go_wp2_with (go_at_call 19; refine (hin _).mono ?_; rintro e w' ⟨rfl, hw⟩; have hw2 := hw.symm; subst hw2)
    obtain ⟨s0, s1⟩ := cells2 (heap_alloc_new w (.cells #[.int .i64 3, .int .i64 0] 32))
    exact bodyPost_ret (v := .agg #[.int .i64 3, .int .i64 0]) (by simp [results, Try.results10, go_sem, s0, s1]) rfl ⟨rfl, below_box _⟩
  · have hr : rewR h = (0, rewQ h) := by unfold rewR; rw [if_pos hkb.symm]
    rw [hr]
    have hb := inB_true.1 hkb.symm
    obtain ⟨q, hq⟩ : ∃ q, q = rewQ h := ⟨_, rfl⟩
    have hl : ∀ u, Calls Try.prog 20 #[.int .i64 h] u fun e w' => e = .returned (.int .i64 q) ∧ w' = u := fun u => by rw [hq]; exact l7Reward_any _ _ hb.1 hb.2
    rw [← hq]
    clear hr hkb hb hq
    go_enter Try.func10, Try.ntmps10
    go_wp2_with (first | (go_at_call 19; refine (hin _).mono ?_; rintro e w' ⟨rfl, hw⟩; have hw2 := hw.symm; subst hw2) | (go_at_call 20; refine (hl _).mono ?_; rintro e w' ⟨rfl, hw⟩; have hw2 := hw.symm; subst hw2))
    obtain ⟨s0, s1⟩ := cells2 (heap_alloc_new w (.cells #[.int .i64 0, .int .i64 q] 32))
    exact bodyPost_ret (v := .agg #[.int .i64 0, .int .i64 q]) (by simp [results, Try.results10, go_sem, s0, s1]) rfl ⟨rfl, below_box _⟩

theorem iRewardOf_any (h : Int) (w : World) : Calls Try.prog 11 #[.int .i64 h] w fun e w' => e = .returned (.agg #[.int .i64 (rewR h).1, .int .i64 (rewR h).2]) ∧ Below w.heap.size w w' := by
  obtain ⟨kb, hkb⟩ : ∃ k, k = inB h 1 40 := ⟨_, rfl⟩
  have hin : ∀ u, Calls Try.prog 21 #[.int .i64 h] u fun e w' => e = .returned (.bool kb) ∧ w' = u := fun u => by rw [hkb]; exact isBH_any _ u
  cases kb
  · have hr : rewR h = (3, 0) := by unfold rewR; rw [if_neg (by rw [← hkb]; simp)]
    rw [hr]
    clear hr hkb
    go_enter Try.func11, Try.ntmps11
    go_wp2_with (go_at_call 21; refine (hin _).mono ?_; rintro e w' ⟨rfl, hw⟩; have hw2 := hw.symm; subst hw2)
    obtain ⟨s0, s1⟩ := cells2 (heap_alloc_new w (.cells #[.int .i64 3, .int .i64 0] 32))
    exact bodyPost_ret (v := .agg #[.int .i64 3, .int .i64 0]) (by simp [results, Try.results11, go_sem, s0, s1]) rfl ⟨rfl, below_box _⟩
  · have hr : rewR h = (0, rewQ h) := by unfold rewR; rw [if_pos hkb.symm]
    rw [hr]
    have hb := inB_true.1 hkb.symm
    have h0 : 1 ≤ h := hb.1
    have h1 : h ≤ 40 := hb.2
    have hw : IntKind.i64.wrap (h - 1) = h - 1 := IntWalk.i64_in _ (by omega)
    have hq : IntKind.i64.wrap (1000 / 2 ^ ((h - 1) / 8).toNat) = 1000 / 2 ^ ((h - 1) / 8).toNat := IntWalk.i64_in _ (by have h1 := Int.ediv_nonneg (a := 1000) (b := 2 ^ ((h - 1) / 8).toNat) (by omega) (Int.le_of_lt (Int.pow_pos (by omega))); have h2 := Int.ediv_le_self (a := 1000) (2 ^ ((h - 1) / 8).toNat) (by omega); omega)
    have hu : IntKind.u64.wrap (h - 1) = h - 1 := by simp [IntKind.wrap, IntKind.bits, IntKind.signed]; omega
    clear hr hkb hb
    go_enter Try.func11, Try.ntmps11
    go_wp2_with (go_at_call 21; refine (hin _).mono ?_; rintro e w' ⟨rfl, hw⟩; have hw2 := hw.symm; subst hw2)
    have hr : 1000 / 2 ^ ((h - 1) / 8).toNat = rewQ h := rfl
    rw [hr]
    obtain ⟨s0, s1⟩ := cells2 (heap_alloc_new w (.cells #[.int .i64 0, .int .i64 (rewQ h)] 32))
    exact bodyPost_ret (v := .agg #[.int .i64 0, .int .i64 (rewQ h)]) (by simp [results, Try.results11, go_sem, s0, s1]) rfl ⟨rfl, below_box _⟩

theorem lawRewardOf (h : Int) (w : World) : Calls Try.prog 4 #[.int .i64 h] w fun e w' => e = .returned (.bool true) ∧ Below w.heap.size w w' := by
  obtain ⟨c, hc⟩ : ∃ c, c = (rewR h).1 := ⟨_, rfl⟩
  obtain ⟨q, hq⟩ : ∃ q, q = (rewR h).2 := ⟨_, rfl⟩
  have h1 := sRewardOf_any h w
  have h2 := fun u => iRewardOf_any h u
  rw [← hc, ← hq] at h1
  simp only [← hc, ← hq] at h2
  clear hc hq
  go_enter Try.func4, Try.ntmps4
  go_wp2_with (first
    | (go_at_call 10; (with_reducible refine h1.mono ?_); clear h1; rintro e w1 ⟨rfl, hb1⟩; have HB1 : Hid (Below w.heap.size w (w1.alloc (.cells #[.int .i64 c, .int .i64 q] 32))) := hb1.trans ((below_box _).mono hb1.size); have HX1 : Hid ((w1.alloc (.cells #[.int .i64 c, .int .i64 q] 32)).heap[w1.heap.size]? = some (.cells #[.int .i64 c, .int .i64 q] 32 (0, 0))) := heap_alloc_new _ _; clear hb1)
    | (go_at_call 11; (with_reducible refine (h2 _).mono ?_); clear h2; rintro e w2 ⟨rfl, hb2⟩; have HB2 : Hid (Below w.heap.size w (w2.alloc (.cells #[.int .i64 c, .int .i64 q] 32))) := (HB1.out.trans (hb2.mono HB1.out.size)).trans ((below_box _).mono (Nat.le_trans HB1.out.size hb2.size)); obtain ⟨x0, x1⟩ := cells2 (keepb (keepb HX1.out hb2).out (below_box (.cells #[.int .i64 c, .int .i64 q] 32))).out; have h3 := eqIntR_any c q (w2.alloc (.cells #[.int .i64 c, .int .i64 q] 32)); clear hb2)
    | (go_at_call 12; (with_reducible refine h3.mono ?_); clear h3; rintro e w3 ⟨rfl, hb3⟩; have HB3 : Hid (Below w.heap.size w w3) := HB2.out.trans (hb3.mono HB2.out.size); clear hb3))
  go_ret
  exact ⟨rfl, HB3.out⟩

end Go.Proofs.Ytkmkdoddaooonaa
