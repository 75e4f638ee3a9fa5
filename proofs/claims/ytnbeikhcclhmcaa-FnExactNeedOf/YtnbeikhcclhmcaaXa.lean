/- RankOf and NeedOf: the program's, the specification's, and the laws' walks. -/
import Derived.Test.YtnbeikhcclhmcaaIdOf
import Derived.Test.YtnbeikhcclhmcaaSp
namespace Go.Proofs.Ytnbeikhcclhmcaa
open Go.RowKit Go.Maps Go.WideMaps

def needR (n : Int) : Int × Int := if inB n 1 8 = true then (0, (2 * n).tdiv 3 + 1) else (3, 0)

theorem isQS_any (v : Int) (w : World) : Calls Try.prog 33 #[.int .i64 v] w fun e w' => e = .returned (.bool (inB v 1 8)) ∧ w' = w := by
  go_enter Try.func33, Try.ntmps33
  go_wp2_with (go_at_call 37; refine (isWithin_any _ _ _ _).mono ?_; rintro e w' ⟨rfl, rfl⟩)
  go_ret
  exact ⟨rfl, rfl⟩

theorem sNeedOf_any (n : Int) (w : World) : Calls Try.prog 16 #[.int .i64 n] w fun e w' => e = .returned (.agg #[.int .i64 (needR n).1, .int .i64 (needR n).2]) ∧ Below w.heap.size w w' := by
  obtain ⟨kb, hkb⟩ : ∃ k, k = inB n 1 8 := ⟨_, rfl⟩
  have hin : ∀ u, Calls Try.prog 43 #[.int .i64 n, .int .i64 1, .int .i64 8] u fun e w' => e = .returned (.bool kb) ∧ w' = u := fun u => by rw [hkb]; exact l1In_any _ _ _ u
  cases kb
  · have hr : needR n = (3, 0) := by unfold needR; rw [if_neg (by rw [← hkb]; simp)]
    rw [hr]
    clear hr hkb
    go_enter Try.func16, Try.ntmps16
    go_wp2_with (go_at_call 43; refine (hin _).mono ?_; rintro e w' ⟨rfl, hw⟩; have hw2 := hw.symm; subst hw2)
    obtain ⟨s0, s1⟩ := cells2 (heap_alloc_new w (.cells #[.int .i64 3, .int .i64 0] 34))
    exact bodyPost_ret (v := .agg #[.int .i64 3, .int .i64 0]) (by simp [results, Try.results16, go_sem, s0, s1]) rfl ⟨rfl, below_box _⟩
  · have hr : needR n = (0, (2 * n).tdiv 3 + 1) := by unfold needR; rw [if_pos hkb.symm]
    rw [hr]
    have hb := inB_true.1 hkb.symm
    have h0 : 1 ≤ n := hb.1
    have h1 : n ≤ 8 := hb.2
    have m1 : IntKind.i64.wrap (2 * n) = 2 * n := IntWalk.i64_in _ (by omega)
    have hd : (2 * n).tdiv 3 = (2 * n) / 3 := Int.tdiv_eq_ediv_of_nonneg (by omega)
    rw [hd]
    have m2 : IntKind.i64.wrap ((2 * n) / 3 + 1) = (2 * n) / 3 + 1 := IntWalk.i64_in _ (by omega)
    have m3 : IntKind.i64.wrap ((2 * n) / 3) = (2 * n) / 3 := IntWalk.i64_in _ (by omega)
    clear hr hkb hb
    go_enter Try.func16, Try.ntmps16
    go_wp2_with (go_at_call 43; refine (hin _).mono ?_; rintro e w' ⟨rfl, hw⟩; have hw2 := hw.symm; subst hw2)
    obtain ⟨s0, s1⟩ := cells2 (heap_alloc_new w (.cells #[.int .i64 0, .int .i64 (2 * n / 3 + 1)] 34))
    exact bodyPost_ret (v := .agg #[.int .i64 0, .int .i64 (2 * n / 3 + 1)]) (by simp [results, Try.results16, go_sem, s0, s1]) rfl ⟨rfl, below_box _⟩

theorem iNeedOf_any (n : Int) (w : World) : Calls Try.prog 17 #[.int .i64 n] w fun e w' => e = .returned (.agg #[.int .i64 (needR n).1, .int .i64 (needR n).2]) ∧ Below w.heap.size w w' := by
  obtain ⟨kb, hkb⟩ : ∃ k, k = inB n 1 8 := ⟨_, rfl⟩
  have hin : ∀ u, Calls Try.prog 33 #[.int .i64 n] u fun e w' => e = .returned (.bool kb) ∧ w' = u := fun u => by rw [hkb]; exact isQS_any _ u
  cases kb
  · have hr : needR n = (3, 0) := by unfold needR; rw [if_neg (by rw [← hkb]; simp)]
    rw [hr]
    clear hr hkb
    go_enter Try.func17, Try.ntmps17
    go_wp2_with (go_at_call 33; refine (hin _).mono ?_; rintro e w' ⟨rfl, hw⟩; have hw2 := hw.symm; subst hw2)
    obtain ⟨s0, s1⟩ := cells2 (heap_alloc_new w (.cells #[.int .i64 3, .int .i64 0] 34))
    exact bodyPost_ret (v := .agg #[.int .i64 3, .int .i64 0]) (by simp [results, Try.results17, go_sem, s0, s1]) rfl ⟨rfl, below_box _⟩
  · have hr : needR n = (0, (2 * n).tdiv 3 + 1) := by unfold needR; rw [if_pos hkb.symm]
    rw [hr]
    have hb := inB_true.1 hkb.symm
    have h0 : 1 ≤ n := hb.1
    have h1 : n ≤ 8 := hb.2
    have m1 : IntKind.i64.wrap (2 * n) = 2 * n := IntWalk.i64_in _ (by omega)
    have hd : (2 * n).tdiv 3 = (2 * n) / 3 := Int.tdiv_eq_ediv_of_nonneg (by omega)
    rw [hd]
    have m2 : IntKind.i64.wrap ((2 * n) / 3 + 1) = (2 * n) / 3 + 1 := IntWalk.i64_in _ (by omega)
    have m3 : IntKind.i64.wrap ((2 * n) / 3) = (2 * n) / 3 := IntWalk.i64_in _ (by omega)
    clear hr hkb hb
    go_enter Try.func17, Try.ntmps17
    go_wp2_with (go_at_call 33; refine (hin _).mono ?_; rintro e w' ⟨rfl, hw⟩; have hw2 := hw.symm; subst hw2)
    obtain ⟨s0, s1⟩ := cells2 (heap_alloc_new w (.cells #[.int .i64 0, .int .i64 (2 * n / 3 + 1)] 34))
    exact bodyPost_ret (v := .agg #[.int .i64 0, .int .i64 (2 * n / 3 + 1)]) (by simp [results, Try.results17, go_sem, s0, s1]) rfl ⟨rfl, below_box _⟩

theorem lawNeedOf (h : Int) (w : World) : Calls Try.prog 5 #[.int .i64 h] w fun e w' => e = .returned (.bool true) ∧ Below w.heap.size w w' := by
  obtain ⟨c, hc⟩ : ∃ c, c = (needR h).1 := ⟨_, rfl⟩
  obtain ⟨q, hq⟩ : ∃ q, q = (needR h).2 := ⟨_, rfl⟩
  have h1 := sNeedOf_any h w
  have h2 := fun u => iNeedOf_any h u
  rw [← hc, ← hq] at h1
  simp only [← hc, ← hq] at h2
  clear hc hq
  go_enter Try.func5, Try.ntmps5
  go_wp2_with (first
    | (go_at_call 16; (with_reducible refine h1.mono ?_); clear h1; rintro e w1 ⟨rfl, hb1⟩; have HB1 : Hid (Below w.heap.size w (w1.alloc (.cells #[.int .i64 c, .int .i64 q] 34))) := hb1.trans ((below_box _).mono hb1.size); have HX1 : Hid ((w1.alloc (.cells #[.int .i64 c, .int .i64 q] 34)).heap[w1.heap.size]? = some (.cells #[.int .i64 c, .int .i64 q] 34 (0, 0))) := heap_alloc_new _ _; clear hb1)
    | (go_at_call 17; (with_reducible refine (h2 _).mono ?_); clear h2; rintro e w2 ⟨rfl, hb2⟩; have HB2 : Hid (Below w.heap.size w (w2.alloc (.cells #[.int .i64 c, .int .i64 q] 34))) := (HB1.out.trans (hb2.mono HB1.out.size)).trans ((below_box _).mono (Nat.le_trans HB1.out.size hb2.size)); obtain ⟨x0, x1⟩ := cells2 (keepb (keepb HX1.out hb2).out (below_box (.cells #[.int .i64 c, .int .i64 q] 34))).out; have h3 := eqIntR_any c q (w2.alloc (.cells #[.int .i64 c, .int .i64 q] 34)); clear hb2)
    | (go_at_call 18; (with_reducible refine h3.mono ?_); clear h3; rintro e w3 ⟨rfl, hb3⟩; have HB3 : Hid (Below w.heap.size w w3) := HB2.out.trans (hb3.mono HB2.out.size); clear hb3))
  go_ret
  exact ⟨rfl, HB3.out⟩

end Go.Proofs.Ytnbeikhcclhmcaa
