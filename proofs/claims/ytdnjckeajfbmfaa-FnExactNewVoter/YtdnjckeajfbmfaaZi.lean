/- What keeps a voter from choosing: the program's code; ChooseFor and NewVoter: the program's. -/
import Derived.Test.YtdnjckeajfbmfaaZh
namespace Go.Proofs.Ytdnjckeajfbmfaa
open Go.RowKit Go.Maps Go.WideMaps

set_option maxHeartbeats 1000000 in
theorem iNewVoter_any (k : Int) (w : World) : Calls Try.prog 13 #[.int .i64 k] w fun e w' => OutVr w w' e (newR k) := by
  obtain ⟨kk, hkk⟩ : ∃ b, b = inB k 1 999 := ⟨_, rfl⟩
  have hW1 : ∀ v, Calls Try.prog 30 #[.int .i64 k] v fun e w' => e = .returned (.bool kk) ∧ w' = v := fun v => by rw [hkk]; exact isKey_any _ v
  cases kk
  · have hr : newR k = vrBad 3 := by unfold newR; rw [if_neg (by rw [← hkk]; simp)]
    rw [hr]
    clear hr hkk
    go_enter Try.func13, Try.ntmps13
    go_wp2_with (go_at_call 30; refine (hW1 _).mono ?_; rintro e w' ⟨rfl, hw⟩; have hw2 := hw.symm; subst hw2)
    have hX := heap_alloc_new w (.cells #[.int .i64 3, .int .i64 0, .int .i64 0, .int .i64 0, .int .i64 0, .int .i64 0, .int .i64 0, .int .i64 0, .int .i64 0, .slice none 0 0] 38)
    obtain ⟨s0, s1, s2, s3, s4, s5, s6, s7, s8, s9⟩ := cells10V hX
    exact bodyPost_ret (v := .agg #[.int .i64 3, .int .i64 0, .int .i64 0, .int .i64 0, .int .i64 0, .int .i64 0, .int .i64 0, .int .i64 0, .int .i64 0, .slice none 0 0]) (by simp [results, Try.results13, go_sem, s0, s1, s2, s3, s4, s5, s6, s7, s8, s9]) rfl ⟨none, 0, rfl, World.ownsRow_nil _ _ _ _, below_box _⟩
  · have hr : newR k = ⟨0, V0, k, 0, []⟩ := by unfold newR; rw [if_pos hkk.symm]
    rw [hr]
    clear hr hkk
    go_enter Try.func13, Try.ntmps13
    go_wp2_with (go_at_call 30; refine (hW1 _).mono ?_; rintro e w' ⟨rfl, hw⟩; have hw2 := hw.symm; subst hw2)
    have hX := heap_alloc_new w (.cells #[.int .i64 0, .int .i64 0, .int .i64 0, .int .i64 0, .int .i64 0, .int .i64 0, .int .i64 0, .int .i64 k, .int .i64 0, .slice none 0 0] 38)
    obtain ⟨s0, s1, s2, s3, s4, s5, s6, s7, s8, s9⟩ := cells10V hX
    exact bodyPost_ret (v := .agg #[.int .i64 0, .int .i64 0, .int .i64 0, .int .i64 0, .int .i64 0, .int .i64 0, .int .i64 0, .int .i64 k, .int .i64 0, .slice none 0 0]) (by simp [results, Try.results13, go_sem, s0, s1, s2, s3, s4, s5, s6, s7, s8, s9]) rfl ⟨none, 0, rfl, World.ownsRow_nil _ _ _ _, below_box _⟩

set_option maxHeartbeats 1000000 in
theorem sNewVoter_any (k : Int) (w : World) : Calls Try.prog 12 #[.int .i64 k] w fun e w' => OutVr w w' e (newR k) := by
  obtain ⟨kk, hkk⟩ : ∃ b, b = inB k 1 999 := ⟨_, rfl⟩
  have hW1 : ∀ v, Calls Try.prog 34 #[.int .i64 k] v fun e w' => e = .returned (.bool kk) ∧ w' = v := fun v => by rw [hkk]; exact l1Key_any _ v
  cases kk
  · have hr : newR k = vrBad 3 := by unfold newR; rw [if_neg (by rw [← hkk]; simp)]
    rw [hr]
    clear hr hkk
    go_enter Try.func12, Try.ntmps12
    go_wp2_with (go_at_call 34; refine (hW1 _).mono ?_; rintro e w' ⟨rfl, hw⟩; have hw2 := hw.symm; subst hw2)
    have hX := heap_alloc_new w (.cells #[.int .i64 3, .int .i64 0, .int .i64 0, .int .i64 0, .int .i64 0, .int .i64 0, .int .i64 0, .int .i64 0, .int .i64 0, .slice none 0 0] 38)
    obtain ⟨s0, s1, s2, s3, s4, s5, s6, s7, s8, s9⟩ := cells10V hX
    exact bodyPost_ret (v := .agg #[.int .i64 3, .int .i64 0, .int .i64 0, .int .i64 0, .int .i64 0, .int .i64 0, .int .i64 0, .int .i64 0, .int .i64 0, .slice none 0 0]) (by simp [results, Try.results12, go_sem, s0, s1, s2, s3, s4, s5, s6, s7, s8, s9]) rfl ⟨none, 0, rfl, World.ownsRow_nil _ _ _ _, below_box _⟩
  · have hr : newR k = ⟨0, V0, k, 0, []⟩ := by unfold newR; rw [if_pos hkk.symm]
    rw [hr]
    clear hr hkk
    go_enter Try.func12, Try.ntmps12
    go_wp2_with (go_at_call 34; refine (hW1 _).mono ?_; rintro e w' ⟨rfl, hw⟩; have hw2 := hw.symm; subst hw2)
    have hX := heap_alloc_new w (.cells #[.int .i64 0, .int .i64 0, .int .i64 0, .int .i64 0, .int .i64 0, .int .i64 0, .int .i64 0, .int .i64 k, .int .i64 0, .slice none 0 0] 38)
    obtain ⟨s0, s1, s2, s3, s4, s5, s6, s7, s8, s9⟩ := cells10V hX
    exact bodyPost_ret (v := .agg #[.int .i64 0, .int .i64 0, .int .i64 0, .int .i64 0, .int .i64 0, .int .i64 0, .int .i64 0, .int .i64 k, .int .i64 0, .slice none 0 0]) (by simp [results, Try.results12, go_sem, s0, s1, s2, s3, s4, s5, s6, s7, s8, s9]) rfl ⟨none, 0, rfl, World.ownsRow_nil _ _ _ _, below_box _⟩

end Go.Proofs.Ytdnjckeajfbmfaa
