/- The program's order of refs: two numbers compared, the first that is not 0, two refs compared. -/
import Derived.Test.YtkdjfafgjokeeaaCnS
import Derived.Test.YtkdjfafgjokeeaaITx
namespace Go.Proofs.Ytkdjfafgjokeeaa
open Go.RowKit Go.Maps Go.WideMaps

theorem isNaN_any (v : Int) (w : World) : Calls Try.prog 95 #[.int .i64 v] w fun e w' => e = .returned (.bool false) ∧ w' = w := by
  go_enter Try.func95, Try.ntmps95
  go_wp2
  go_ret
  exact ⟨by simp, rfl⟩

theorem cmpC_any (a b : Int) (w : World) : Calls Try.prog 93 #[.int .i64 a, .int .i64 b] w fun e w' => e = .returned (.int .i64 (cmpI a b)) ∧ w' = w := by
  have h0 : ∀ v u, Calls Try.prog 95 #[.int .i64 v] u fun e w' => e = .returned (.bool false) ∧ w' = u := isNaN_any
  by_cases h1 : a < b
  · have e : cmpI a b = -1 := by simp [cmpI, h1]
    rw [e]
    go_enter Try.func93, Try.ntmps93
    go_wp2_with (go_at_call 95; refine (h0 _ _).mono ?_; rintro e w' ⟨rfl, hw⟩; have hw2 := hw.symm; subst hw2)
    go_ret
    exact ⟨rfl, rfl⟩
  · by_cases h2 : b < a
    · have e : cmpI a b = 1 := by simp [cmpI, h1, h2]
      rw [e]
      go_enter Try.func93, Try.ntmps93
      go_wp2_with (go_at_call 95; refine (h0 _ _).mono ?_; rintro e w' ⟨rfl, hw⟩; have hw2 := hw.symm; subst hw2)
      go_ret
      exact ⟨rfl, rfl⟩
    · have e : cmpI a b = 0 := by simp [cmpI, h1, h2]
      rw [e]
      go_enter Try.func93, Try.ntmps93
      go_wp2_with (go_at_call 95; refine (h0 _ _).mono ?_; rintro e w' ⟨rfl, hw⟩; have hw2 := hw.symm; subst hw2)
      go_ret
      exact ⟨rfl, rfl⟩

end Go.Proofs.Ytkdjfafgjokeeaa
