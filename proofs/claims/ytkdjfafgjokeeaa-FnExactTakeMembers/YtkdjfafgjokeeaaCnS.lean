/- The specification's fault of coins. -/
import Derived.Test.YtkdjfafgjokeeaaTxA
import Derived.Test.YtkdjfafgjokeeaaTxS
namespace Go.Proofs.Ytkdjfafgjokeeaa
open Go.RowKit Go.Maps Go.WideMaps

def cmpI (a b : Int) : Int := if a < b then -1 else if b < a then 1 else 0
theorem cmpI_zero {a b : Int} : cmpI a b = 0 ↔ a = b := by
  unfold cmpI; by_cases h : a < b
  · simp [h]; omega
  · by_cases h2 : b < a
    · simp [h, h2]; omega
    · simp [h, h2]; omega
end Go.Proofs.Ytkdjfafgjokeeaa
