/- The specification's OutSum, and the law on it, out of the program's contract. The specification's ClashTx. -/
import Derived.Test.YtjgilpkkfpbefaaGreatDoorJn3
import Derived.Test.YtjgilpkkfpbefaaGreatDoorJn1
namespace Go.Proofs.YtjgilpkkfpbefaaGreatDoor
open Go.RowKit Go.Maps Go.WideMaps

theorem outsR_zero {os : List Ou} (h : outsR os = 0) : ∀ o ∈ os, inB o.v 1 1000000 = true := by
  induction os with
  | nil => intro o ho; cases ho
  | cons a t ih =>
    rw [outsR] at h
    by_cases h1 : inB a.v 1 1000000 = false
    · rw [if_pos h1] at h; cases h
    · rw [if_neg h1] at h
      by_cases h2 : ruleR a.l a.x a.y ≠ 0
      · rw [if_pos h2] at h; exact absurd h h2
      · rw [if_neg h2] at h
        intro o ho
        rcases List.mem_cons.1 ho with rfl | ho
        · simpa using h1
        · exact ih h o ho
theorem txR_zero {k f : Int} {rs : List (Int × Int)} {os : List Ou} {m : Nat} (hm : os.length = m) (h : 0 = txR k f rs os) : m ≤ 4 ∧ ∀ j, j < m → 1 ≤ (os.getD j O0).v ∧ (os.getD j O0).v ≤ 1000000 := by
  unfold txR at h
  by_cases h1 : inB k 0 2 = false ∨ ¬ (k = 0 ↔ f = 0)
  · rw [if_pos h1] at h; cases h
  rw [if_neg h1] at h
  by_cases h2 : k ≠ 0 ∧ inB f 1 999 = false
  · rw [if_pos h2] at h; cases h
  rw [if_neg h2] at h
  by_cases h3 : inB rs.length 1 4 = false ∨ inB os.length 1 4 = false
  · rw [if_pos h3] at h; cases h
  rw [if_neg h3] at h
  have h4 : inB os.length 1 4 = true := by
    cases e : inB os.length 1 4
    · exact absurd (.inr e) h3
    · rfl
  by_cases h5 : refsR [] rs ≠ 0
  · rw [if_pos h5] at h; exact absurd h.symm h5
  rw [if_neg h5] at h
  unfold joinR at h
  by_cases h6 : outsR os ≠ 0
  · rw [if_pos h6] at h; exact absurd h.symm h6
  have h7 := outsR_zero (Classical.not_not.1 h6)
  have h8 := inB_true.1 h4
  refine ⟨by omega, fun j hj => ?_⟩
  have e1 : os.getD j O0 = os[j]'(by omega) := by rw [List.getD, List.getElem?_eq_getElem (by omega)]; rfl
  have := inB_true.1 (h7 (os.getD j O0) (by rw [e1]; exact List.getElem_mem _))
  exact this

def sumR (k f : Int) (rs : List (Int × Int)) (os : List Ou) : Int × Int := if txR k f rs os ≠ 0 then (txR k f rs os, 0) else (0, (os.map Ou.v).sum)

end Go.Proofs.YtjgilpkkfpbefaaGreatDoor

namespace Go.Proofs.YtjgilpkkfpbefaaGreatDoor
open Go.RowKit Go.Maps Go.WideMaps

end Go.Proofs.YtjgilpkkfpbefaaGreatDoor
