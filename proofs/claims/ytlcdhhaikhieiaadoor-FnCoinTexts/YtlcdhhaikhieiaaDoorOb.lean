/- A line's words: the specification's and the program's. -/
import Derived.Test.YtlcdhhaikhieiaaDoorOa
namespace Go.Proofs.YtlcdhhaikhieiaaDoor
open Go.RowKit Go.Shelf Go.Maps Go.WideMaps
attribute [local go_sem] Oper.semAt_some

theorem wordsF_cut (c : UInt8) (t : List UInt8) : (wordsF (cutL c t)).length ≤ t.length := by
  induction t with
  | nil => simp [cutL, wordsF]
  | cons b t ih =>
    unfold cutL
    by_cases h : b = c
    · rw [if_pos h]
      have : wordsF ([] :: cutL c t) = wordsF (cutL c t) := by simp [wordsF]
      rw [this]
      simp; omega
    · rw [if_neg h]
      cases e : cutL c t with
      | nil => exact absurd e (cutL_ne c t)
      | cons x r =>
        rw [e] at ih
        have h1 : (wordsF ((b :: x) :: r)).length = (wordsF r).length + 1 := by simp [wordsF]
        have h2 : (wordsF r).length ≤ (wordsF (x :: r)).length := by
          unfold wordsF
          rw [List.filter_cons]
          split
          · simp
          · exact Nat.le_refl _
        simp only [h1, List.length_cons]; omega
theorem wordsL_len (t : List UInt8) : (wordsL t).length ≤ t.length := wordsF_cut 32 t
theorem str_isW (a b : List UInt8) : ((str a).toList == b) = decide (a = b) := by
  have e : (str a).toList = a := by simp [str]
  rw [e]
  by_cases h : a = b
  · rw [h]; simp
  · rw [decide_eq_false h]; exact beq_false_of_ne h

end Go.Proofs.YtlcdhhaikhieiaaDoor
