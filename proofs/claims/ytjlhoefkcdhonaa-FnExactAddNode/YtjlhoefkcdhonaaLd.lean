/- Which node is above which: the specification's. -/
import Derived.Test.YtjlhoefkcdhonaaLc
namespace Go.Proofs.Ytjlhoefkcdhonaa
open Go.RowKit Go.Maps Go.WideMaps

theorem treeG_zero {rest : List Mb} : ∀ seen, treeG seen rest = 0 → ∀ j, j < rest.length → nodeR (seen ++ rest.take j) (rest.getD j Z3).1 (rest.getD j Z3).2.1 (rest.getD j Z3).2.2 = 0 := by
  induction rest with
  | nil => intro seen _ j hj; simp at hj
  | cons g t ih =>
    intro seen h j hj
    rw [treeG] at h
    by_cases e : nodeR seen g.1 g.2.1 g.2.2 ≠ 0
    · rw [if_pos e] at h; exact absurd h e
    · rw [if_neg e] at h
      cases j with
      | zero => simpa using e
      | succ j =>
        have := ih (seen ++ [g]) h j (by simp at hj; omega)
        simpa using this
theorem tree_node {ms : List Mb} (h : treeR ms = 0) {j : Nat} (hj : j < ms.length) : nodeR (ms.take j) (ms.getD j Z3).1 (ms.getD j Z3).2.1 (ms.getD j Z3).2.2 = 0 := by
  unfold treeR at h
  by_cases e : 60 < ms.length
  · rw [if_pos e] at h; cases h
  · rw [if_neg e] at h
    simpa using treeG_zero [] h j hj
theorem nIx_append {l r : List Mb} {id : Int} : ∀ k, nIx l id k ≠ -1 → nIx (l ++ r) id k = nIx l id k := by
  induction l with
  | nil => intro k h; exact absurd rfl h
  | cons g t ih =>
    intro k h
    by_cases e : g.1 = id
    · rw [List.cons_append, nIx, nIx, if_pos e, if_pos e]
    · rw [nIx, if_neg e] at h
      rw [List.cons_append, nIx, nIx, if_neg e, if_neg e]
      exact ih (k + 1) h
/-- In a tree without fault a node's Prev is none, or lies ahead of it. -/
theorem prev_lt {ms : List Mb} (h : treeR ms = 0) {j : Nat} (hj : j < ms.length) : (ms.getD j Z3).2.1 = 0 ∨ (0 ≤ nAt ms (ms.getD j Z3).2.1 ∧ nAt ms (ms.getD j Z3).2.1 < j) := by
  have hn := tree_node h hj
  by_cases e : (ms.getD j Z3).2.1 = 0
  · exact .inl e
  · right
    unfold nodeR at hn
    by_cases h1 : inB (ms.getD j Z3).1 1 60 = false ∨ inB (ms.getD j Z3).2.2 1 40 = false
    · rw [if_pos h1] at hn; cases hn
    · rw [if_neg h1] at hn
      by_cases h2 : 0 ≤ nAt (ms.take j) (ms.getD j Z3).1
      · rw [if_pos h2] at hn; cases hn
      · rw [if_neg h2] at hn
        by_cases h3 : (ms.getD j Z3).2.1 ≠ 0 ∧ nAt (ms.take j) (ms.getD j Z3).2.1 < 0
        · rw [if_pos h3] at hn; cases hn
        · have h4 : ¬ nAt (ms.take j) (ms.getD j Z3).2.1 < 0 := fun q => h3 ⟨e, q⟩
          rcases nAt_lt (ms.take j) (ms.getD j Z3).2.1 with q | ⟨i, q1, q2, _⟩
          · rw [q] at h4; omega
          · have q3 : nAt ms (ms.getD j Z3).2.1 = nAt (ms.take j) (ms.getD j Z3).2.1 := by
              have := nIx_append (l := ms.take j) (r := ms.drop j) (id := (ms.getD j Z3).2.1) 0 (by have q2' : nIx (ms.take j) (ms.getD j Z3).2.1 0 = (i : Int) := q2; rw [q2']; omega)
              rw [List.take_append_drop] at this
              exact this
            rw [q3, q2]
            rw [List.length_take] at q1
            omega
theorem no_zero {ms : List Mb} (h : treeR ms = 0) : nAt ms 0 = -1 := by
  rcases nAt_lt ms 0 with e | ⟨j, h1, _, h3⟩
  · exact e
  · have hn := tree_node h h1
    unfold nodeR at hn
    rw [h3, if_pos (.inl (by decide))] at hn
    cases hn

end Go.Proofs.Ytjlhoefkcdhonaa
