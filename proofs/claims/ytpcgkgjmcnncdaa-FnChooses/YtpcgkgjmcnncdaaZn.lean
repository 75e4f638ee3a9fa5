/- What is chosen stays chosen: the pure part of the law on choices. -/
import Derived.Test.YtpcgkgjmcnncdaaZi
namespace Go.Proofs.Ytpcgkgjmcnncdaa
open Go.RowKit Go.Maps Go.WideMaps

theorem chvG_snoc {pre ms : List Mb} {g : Mb} (h : chvG pre ms = 0) (hg : goodC g = true) (hn : hasRf (pre ++ ms) g.1 g.2.1 = false) : chvG pre (ms ++ [g]) = 0 := by
  induction ms generalizing pre with
  | nil =>
    rw [List.append_nil] at hn
    rw [List.nil_append, chvG, if_neg (by rw [hg]; simp), if_neg (by rw [hn]; simp)]
    rfl
  | cons x t ih =>
    rw [chvG] at h
    by_cases h1 : goodC x = false
    · rw [if_pos h1] at h; cases h
    · rw [if_neg h1] at h
      by_cases h2 : hasRf pre x.1 x.2.1 = true
      · rw [if_pos h2] at h; cases h
      · rw [if_neg h2] at h
        rw [List.cons_append, chvG, if_neg h1, if_neg h2]
        refine ih h ?_
        rw [List.append_assoc]
        exact hn
theorem voterR_of {k l : Int} {ms : List Mb} (hk : inB k 1 999 = true) (hl : inB l 0 60 = true) (hn : ms.length ≤ 40) (h : chvG [] ms = 0) : voterR k l ms = 0 := by
  unfold voterR chsR
  rw [if_pos ⟨hk, hl⟩, if_neg (by omega), h]
theorem voterR_chvG {k l : Int} {ms : List Mb} (h : voterR k l ms = 0) : chvG [] ms = 0 := by
  have := voterR_ok h
  unfold voterR chsR at h
  rw [if_pos ⟨this.1, this.2.1⟩, if_neg (by omega)] at h
  exact h
theorem txOf_snoc {p q t : Int} {ms : List Mb} (h : hasRf ms p q = false) : txOf p q (ms ++ [(p, q, t)]) = t := by
  induction ms with
  | nil => rw [List.nil_append, txOf, if_pos (by simp [matR])]
  | cons x s ih =>
    simp only [hasRf, List.any_cons, Bool.or_eq_false_iff] at h
    rw [List.cons_append, txOf, if_neg (by rw [h.1]; simp)]
    exact ih h.2
/-- What a voter that chose without a code has. -/
theorem chosen_ok {k l p q t : Int} {ms : List Mb} (h : (chooseR k l ms p q t).c = 0) :
    ∃ ms', chooseR k l ms p q t = ⟨0, ⟨k, 2, 0, p, q, t⟩, k, l, ms'⟩ ∧ voterR k l ms = 0 ∧ voterR k l ms' = 0 ∧ goodC (p, q, t) = true ∧ hasRf ms' p q = true ∧ txOf p q ms' = t := by
  by_cases h0 : voterR k l ms = 0
  rotate_left
  · rw [chooseR_bad h0] at h
    exact absurd h h0
  have hok := voterR_ok h0
  by_cases hc : chooseC ms p q t = 0
  rotate_left
  · rw [chooseR_code h0 hc] at h
    exact absurd h hc
  have hg : goodC (p, q, t) = true := by
    cases hh : goodC (p, q, t)
    · unfold chooseC at hc; rw [if_pos hh] at hc; cases hc
    · rfl
  by_cases hm : (p, q, t) ∈ ms
  · refine ⟨ms, chooseR_had h0 hc hm, h0, h0, hg, hasRf_mem hm, ?_⟩
    unfold chooseC at hc
    rw [if_neg (by rw [hg]; simp), if_pos (hasRf_mem hm)] at hc
    by_cases h3 : txOf p q ms = t
    · exact h3
    · rw [if_neg h3] at hc; cases hc
  · have hno : hasRf ms p q = false := by
      cases hh : hasRf ms p q
      · rfl
      · exfalso
        unfold chooseC at hc
        rw [if_neg (by rw [hg]; simp), if_pos hh] at hc
        by_cases h3 : txOf p q ms = t
        · exact hm (h3 ▸ mem_hasRf hh)
        · rw [if_neg h3] at hc; cases hc
    have h40 : ¬ 40 ≤ ms.length := fun h4 => by
      unfold chooseC at hc
      rw [if_neg (by rw [hg]; simp), if_neg (by rw [hno]; simp), if_pos h4] at hc
      cases hc
    refine ⟨ms ++ [(p, q, t)], chooseR_new h0 hc hm, h0, ?_, hg, ?_, txOf_snoc hno⟩
    · exact voterR_of hok.1 hok.2.1 (by simp; omega) (chvG_snoc (voterR_chvG h0) hg (by simpa using hno))
    · rw [hasRf_snoc]; simp [matR]
/-- Chosen again: the same. -/
theorem chosen_same {k l p q t : Int} {ms : List Mb} (h0 : voterR k l ms = 0) (hg : goodC (p, q, t) = true) (hh : hasRf ms p q = true) (ht : txOf p q ms = t) : chooseR k l ms p q t = ⟨0, ⟨k, 2, 0, p, q, t⟩, k, l, ms⟩ := by
  unfold chooseR
  rw [if_neg (by rw [h0]; simp), if_neg (by rw [hg]; simp), if_pos hh, if_pos ht]
/-- Another one: it is taken. -/
theorem chosen_other {k l p q t y : Int} {ms : List Mb} (h0 : voterR k l ms = 0) (hg : goodC (p, q, t) = true) (hh : hasRf ms p q = true) (ht : txOf p q ms = t) (hy : 1 ≤ y ∧ y ≤ 60) (hne : t ≠ y) : chooseR k l ms p q y = vrBad 7 := by
  have hgy : goodC (p, q, y) = true := by
    unfold goodC at hg ⊢
    rw [Bool.and_eq_true] at hg ⊢
    exact ⟨hg.1, inB_true.2 hy⟩
  unfold chooseR
  rw [if_neg (by rw [h0]; simp), if_neg (by rw [hgy]; simp), if_pos hh, if_neg (by rw [ht]; exact hne)]
/-- One that has not voted chooses. -/
theorem chosen_first {k p q t : Int} (hk : inB k 1 999 = true) (hg : goodC (p, q, t) = true) : chooseR k 0 [] p q t = ⟨0, ⟨k, 2, 0, p, q, t⟩, k, 0, [(p, q, t)]⟩ := by
  have h0 : voterR k 0 [] = 0 := voterR_of hk (by decide) (by simp) rfl
  unfold chooseR
  rw [if_neg (by rw [h0]; simp), if_neg (by rw [hg]; simp), if_neg (by simp [hasRf]), if_neg (by simp)]
  rfl
theorem next_tx {t : Int} (h : 1 ≤ t ∧ t ≤ 60) : 1 ≤ t.tmod 60 + 1 ∧ t.tmod 60 + 1 ≤ 60 ∧ t ≠ t.tmod 60 + 1 := by
  rw [Int.tmod_eq_emod_of_nonneg (by omega)]
  omega

end Go.Proofs.Ytpcgkgjmcnncdaa
