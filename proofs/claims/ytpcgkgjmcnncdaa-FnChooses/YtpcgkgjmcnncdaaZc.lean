/- What keeps a voter from being one, what keeps a vote from being one, as data; which choice stands where. -/
import Derived.Test.YtpcgkgjmcnncdaaZa
import Derived.Test.YtpcgkgjmcnncdaaZb
import Derived.Test.YtpcgkgjmcnncdaaTxS
namespace Go.Proofs.Ytpcgkgjmcnncdaa
open Go.RowKit Go.Maps Go.WideMaps

def matR (p q : Int) (g : Mb) : Bool := g.1 == p && g.2.1 == q
def hasRf (ms : List Mb) (p q : Int) : Bool := ms.any (matR p q)
/-- The place of the first choice of a ref, counted from i on; -1: there is none. -/
def chIx (p q : Int) : Nat → List Mb → Int
  | _, [] => -1
  | i, g :: t => if matR p q g = true then i else chIx p q (i + 1) t
/-- What was chosen of a ref; 0: nothing. -/
def txOf (p q : Int) : List Mb → Int
  | [] => 0
  | g :: t => if matR p q g = true then g.2.2 else txOf p q t
def goodC (g : Mb) : Bool := refB (g.1, g.2.1) && inB g.2.2 1 60
def chvG (pre : List Mb) : List Mb → Int
  | [] => 0
  | g :: t => if goodC g = false then 3 else if hasRf pre g.1 g.2.1 = true then 7 else chvG (pre ++ [g]) t
def chsR (ms : List Mb) : Int := if 40 < ms.length then 2 else chvG [] ms
def voterR (k l : Int) (ms : List Mb) : Int := if inB k 1 999 = true ∧ inB l 0 60 = true then chsR ms else 3

section
variable {p q : Int} {i : Nat} {g : Mb} {ms pre t : List Mb}
theorem hasRf_snoc : hasRf (ms ++ [g]) p q = (hasRf ms p q || matR p q g) := by simp [hasRf]
theorem chIx_no (h : hasRf ms p q = false) : chIx p q i ms = -1 := by
  induction ms generalizing i with
  | nil => rfl
  | cons x t ih =>
    simp only [hasRf, List.any_cons, Bool.or_eq_false_iff] at h
    rw [chIx, if_neg (by rw [h.1]; simp)]
    exact ih h.2
theorem chIx_at (h : hasRf pre p q = false) (hg : matR p q g = true) : chIx p q i (pre ++ g :: t) = ((i + pre.length : Nat) : Int) := by
  induction pre generalizing i with
  | nil => rw [List.nil_append, chIx, if_pos hg]; rfl
  | cons x s ih =>
    simp only [hasRf, List.any_cons, Bool.or_eq_false_iff] at h
    rw [List.cons_append, chIx, if_neg (by rw [h.1]; simp), ih h.2]
    simp
    omega
theorem chIx_has (h : hasRf ms p q = true) : ∃ j, j < ms.length ∧ (∀ i, chIx p q i (ms ++ t) = ((i + j : Nat) : Int)) ∧ (ms.getD j Z3).2.2 = txOf p q ms ∧ matR p q (ms.getD j Z3) = true := by
  induction ms with
  | nil => cases h
  | cons x s ih =>
    by_cases hx : matR p q x = true
    · refine ⟨0, by simp, fun i => ?_, ?_, ?_⟩
      · rw [List.cons_append, chIx, if_pos hx]; rfl
      · rw [txOf, if_pos hx]; rfl
      · exact hx
    · have hs : hasRf s p q = true := by
        simp only [hasRf, List.any_cons, Bool.or_eq_true] at h
        exact h.resolve_left hx
      obtain ⟨j, h1, h2, h3, h4⟩ := ih hs
      refine ⟨j + 1, by simpa using h1, fun i => ?_, ?_, ?_⟩
      · rw [List.cons_append, chIx, if_neg hx, h2]; simp; omega
      · rw [txOf, if_neg hx, ← h3]; simp
      · simpa using h4
theorem chIx_ne (h : hasRf pre p q = true) : chIx p q 0 (pre ++ t) ≠ (pre.length : Int) := by
  obtain ⟨j, h1, h2, _⟩ := chIx_has (t := t) h
  rw [h2]
  omega
theorem txOf_no (h : hasRf ms p q = false) : txOf p q ms = 0 := by
  induction ms with
  | nil => rfl
  | cons x t ih =>
    simp only [hasRf, List.any_cons, Bool.or_eq_false_iff] at h
    rw [txOf, if_neg (by rw [h.1]; simp)]
    exact ih h.2
theorem goodC_tx (h : goodC g = true) : 1 ≤ g.2.2 ∧ g.2.2 ≤ 60 := by
  unfold goodC at h
  exact inB_true.1 ((Bool.and_eq_true _ _).mp h).2
theorem txOf_has (ha : ∀ x ∈ ms, goodC x = true) (h : hasRf ms p q = true) : 1 ≤ txOf p q ms ∧ txOf p q ms ≤ 60 := by
  induction ms with
  | nil => cases h
  | cons x s ih =>
    by_cases hx : matR p q x = true
    · rw [txOf, if_pos hx]; exact goodC_tx (ha x (by simp))
    · have hs : hasRf s p q = true := by
        simp only [hasRf, List.any_cons, Bool.or_eq_true] at h
        exact h.resolve_left hx
      rw [txOf, if_neg hx]
      exact ih (fun y hy => ha y (by simp [hy])) hs
theorem txOf_zero (ha : ∀ x ∈ ms, goodC x = true) : txOf p q ms = 0 ↔ hasRf ms p q = false := by
  cases h : hasRf ms p q
  · simp [txOf_no h]
  · have := txOf_has ha h
    simp
    omega
theorem chvG_good : chvG pre ms = 0 → ∀ x ∈ ms, goodC x = true := by
  induction ms generalizing pre with
  | nil => intro _ x hx; cases hx
  | cons g t ih =>
    intro h x hx
    rw [chvG] at h
    by_cases h1 : goodC g = false
    · rw [if_pos h1] at h; cases h
    · rw [if_neg h1] at h
      by_cases h2 : hasRf pre g.1 g.2.1 = true
      · rw [if_pos h2] at h; cases h
      · rw [if_neg h2] at h
        rcases List.mem_cons.1 hx with rfl | hx
        · simpa using h1
        · exact ih h x hx
end
theorem voterR_ok {k l : Int} {ms : List Mb} (h : voterR k l ms = 0) : inB k 1 999 = true ∧ inB l 0 60 = true ∧ ms.length ≤ 40 ∧ ∀ x ∈ ms, goodC x = true := by
  unfold voterR at h
  by_cases h1 : inB k 1 999 = true ∧ inB l 0 60 = true
  · rw [if_pos h1] at h
    unfold chsR at h
    by_cases h2 : 40 < ms.length
    · rw [if_pos h2] at h; cases h
    · rw [if_neg h2] at h
      exact ⟨h1.1, h1.2, by omega, chvG_good h⟩
  · rw [if_neg h1] at h; cases h

/-- What CastFor and ChooseFor tell: a code, a vote, a voter. -/
structure Vr where
  c : Int
  v : Vo
  k : Int
  l : Int
  ms : List Mb
def vrBad (c : Int) : Vr := ⟨c, V0, 0, 0, []⟩
def chooseR (k l : Int) (ms : List Mb) (p q t : Int) : Vr :=
  if voterR k l ms ≠ 0 then vrBad (voterR k l ms)
  else if goodC (p, q, t) = false then vrBad 3
  else if hasRf ms p q = true then (if txOf p q ms = t then ⟨0, ⟨k, 2, 0, p, q, t⟩, k, l, ms⟩ else vrBad 7)
  else if 40 ≤ ms.length then vrBad 2
  else ⟨0, ⟨k, 2, 0, p, q, t⟩, k, l, ms ++ [(p, q, t)]⟩
def newR (k : Int) : Vr := if inB k 1 999 = true then ⟨0, V0, k, 0, []⟩ else vrBad 3

end Go.Proofs.Ytpcgkgjmcnncdaa
