/- Blanks replaced by underscores, as the library says it: the same as the swap of each byte. -/
import Derived.Test.YtjgilpkkfpbefaaGreatDoorTtS
import Derived.Lib.Replace
namespace Go.Proofs.YtjgilpkkfpbefaaGreatDoor
open Go.RowKit

theorem index_blank (l : List UInt8) : Lib.index (32 :: l) [32] = 0 := by
  unfold Lib.index
  simp [List.isPrefixOf]
theorem index_other {b : UInt8} (h : b ≠ 32) (l : List UInt8) : Lib.index (b :: l) [32] = if Lib.index l [32] == -1 then -1 else Lib.index l [32] + 1 := by
  have hb : (32 == b) = false := by simpa using fun e => h (Eq.symm e)
  conv => lhs; unfold Lib.index
  simp [List.isPrefixOf, hb]
theorem repl_other {b : UInt8} (h : b ≠ 32) (l new : List UInt8) (c : Nat) : Lib.replaceK [32] new c (b :: l) = b :: Lib.replaceK [32] new c l := by
  cases c with
  | zero => rfl
  | succ c =>
    rw [Lib.replaceK, Lib.replaceK, index_other h]
    by_cases e : (Lib.index l [32] == -1) = true
    · rw [if_pos e, if_pos e, if_pos (by rfl)]
    · rw [if_neg e]
      have hs := Lib.index_ge l [32]
      have hne : Lib.index l [32] ≠ -1 := by simpa using e
      obtain ⟨i, hi⟩ : ∃ i : Nat, Lib.index l [32] = i := ⟨(Lib.index l [32]).toNat, by omega⟩
      rw [hi]
      have h1 : ((i : Int) == -1) = false := by simp
      have h2 : ((i : Int) + 1 == -1) = false := by simp; omega
      have h3 : ((i : Int) + 1).toNat = i + 1 := by omega
      simp [h1, h2, h3]
theorem count_other {b : UInt8} (h : b ≠ 32) (l : List UInt8) (f : Nat) : Lib.countFrom [32] f (b :: l) = Lib.countFrom [32] f l := by
  cases f with
  | zero => rfl
  | succ f =>
    rw [Lib.countFrom, Lib.countFrom, index_other h]
    by_cases e : (Lib.index l [32] == -1) = true
    · rw [if_pos e, if_pos e, if_pos (by rfl)]
    · rw [if_neg e]
      have hs := Lib.index_ge l [32]
      have hne : Lib.index l [32] ≠ -1 := by simpa using e
      obtain ⟨i, hi⟩ : ∃ i : Nat, Lib.index l [32] = i := ⟨(Lib.index l [32]).toNat, by omega⟩
      rw [hi]
      have h1 : ((i : Int) == -1) = false := by simp
      have h2 : ((i : Int) + 1 == -1) = false := by simp; omega
      have h3 : ((i : Int) + 1).toNat = i + 1 := by omega
      simp [h1, h2, h3]
theorem repl_count (l : List UInt8) : ∀ f, l.length < f → Lib.replaceK [32] [95] (Lib.countFrom [32] f l) l = l.map swp := by
  induction l with
  | nil =>
    intro f _
    have : Lib.countFrom [32] f [] = 0 := by
      cases f with
      | zero => rfl
      | succ f => rfl
    rw [this]; rfl
  | cons b t ih =>
    intro f hf
    by_cases hb : b = 32
    · subst hb
      cases f with
      | zero => simp at hf
      | succ f =>
        have e1 : Lib.countFrom [32] (f + 1) (32 :: t) = Lib.countFrom [32] f t + 1 := by
          rw [Lib.countFrom, index_blank]
          simp [Nat.add_comm]
        rw [e1, Lib.replaceK, index_blank]
        have := ih f (by simp at hf; omega)
        simp [this, swp]
    · rw [count_other hb, repl_other hb, ih f (by simp at hf; omega)]
      simp [swp, hb]
theorem repl_swap (l : List UInt8) : Lib.replaceAll l [32] [95] = l.map swp := by
  have h : Lib.replaceNum l [32] (-1) = Lib.count l [32] := by unfold Lib.replaceNum; rw [if_pos (.inl (by omega))]
  unfold Lib.replaceAll Lib.replace
  rw [if_neg (by decide), h]
  exact repl_count l _ (Nat.lt_succ_self _)

end Go.Proofs.YtjgilpkkfpbefaaGreatDoor
