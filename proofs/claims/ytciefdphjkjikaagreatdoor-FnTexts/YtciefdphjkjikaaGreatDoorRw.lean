/- A frame in the midst of a drawn region, told by its slots alone. -/
import Derived.Test.YtciefdphjkjikaaGreatDoorJn4
namespace Go.Proofs.YtciefdphjkjikaaGreatDoor
open Go.RowKit

/-- Of the slots sl those that are done hold what xs says. -/
structure Fr (n : Nat) (sl : List (Option Nat)) (bs : List Bool) (xs : List Value) (a : Act) : Prop where
  hd : a.defers = []
  hs : a.tmps.size = n
  lb : bs.length = sl.length
  lx : xs.length = sl.length
  get : ∀ i d : Nat, sl[i]? = some (some d) → bs[i]? = some true → a.tmps[d]? = xs[i]?
def putB (n : Nat) (sl : List (Option Nat)) (i d : Nat) : Bool :=
  decide (sl[i]? = some (some d)) && decide (d < n) && (List.range sl.length).all fun j => j == i || decide (sl[j]? ≠ some (some d))
theorem Fr.put {n : Nat} {sl : List (Option Nat)} {bs : List Bool} {xs : List Value} {a : Act} (H : Fr n sl bs xs a) (i d : Nat) {v : Value} (h : putB n sl i d = true) : Fr n sl (bs.set i true) (xs.set i v) (a.put (some d) v) := by
  simp only [putB, Bool.and_eq_true, decide_eq_true_eq] at h
  obtain ⟨⟨h1, h2⟩, h3⟩ := h
  have hil : i < sl.length := (List.getElem?_eq_some_iff.1 h1).1
  refine ⟨H.hd, ?_, by rw [List.length_set]; exact H.lb, by rw [List.length_set]; exact H.lx, fun j e hj hb => ?_⟩
  · show (a.tmps.setIfInBounds d v).size = n
    rw [Array.size_setIfInBounds]; exact H.hs
  · show (a.tmps.setIfInBounds d v)[e]? = _
    by_cases hji : j = i
    · subst hji
      rw [h1] at hj
      cases hj
      rw [Array.getElem?_setIfInBounds_self, if_pos (by rw [H.hs]; exact h2), List.getElem?_set_self (by rw [H.lx]; exact hil)]
    · have hjl : j < sl.length := (List.getElem?_eq_some_iff.1 hj).1
      have h4 := List.all_eq_true.1 h3 j (List.mem_range.2 hjl)
      have h5 : sl[j]? ≠ some (some d) := by simpa [hji] using h4
      have hde : d ≠ e := fun e0 => h5 (by rw [hj, e0])
      rw [Array.getElem?_setIfInBounds_ne hde, List.getElem?_set_ne (Ne.symm hji)]
      rw [List.getElem?_set_ne (Ne.symm hji)] at hb
      exact H.get j e hj hb
theorem Fr.skip {n : Nat} {sl : List (Option Nat)} {bs : List Bool} {xs : List Value} {a : Act} (H : Fr n sl bs xs a) (i : Nat) (h : sl[i]? = some none) : Fr n sl (bs.set i true) xs a := by
  refine ⟨H.hd, H.hs, by rw [List.length_set]; exact H.lb, H.lx, fun j e hj hb => ?_⟩
  by_cases hji : j = i
  · subst hji; rw [h] at hj; cases hj
  · rw [List.getElem?_set_ne (Ne.symm hji)] at hb
    exact H.get j e hj hb

/-- An array of so many is written out. -/
theorem arr_of {A : Array Value} {n : Nat} (h : A.size = n) : ∃ f : Nat → Value, A = ((List.range n).map f).toArray := by
  refine ⟨fun i => A.getD i undef, ?_⟩
  apply Array.ext
  · simp [h]
  · intro i h1 h2
    simp [Array.getD, h1]
theorem eval_tmp {a : Act} {d : Nat} {v : Value} (h : a.tmps[d]? = some v) : a.eval (.tmp d) = v := by
  show a.tmps.getD d undef = v
  rw [Array.getD_eq_getD_getElem?, h]; rfl

end Go.Proofs.YtciefdphjkjikaaGreatDoor
