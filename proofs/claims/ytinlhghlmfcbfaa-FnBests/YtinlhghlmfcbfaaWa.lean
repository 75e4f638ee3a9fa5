/- Paths, as data: what is on the way back is above; where two paths part. -/
import Derived.Test.YtinlhghlmfcbfaaEe
import Derived.BigRegion
import Derived.Test.YtinlhghlmfcbfaaNg
import Derived.Test.YtinlhghlmfcbfaaVh
import Derived.Test.YtinlhghlmfcbfaaLf
namespace Go.Proofs.Ytinlhghlmfcbfaa
open Go.RowKit Go.Maps Go.WideMaps

def aheadN (ms : List Mb) (a : Int) : Int := (ms.getD (nAt ms a).toNat Z3).2.1
theorem prev_ok {ms : List Mb} (h : treeR ms = 0) {a : Int} (ha : 0 ≤ nAt ms a) : (aheadN ms a = 0 ∨ 0 ≤ nAt ms (aheadN ms a)) ∧ nAt ms (aheadN ms a) < nAt ms a := by
  rcases nAt_lt ms a with e | ⟨j, h1, h2, _⟩
  · omega
  · unfold aheadN
    rw [h2]
    simp only [Int.toNat_natCast]
    rcases prev_lt h h1 with e | ⟨e1, e2⟩
    · exact ⟨.inl e, by rw [e, no_zero h]; omega⟩
    · exact ⟨.inr e1, e2⟩
theorem aboveF_fuel {ms : List Mb} (h : treeR ms = 0) (x : Int) : ∀ (f g : Nat) (a : Int), nAt ms a < (f : Int) → nAt ms a < (g : Int) → aboveF ms x f a = aboveF ms x g a := by
  intro f
  induction f with
  | zero =>
    intro g a h1 _
    cases g with
    | zero => rfl
    | succ g =>
      rw [aboveF, aboveF]
      by_cases h0 : a = 0
      · rw [if_pos h0]
      · rw [if_neg h0, if_pos (by omega)]
  | succ f ih =>
    intro g a h1 h2
    by_cases h0 : a = 0
    · cases g with
      | zero => rw [aboveF, aboveF, if_pos h0]
      | succ g => rw [aboveF, aboveF, if_pos h0, if_pos h0]
    · by_cases hn : nAt ms a < 0
      · cases g with
        | zero => rw [aboveF, aboveF, if_neg h0, if_pos hn]
        | succ g => rw [aboveF, aboveF, if_neg h0, if_neg h0, if_pos hn, if_pos hn]
      · obtain ⟨g', rfl⟩ : ∃ g', g = g' + 1 := ⟨g - 1, by omega⟩
        obtain ⟨_, p2⟩ := prev_ok h (show 0 ≤ nAt ms a by omega)
        unfold aheadN at p2
        rw [aboveF, aboveF, if_neg h0, if_neg h0, if_neg hn, if_neg hn, ih g' _ (by omega) (by omega)]
theorem above_step {ms : List Mb} (h : treeR ms = 0) {x a : Int} (ha : 0 ≤ nAt ms a) : aboveB ms x a = if x = a then true else aboveB ms x (aheadN ms a) := by
  have h0 : a ≠ 0 := fun q => by rw [q, no_zero h] at ha; omega
  obtain ⟨p1, p2⟩ := prev_ok h ha
  have hb : nAt ms a < (ms.length : Int) := by rcases nAt_lt ms a with e | ⟨j, h1, h2, _⟩ <;> omega
  unfold aboveB
  rw [aboveF, if_neg h0, if_neg (by omega)]
  unfold aheadN at p1 p2 ⊢
  rw [aboveF_fuel h x ms.length (ms.length + 1) _ (by omega) (by omega)]
theorem above_zero (ms : List Mb) (x : Int) : aboveB ms x 0 = false := by unfold aboveB; rw [aboveF, if_pos rfl]
/-- Going back ends: what holds of 0 and goes from the one ahead to a node holds of each. -/
theorem back_ind {ms : List Mb} (h : treeR ms = 0) {P : Int → Prop} (h0 : P 0) (hs : ∀ a, 0 ≤ nAt ms a → P (aheadN ms a) → P a) : ∀ a, (a = 0 ∨ 0 ≤ nAt ms a) → P a := by
  have key : ∀ (k : Nat) a, (a = 0 ∨ 0 ≤ nAt ms a) → nAt ms a < (k : Int) → P a := by
    intro k
    induction k with
    | zero =>
      intro a ha hk
      have e : a = 0 := by rcases ha with e | e; exact e; omega
      rw [e]; exact h0
    | succ k ih =>
      intro a ha hk
      by_cases e : a = 0
      · rw [e]; exact h0
      · have hp := ha.resolve_left e
        obtain ⟨p1, p2⟩ := prev_ok h hp
        exact hs a hp (ih _ p1 (by omega))
  intro a ha
  exact key (ms.length + 1) a ha (by rcases nAt_lt ms a with e | ⟨j, h1, h2, _⟩ <;> omega)
theorem mem_getD {l : List Int} {i : Nat} (h : i < l.length) : l.getD i 0 ∈ l := by
  have : l.getD i 0 = l[i] := by simp [List.getD, h]
  rw [this]; exact List.getElem_mem h
end Go.Proofs.Ytinlhghlmfcbfaa
