/- Paths, as data: what is on the way back is above; where two paths part. -/
import Derived.Test.YtinlhghlmfcbfaaVb
import Derived.Test.YtinlhghlmfcbfaaLe
import Derived.Test.YtinlhghlmfcbfaaNh
import Derived.Test.YtinlhghlmfcbfaaLf
namespace Go.Proofs.Ytinlhghlmfcbfaa
open Go.RowKit Go.Maps Go.WideMaps

def aheadN (ms : List Mb) (a : Int) : Int := (ms.getD (nAt ms a).toNat Z3).2.1
def pathB (ms : List Mb) (a : Int) : List Int := pathF ms (ms.length + 1) a
theorem prev_ok {ms : List Mb} (h : treeR ms = 0) {a : Int} (ha : 0 ≤ nAt ms a) : (aheadN ms a = 0 ∨ 0 ≤ nAt ms (aheadN ms a)) ∧ nAt ms (aheadN ms a) < nAt ms a := by
  rcases nAt_lt ms a with e | ⟨j, h1, h2, _⟩
  · omega
  · unfold aheadN
    rw [h2]
    simp only [Int.toNat_natCast]
    rcases prev_lt h h1 with e | ⟨e1, e2⟩
    · exact ⟨.inl e, by rw [e, no_zero h]; omega⟩
    · exact ⟨.inr e1, e2⟩
theorem pathF_fuel {ms : List Mb} (h : treeR ms = 0) : ∀ (f g : Nat) (a : Int), (a = 0 ∨ 0 ≤ nAt ms a) → nAt ms a < (f : Int) → nAt ms a < (g : Int) → pathF ms f a = pathF ms g a := by
  intro f
  induction f with
  | zero =>
    intro g a ha h1 _
    have h0 : a = 0 := by rcases ha with e | e; exact e; omega
    subst h0
    cases g with
    | zero => rfl
    | succ g => rw [pathF, pathF, if_pos rfl]
  | succ f ih =>
    intro g a ha h1 h2
    by_cases h0 : a = 0
    · subst h0
      cases g with
      | zero => rw [pathF, pathF, if_pos rfl]
      | succ g => rw [pathF, pathF, if_pos rfl, if_pos rfl]
    · have hp : 0 ≤ nAt ms a := ha.resolve_left h0
      obtain ⟨g', rfl⟩ : ∃ g', g = g' + 1 := ⟨g - 1, by omega⟩
      obtain ⟨p1, p2⟩ := prev_ok h hp
      unfold aheadN at p1 p2
      rw [pathF, pathF, if_neg h0, if_neg h0, ih g' _ p1 (by omega) (by omega)]
theorem path_zero (ms : List Mb) : pathB ms 0 = [] := by unfold pathB; rw [pathF, if_pos rfl]
theorem path_step {ms : List Mb} (h : treeR ms = 0) {a : Int} (ha : 0 ≤ nAt ms a) : pathB ms a = pathB ms (aheadN ms a) ++ [a] := by
  have h0 : a ≠ 0 := fun q => by rw [q, no_zero h] at ha; omega
  obtain ⟨p1, p2⟩ := prev_ok h ha
  have hb : nAt ms a < (ms.length : Int) := by rcases nAt_lt ms a with e | ⟨j, h1, h2, _⟩ <;> omega
  unfold pathB
  rw [pathF, if_neg h0]
  unfold aheadN at p1 p2 ⊢
  rw [pathF_fuel h ms.length (ms.length + 1) _ p1 (by omega) (by omega)]
theorem aboveF_fuel {ms : List Mb} (h : treeR ms = 0) (x : Int) : ∀ (f g : Nat) (a : Int), nAt ms a < (f : Int) → nAt ms a < (g : Int) → aboveF ms x f a = aboveF ms x g a := by
  intro f
  induction f with
  | zero =>
    intro g a h1 _
    cases g with
    | zero => rfl
    | succ g =>
      rw [aboveF, aboveF]
      by_cases h0 : a = 0
      · rw [if_pos h0]
      · rw [if_neg h0, if_pos (by omega)]
  | succ f ih =>
    intro g a h1 h2
    by_cases h0 : a = 0
    · cases g with
      | zero => rw [aboveF, aboveF, if_pos h0]
      | succ g => rw [aboveF, aboveF, if_pos h0, if_pos h0]
    · by_cases hn : nAt ms a < 0
      · cases g with
        | zero => rw [aboveF, aboveF, if_neg h0, if_pos hn]
        | succ g => rw [aboveF, aboveF, if_neg h0, if_neg h0, if_pos hn, if_pos hn]
      · obtain ⟨g', rfl⟩ : ∃ g', g = g' + 1 := ⟨g - 1, by omega⟩
        obtain ⟨_, p2⟩ := prev_ok h (show 0 ≤ nAt ms a by omega)
        unfold aheadN at p2
        rw [aboveF, aboveF, if_neg h0, if_neg h0, if_neg hn, if_neg hn, ih g' _ (by omega) (by omega)]
theorem above_step {ms : List Mb} (h : treeR ms = 0) {x a : Int} (ha : 0 ≤ nAt ms a) : aboveB ms x a = if x = a then true else aboveB ms x (aheadN ms a) := by
  have h0 : a ≠ 0 := fun q => by rw [q, no_zero h] at ha; omega
  obtain ⟨p1, p2⟩ := prev_ok h ha
  have hb : nAt ms a < (ms.length : Int) := by rcases nAt_lt ms a with e | ⟨j, h1, h2, _⟩ <;> omega
  unfold aboveB
  rw [aboveF, if_neg h0, if_neg (by omega)]
  unfold aheadN at p1 p2 ⊢
  rw [aboveF_fuel h x ms.length (ms.length + 1) _ (by omega) (by omega)]
theorem above_zero (ms : List Mb) (x : Int) : aboveB ms x 0 = false := by unfold aboveB; rw [aboveF, if_pos rfl]
/-- Going back ends: what holds of 0 and goes from the one ahead to a node holds of each. -/
theorem back_ind {ms : List Mb} (h : treeR ms = 0) {P : Int → Prop} (h0 : P 0) (hs : ∀ a, 0 ≤ nAt ms a → P (aheadN ms a) → P a) : ∀ a, (a = 0 ∨ 0 ≤ nAt ms a) → P a := by
  have key : ∀ (k : Nat) a, (a = 0 ∨ 0 ≤ nAt ms a) → nAt ms a < (k : Int) → P a := by
    intro k
    induction k with
    | zero =>
      intro a ha hk
      have e : a = 0 := by rcases ha with e | e; exact e; omega
      rw [e]; exact h0
    | succ k ih =>
      intro a ha hk
      by_cases e : a = 0
      · rw [e]; exact h0
      · have hp := ha.resolve_left e
        obtain ⟨p1, p2⟩ := prev_ok h hp
        exact hs a hp (ih _ p1 (by omega))
  intro a ha
  exact key (ms.length + 1) a ha (by rcases nAt_lt ms a with e | ⟨j, h1, h2, _⟩ <;> omega)
theorem above_mem {ms : List Mb} (h : treeR ms = 0) (x : Int) : ∀ a, (a = 0 ∨ 0 ≤ nAt ms a) → (aboveB ms x a = true ↔ x ∈ pathB ms a) := by
  refine back_ind h ?_ ?_
  · rw [above_zero, path_zero]; simp
  · intro a ha ih
    rw [above_step h ha, path_step h ha, List.mem_append]
    by_cases e : x = a
    · simp [e]
    · rw [if_neg e, ih]; simp [e]
theorem path_in {ms : List Mb} (h : treeR ms = 0) : ∀ a, (a = 0 ∨ 0 ≤ nAt ms a) → ∀ x ∈ pathB ms a, 0 ≤ nAt ms x := by
  refine back_ind h ?_ ?_
  · rw [path_zero]; intro x hx; cases hx
  · intro a ha ih x hx
    rw [path_step h ha, List.mem_append] at hx
    rcases hx with hx | hx
    · exact ih x hx
    · simp at hx; rw [hx]; exact ha
theorem path_take {ms : List Mb} (h : treeR ms = 0) : ∀ a, (a = 0 ∨ 0 ≤ nAt ms a) → ∀ i, i < (pathB ms a).length → pathB ms ((pathB ms a).getD i 0) = (pathB ms a).take (i + 1) := by
  refine back_ind h ?_ ?_
  · rw [path_zero]; intro i hi; simp at hi
  · intro a ha ih i hi
    have hs := path_step h ha
    have hl : (pathB ms a).length = (pathB ms (aheadN ms a)).length + 1 := by rw [hs]; simp
    by_cases e : i < (pathB ms (aheadN ms a)).length
    · have e1 : (pathB ms a).getD i 0 = (pathB ms (aheadN ms a)).getD i 0 := by rw [hs]; simp [List.getD, List.getElem?_append_left e]
      rw [e1, ih i e, hs, List.take_append_of_le_length (by omega)]
    · have e0 : i = (pathB ms (aheadN ms a)).length := by omega
      have e1 : (pathB ms a).getD i 0 = a := by rw [hs]; simp [List.getD, e0]
      rw [e1, List.take_of_length_le (by omega)]

/-- k is how far two lists are the same. -/
structure IsK (P Q : List Int) (k : Nat) : Prop where
  p : k ≤ P.length
  q : k ≤ Q.length
  eq : ∀ t, t < k → P.getD t 0 = Q.getD t 0
  no : ¬ (k < P.length ∧ k < Q.length ∧ P.getD k 0 = Q.getD k 0)
theorem mem_getD {l : List Int} {i : Nat} (h : i < l.length) : l.getD i 0 ∈ l := by
  have : l.getD i 0 = l[i] := by simp [List.getD, h]
  rw [this]; exact List.getElem_mem h
theorem part_iff {ms : List Mb} (h : treeR ms = 0) {a b : Int} (ha : 0 ≤ nAt ms a) (hb : 0 ≤ nAt ms b) {k : Nat} (hk : IsK (pathB ms a) (pathB ms b) k) {i : Nat} (hi : i < (pathB ms a).length) : aboveB ms ((pathB ms a).getD i 0) b = decide (i < k) := by
  by_cases e : i < k
  · rw [decide_eq_true e]
    refine (above_mem h _ b (.inr hb)).2 ?_
    rw [hk.eq i e]
    exact mem_getD (by have := hk.q; omega)
  · rw [decide_eq_false e]
    cases hx : aboveB ms ((pathB ms a).getD i 0) b
    · rfl
    · exfalso
      have hm := (above_mem h _ b (.inr hb)).1 hx
      obtain ⟨j, hj, ej⟩ := List.getElem_of_mem hm
      have ej2 : (pathB ms b).getD j 0 = (pathB ms a).getD i 0 := by rw [← ej]; simp [List.getD, hj]
      have t1 := path_take h a (.inr ha) i hi
      have t2 := path_take h b (.inr hb) j hj
      rw [ej2, t1] at t2
      have hl := congrArg List.length t2
      rw [List.length_take, List.length_take] at hl
      have hij : i = j := by omega
      subst hij
      have ee : (pathB ms a).getD k 0 = (pathB ms b).getD k 0 := by
        have c1 : ((pathB ms a).take (i + 1)).getD k 0 = (pathB ms a).getD k 0 := by simp only [List.getD]; rw [List.getElem?_take_of_lt (by omega)]
        have c2 : ((pathB ms b).take (i + 1)).getD k 0 = (pathB ms b).getD k 0 := by simp only [List.getD]; rw [List.getElem?_take_of_lt (by omega)]
        rw [← c1, ← c2, t2]
      exact hk.no ⟨by omega, by omega, ee⟩
theorem path_last {ms : List Mb} (h : treeR ms = 0) {a : Int} (ha : 0 ≤ nAt ms a) : 0 < (pathB ms a).length ∧ (pathB ms a).getD ((pathB ms a).length - 1) 0 = a := by
  rw [path_step h ha]
  simp [List.getD]
theorem IsK.symm {P Q : List Int} {k : Nat} (h : IsK P Q k) : IsK Q P k := ⟨h.q, h.p, fun t ht => (h.eq t ht).symm, fun ⟨a, b, c⟩ => h.no ⟨b, a, c.symm⟩⟩
theorem above_end {ms : List Mb} (h : treeR ms = 0) {a b : Int} (ha : 0 ≤ nAt ms a) (hb : 0 ≤ nAt ms b) {k : Nat} (hk : IsK (pathB ms a) (pathB ms b) k) : aboveB ms a b = decide (k = (pathB ms a).length) := by
  obtain ⟨l1, l2⟩ := path_last h ha
  have := part_iff h ha hb hk (i := (pathB ms a).length - 1) (by omega)
  rw [l2] at this
  rw [this]
  have := hk.p
  by_cases e : k = (pathB ms a).length
  · rw [decide_eq_true e, decide_eq_true (by omega)]
  · rw [decide_eq_false e, decide_eq_false (by omega)]
theorem rel_part {ms : List Mb} (h : treeR ms = 0) {a b : Int} (ha : 0 ≤ nAt ms a) (hb : 0 ≤ nAt ms b) {k : Nat} (hk : IsK (pathB ms a) (pathB ms b) k) : relB ms a b = (decide (k = (pathB ms a).length) || decide (k = (pathB ms b).length)) := by
  unfold relB
  rw [above_end h ha hb hk, above_end h hb ha hk.symm]

def forkB (ms : List Mb) (b a : Int) : Int := forkF ms b (ms.length + 1) a
theorem forkF_fuel {ms : List Mb} (h : treeR ms = 0) (b : Int) : ∀ (f g : Nat) (a : Int), (a = 0 ∨ 0 ≤ nAt ms a) → nAt ms a < (f : Int) → nAt ms a < (g : Int) → forkF ms b f a = forkF ms b g a := by
  intro f
  induction f with
  | zero =>
    intro g a ha h1 _
    have h0 : a = 0 := by rcases ha with e | e; exact e; omega
    subst h0
    cases g with
    | zero => rfl
    | succ g => rw [forkF, forkF, if_pos rfl]
  | succ f ih =>
    intro g a ha h1 h2
    by_cases h0 : a = 0
    · subst h0
      cases g with
      | zero => rw [forkF, forkF, if_pos rfl]
      | succ g => rw [forkF, forkF, if_pos rfl, if_pos rfl]
    · have hp : 0 ≤ nAt ms a := ha.resolve_left h0
      obtain ⟨g', rfl⟩ : ∃ g', g = g' + 1 := ⟨g - 1, by omega⟩
      obtain ⟨p1, p2⟩ := prev_ok h hp
      unfold aheadN at p1 p2
      rw [forkF, forkF, if_neg h0, if_neg h0, ih g' _ p1 (by omega) (by omega)]
theorem fork_step {ms : List Mb} (h : treeR ms = 0) {a b : Int} (ha : 0 ≤ nAt ms a) : forkB ms b a = if aboveB ms a b = true then a else forkB ms b (aheadN ms a) := by
  have h0 : a ≠ 0 := fun q => by rw [q, no_zero h] at ha; omega
  obtain ⟨p1, p2⟩ := prev_ok h ha
  have hb : nAt ms a < (ms.length : Int) := by rcases nAt_lt ms a with e | ⟨j, h1, h2, _⟩ <;> omega
  unfold forkB
  rw [forkF, if_neg h0]
  unfold aheadN at p1 p2 ⊢
  rw [forkF_fuel h b ms.length (ms.length + 1) _ p1 (by omega) (by omega)]
theorem fork_part {ms : List Mb} (h : treeR ms = 0) {b : Int} (hb : 0 ≤ nAt ms b) : ∀ a, (a = 0 ∨ 0 ≤ nAt ms a) → ∀ k, IsK (pathB ms a) (pathB ms b) k → forkB ms b a = if 0 < k then (pathB ms a).getD (k - 1) 0 else 0 := by
  refine back_ind h ?_ ?_
  · intro k hk
    have := hk.p
    rw [path_zero] at this
    rw [if_neg (by simp at this; omega)]
    unfold forkB
    rw [forkF, if_pos rfl]
  · intro a ha ih k hk
    have hl : (pathB ms a).length = (pathB ms (aheadN ms a)).length + 1 := by rw [path_step h ha]; simp
    rw [fork_step h ha, above_end h ha hb hk]
    obtain ⟨l1, l2⟩ := path_last h ha
    by_cases e : k = (pathB ms a).length
    · rw [if_pos (decide_eq_true e), if_pos (by omega), e, l2]
    · rw [if_neg (by simpa using e)]
      have hp := hk.p
      have hg : ∀ t, t < (pathB ms (aheadN ms a)).length → (pathB ms a).getD t 0 = (pathB ms (aheadN ms a)).getD t 0 := fun t ht => by
        rw [path_step h ha]
        simp [List.getD, List.getElem?_append_left ht]
      have hk2 : IsK (pathB ms (aheadN ms a)) (pathB ms b) k := ⟨by omega, hk.q, fun t ht => by rw [← hg t (by omega)]; exact hk.eq t ht, fun ⟨q1, q2, q3⟩ => hk.no ⟨by omega, q2, by rw [hg k q1]; exact q3⟩⟩
      rw [ih k hk2]
      by_cases e0 : 0 < k
      · rw [if_pos e0, if_pos e0, hg (k - 1) (by omega)]
      · rw [if_neg e0, if_neg e0]

end Go.Proofs.Ytinlhghlmfcbfaa
