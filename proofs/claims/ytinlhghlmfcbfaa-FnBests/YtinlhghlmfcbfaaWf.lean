/- The best node, as data: all locks are above it, none that goes with all is higher; a node put behind it is the best one then. -/
import Derived.Test.YtinlhghlmfcbfaaWa
import Derived.Test.YtinlhghlmfcbfaaVi
namespace Go.Proofs.Ytinlhghlmfcbfaa
open Go.RowKit Go.Maps Go.WideMaps

/-- What the best of the first k nodes is: it goes with all locks, and none of these that does is higher. -/
theorem bestK_fit (ms : List Mb) (ls : List Int) : ∀ k, (∀ j : Nat, bestK ms ls k = (j : Int) → fitB ms (ms.getD j Z3).1 ls = true) ∧ (∀ t, t < k → fitB ms (ms.getD t Z3).1 ls = true → ∃ j : Nat, bestK ms ls k = (j : Int) ∧ (ms.getD t Z3).2.2 ≤ (ms.getD j Z3).2.2) := by
  intro k
  induction k with
  | zero => exact ⟨fun j e => by rw [bestK] at e; omega, fun t ht => by omega⟩
  | succ k ih =>
    rw [bestK]
    by_cases h : (fitB ms (ms.getD k Z3).1 ls && betB ms k (bestK ms ls k)) = true
    · rw [if_pos h]
      rw [Bool.and_eq_true] at h
      refine ⟨fun j e => ?_, fun t ht hf => ⟨k, rfl, ?_⟩⟩
      · have : j = k := by omega
        rw [this]; exact h.1
      · rcases Nat.lt_or_ge t k with q | q
        · obtain ⟨j, e1, e2⟩ := ih.2 t q hf
          have h2 := h.2
          unfold betB at h2
          rw [e1, decide_eq_false (by omega), Bool.false_or] at h2
          have := of_decide_eq_true h2
          simp only [Int.toNat_natCast] at this
          omega
        · obtain rfl : t = k := by omega
          exact Int.le_refl _
    · rw [if_neg h]
      refine ⟨ih.1, fun t ht hf => ?_⟩
      rcases Nat.lt_or_ge t k with q | q
      · exact ih.2 t q hf
      · obtain rfl : t = k := by omega
        have hb : betB ms t (bestK ms ls t) = false := by
          cases hq : betB ms t (bestK ms ls t)
          · rfl
          · exact absurd (by rw [hf, hq]; rfl) h
        rcases bestK_lt ms ls t with e | ⟨j, _, e⟩
        · rw [e] at hb; cases hb
        · unfold betB at hb
          rw [e, decide_eq_false (by omega), Bool.false_or] at hb
          have := of_decide_eq_false hb
          simp only [Int.toNat_natCast] at this
          exact ⟨j, e, by omega⟩
theorem fit_all {ms : List Mb} {ls : List Int} {x : Int} (h : fitB ms x ls = true) {l : Int} (hl : l ∈ ls) : aboveB ms l x = true := by
  unfold fitB at h
  rw [List.all_eq_true] at h
  exact h l hl
/-- The best one's number: 0, or that of a node. -/
theorem bestI_ok {ms : List Mb} (h : treeR ms = 0) (ls : List Int) : (bestK ms ls ms.length = -1 ∧ bestI ms ls = 0) ∨ ∃ j : Nat, j < ms.length ∧ bestK ms ls ms.length = (j : Int) ∧ bestI ms ls = (ms.getD j Z3).1 ∧ nAt ms (bestI ms ls) = (j : Int) ∧ bestI ms ls ≠ 0 := by
  rcases bestK_lt ms ls ms.length with e | ⟨j, h1, e⟩
  · exact .inl ⟨e, by unfold bestI; rw [e]; rfl⟩
  · right
    have e2 : bestI ms ls = (ms.getD j Z3).1 := by unfold bestI; rw [e, if_neg (by omega)]; rfl
    have e3 := nAt_self h h1
    refine ⟨j, h1, e, e2, by rw [e2]; exact e3, fun q => ?_⟩
    rw [e2] at q
    rw [q, no_zero h] at e3
    omega
def highR (ms : List Mb) (ls : List Int) : Int := if bestI ms ls = 0 then 0 else htR ms (bestI ms ls)
theorem best_above {ms : List Mb} (h : treeR ms = 0) {ls : List Int} (h0 : bestI ms ls ≠ 0) {l : Int} (hl : l ∈ ls) : aboveB ms l (bestI ms ls) = true := by
  rcases bestI_ok h ls with ⟨_, e⟩ | ⟨j, h1, e, e2, _, _⟩
  · exact absurd e h0
  · rw [e2]
    exact fit_all ((bestK_fit ms ls ms.length).1 j e) hl
theorem best_high {ms : List Mb} (h : treeR ms = 0) {ls : List Int} {t : Nat} (ht : t < ms.length) (hf : fitB ms (ms.getD t Z3).1 ls = true) : (ms.getD t Z3).2.2 ≤ highR ms ls := by
  obtain ⟨j, e1, e2⟩ := (bestK_fit ms ls ms.length).2 t ht hf
  rcases bestI_ok h ls with ⟨e, _⟩ | ⟨j', h1, e, e3, e4, e5⟩
  · omega
  · have : j' = j := by omega
    subst this
    unfold highR
    rw [if_neg e5]
    unfold htR
    rw [e4]
    exact e2

/-- A node behind others changes nothing of who is above whom among them. -/
theorem nAt_more {ms : List Mb} {o : Mb} {x : Int} (hx : 0 ≤ nAt ms x) : nAt (ms ++ [o]) x = nAt ms x := nAt_snoc_old (by omega)
theorem ahead_more {ms : List Mb} {o : Mb} {x : Int} (hx : 0 ≤ nAt ms x) : aheadN (ms ++ [o]) x = aheadN ms x := by
  unfold aheadN
  rw [nAt_more hx]
  rcases nAt_lt ms x with e | ⟨j, h1, h2, _⟩
  · omega
  · rw [h2]
    simp [List.getD, List.getElem?_append_left h1]
theorem above_more {ms : List Mb} {o : Mb} (h : treeR ms = 0) (h2 : treeR (ms ++ [o]) = 0) (l : Int) : ∀ x, (x = 0 ∨ 0 ≤ nAt ms x) → aboveB (ms ++ [o]) l x = aboveB ms l x := by
  refine back_ind h ?_ ?_
  · rw [above_zero, above_zero]
  · intro a ha ih
    have ha2 : 0 ≤ nAt (ms ++ [o]) a := by rw [nAt_more ha]; exact ha
    rw [above_step h2 ha2, above_step h ha, ahead_more ha, ih]
theorem fit_more {ms : List Mb} {o : Mb} (h : treeR ms = 0) (h2 : treeR (ms ++ [o]) = 0) (ls : List Int) {x : Int} (hx : 0 ≤ nAt ms x) : fitB (ms ++ [o]) x ls = fitB ms x ls := by
  unfold fitB
  induction ls with
  | nil => rfl
  | cons l t ih => rw [List.all_cons, List.all_cons, ih, above_more h h2 l x (.inr hx)]
theorem getD_more {ms : List Mb} {o : Mb} {j : Nat} (hj : j < ms.length) : (ms ++ [o]).getD j Z3 = ms.getD j Z3 := by simp [List.getD, List.getElem?_append_left hj]
theorem bestK_more {ms : List Mb} {o : Mb} (h : treeR ms = 0) (h2 : treeR (ms ++ [o]) = 0) (ls : List Int) : ∀ k, k ≤ ms.length → bestK (ms ++ [o]) ls k = bestK ms ls k := by
  intro k
  induction k with
  | zero => intro _; rfl
  | succ k ih =>
    intro hk
    have hb : betB (ms ++ [o]) k (bestK ms ls k) = betB ms k (bestK ms ls k) := by
      unfold betB
      rw [getD_more (j := k) (by omega)]
      rcases bestK_lt ms ls k with e | ⟨j, h1, e⟩
      · rw [e]; rfl
      · have e9 : (ms ++ [o]).getD ((j : Int)).toNat Z3 = ms.getD ((j : Int)).toNat Z3 := getD_more (by simp only [Int.toNat_natCast]; omega)
        rw [e, e9]
    rw [bestK, bestK, ih (by omega), getD_more (j := k) (by omega), fit_more h h2 ls (by rw [nAt_self h (by omega)]; omega), hb]
/-- The one that is put behind the best one is the best one. -/
theorem best_more {ms : List Mb} {id : Int} {ls : List Int} (h : treeR ms = 0) (_ : foundB ms ls = true) (h2 : treeR (ms ++ [(id, bestI ms ls, highR ms ls + 1)]) = 0) (hok : ls = [] ∨ bestI ms ls ≠ 0) : bestI (ms ++ [(id, bestI ms ls, highR ms ls + 1)]) ls = id := by
  have hl : (ms ++ [(id, bestI ms ls, highR ms ls + 1)]).length = ms.length + 1 := by simp
  have hg : (ms ++ [(id, bestI ms ls, highR ms ls + 1)]).getD ms.length Z3 = (id, bestI ms ls, highR ms ls + 1) := by simp [List.getD]
  have hs := nAt_self h2 (j := ms.length) (by rw [hl]; omega)
  rw [hg] at hs
  have hfit : fitB (ms ++ [(id, bestI ms ls, highR ms ls + 1)]) id ls = true := by
    rcases hok with e | e
    · rw [e]; rfl
    · unfold fitB
      rw [List.all_eq_true]
      intro l hl2
      have ha : aheadN (ms ++ [(id, bestI ms ls, highR ms ls + 1)]) id = bestI ms ls := by unfold aheadN; rw [hs]; simp only [Int.toNat_natCast]; rw [hg]
      have hx : 0 ≤ nAt ms (bestI ms ls) := by
        rcases bestI_ok h ls with ⟨_, q⟩ | ⟨j, _, _, _, q, _⟩
        · exact absurd q e
        · omega
      rw [above_step h2 (by rw [hs]; omega), ha, above_more h h2 l _ (.inr hx), best_above h e hl2]
      split <;> rfl
  have hbet : betB (ms ++ [(id, bestI ms ls, highR ms ls + 1)]) ms.length (bestK ms ls ms.length) = true := by
    unfold betB
    rw [hg]
    rcases bestI_ok h ls with ⟨e, _⟩ | ⟨j, h1, e, e2, e4, e5⟩
    · rw [e]; rfl
    · rw [e, decide_eq_false (by omega), Bool.false_or]
      refine decide_eq_true ?_
      simp only [Int.toNat_natCast]
      rw [getD_more h1]
      unfold highR htR
      rw [if_neg e5, e4]
      simp only [Int.toNat_natCast]
      omega
  have hk : bestK (ms ++ [(id, bestI ms ls, highR ms ls + 1)]) ls (ms.length + 1) = (ms.length : Int) := by
    rw [bestK, bestK_more h h2 ls ms.length (Nat.le_refl _), hg]
    simp only
    rw [hfit, hbet]
    rfl
  have key : ∀ (L : List Mb) (z : Int), bestK L ls L.length = z → bestI L ls = if z < 0 then 0 else (L.getD z.toNat Z3).1 := fun L z e => by unfold bestI; rw [e]
  rw [key _ (ms.length : Int) (by rw [hl]; exact hk), if_neg (by omega)]
  simp only [Int.toNat_natCast]
  rw [hg]

end Go.Proofs.Ytinlhghlmfcbfaa
