/- The best node, as data: what goes with all locks; a lock that is related and not higher is above. -/
import Derived.Test.YtinlhghlmfcbfaaLe
import Derived.Test.YtinlhghlmfcbfaaNh
namespace Go.Proofs.Ytinlhghlmfcbfaa
open Go.RowKit Go.Maps Go.WideMaps

def htR (ms : List Mb) (id : Int) : Int := (ms.getD (nAt ms id).toNat Z3).2.2
theorem nAt_self {ms : List Mb} (h : treeR ms = 0) {j : Nat} (hj : j < ms.length) : nAt ms (ms.getD j Z3).1 = (j : Int) := by
  rcases nAt_lt ms (ms.getD j Z3).1 with e | ⟨i, h1, h2, h3⟩
  · exfalso
    have hn := tree_node h hj
    obtain ⟨_, q, _⟩ := node_ok hn
    have e2 : ms = ms.take (j + 1) ++ ms.drop (j + 1) := (List.take_append_drop _ _).symm
    have e3 : ms.take (j + 1) = ms.take j ++ [ms.getD j Z3] := (next_nd rfl hj rfl).2
    have e4 := nAt_snoc_none (o := ms.getD j Z3) q
    rw [if_pos rfl, ← e3] at e4
    have e5 : nAt (ms.take (j + 1) ++ ms.drop (j + 1)) (ms.getD j Z3).1 = nAt (ms.take (j + 1)) (ms.getD j Z3).1 := nIx_append 0 (by have e6 : nIx (ms.take (j + 1)) (ms.getD j Z3).1 0 = _ := e4; rw [e6]; omega)
    rw [List.take_append_drop] at e5
    rw [e5, e4] at e
    omega
  · have hn := tree_node h hj
    obtain ⟨_, q, _⟩ := node_ok hn
    have e3 : ms.take (j + 1) = ms.take j ++ [ms.getD j Z3] := (next_nd rfl hj rfl).2
    have e4 := nAt_snoc_none (o := ms.getD j Z3) q
    rw [if_pos rfl, ← e3] at e4
    have e5 : nAt (ms.take (j + 1) ++ ms.drop (j + 1)) (ms.getD j Z3).1 = nAt (ms.take (j + 1)) (ms.getD j Z3).1 := nIx_append 0 (by have e6 : nIx (ms.take (j + 1)) (ms.getD j Z3).1 0 = _ := e4; rw [e6]; omega)
    rw [List.take_append_drop] at e5
    rw [e5, e4, List.length_take]
    omega
theorem ht_prev {ms : List Mb} (h : treeR ms = 0) {j : Nat} (hj : j < ms.length) (hp : 0 ≤ nAt ms (ms.getD j Z3).2.1) : (ms.getD j Z3).2.2 = htR ms (ms.getD j Z3).2.1 + 1 := by
  have hn := tree_node h hj
  have hp0 : (ms.getD j Z3).2.1 ≠ 0 := fun q => by rw [q, no_zero h] at hp; omega
  have hlt : nAt ms (ms.getD j Z3).2.1 < (j : Int) := by
    rcases prev_lt h hj with e | ⟨_, e⟩
    · exact absurd e hp0
    · exact e
  have hp2 := (node_ok hn).2.2.resolve_left hp0
  unfold nodeR at hn
  have hno := node_ok (tree_node h hj)
  have h40 := nodeR_ht (tree_node h hj)
  rw [if_neg (fun q => by rcases q with q | q; (rw [hno.1] at q; cases q); (rw [inB_true.2 h40] at q; cases q)), if_neg (by rw [hno.2.1]; omega), if_neg (by omega)] at hn
  have he : (ms.getD j Z3).2.2 = aboveR (ms.take j) (ms.getD j Z3).2.1 + 1 := by
    by_cases q : (ms.getD j Z3).2.2 ≠ aboveR (ms.take j) (ms.getD j Z3).2.1 + 1
    · rw [if_pos q] at hn; cases hn
    · exact Decidable.not_not.1 q
  rw [he]
  unfold aboveR htR
  rw [if_neg hp0]
  rcases nAt_lt (ms.take j) (ms.getD j Z3).2.1 with e | ⟨i, q1, q2, _⟩
  · omega
  · have e5 : nAt (ms.take j ++ ms.drop j) (ms.getD j Z3).2.1 = nAt (ms.take j) (ms.getD j Z3).2.1 := nIx_append 0 (by have e6 : nIx (ms.take j) (ms.getD j Z3).2.1 0 = _ := q2; rw [e6]; omega)
    rw [List.take_append_drop] at e5
    rw [e5, q2]
    simp only [Int.toNat_natCast]
    rw [List.length_take] at q1
    have e7 : (ms.take j).getD i Z3 = ms.getD i Z3 := by
      simp only [List.getD]
      rw [List.getElem?_take_of_lt (by omega)]
    rw [e7]
theorem above_ht {ms : List Mb} (h : treeR ms = 0) (a : Int) : ∀ f b, aboveF ms a f b = true → 0 ≤ nAt ms b ∧ 0 ≤ nAt ms a ∧ (a = b ∨ htR ms a < htR ms b) := by
  intro f
  induction f with
  | zero => intro b e; cases e
  | succ f ih =>
    intro b e
    rw [aboveF] at e
    by_cases h0 : b = 0
    · rw [if_pos h0] at e; cases e
    · rw [if_neg h0] at e
      by_cases h1 : nAt ms b < 0
      · rw [if_pos h1] at e; cases e
      · rw [if_neg h1] at e
        by_cases h2 : a = b
        · exact ⟨by omega, by rw [h2]; omega, .inl h2⟩
        · rw [if_neg h2] at e
          rcases nAt_lt ms b with q | ⟨j, q1, q2, _⟩
          · omega
          · rw [q2] at e
            simp only [Int.toNat_natCast] at e
            obtain ⟨r1, r2, r3⟩ := ih _ e
            have hh := ht_prev h q1 r1
            refine ⟨by omega, r2, .inr ?_⟩
            have eb : htR ms b = (ms.getD j Z3).2.2 := by unfold htR; rw [q2]; rfl
            rw [eb, hh]
            rcases r3 with r3 | r3
            · rw [r3]; omega
            · omega
theorem above_self {ms : List Mb} {a : Int} (h : 0 ≤ nAt ms a) (h0 : a ≠ 0) : aboveB ms a a = true := by
  unfold aboveB
  rw [aboveF, if_neg h0, if_neg (by omega), if_pos rfl]
/-- Related and not lower: then the lock is above. -/
theorem fit_above {ms : List Mb} (h : treeR ms = 0) {x l : Int} (hx : 0 ≤ nAt ms x) (hl : 0 ≤ nAt ms l) : (relB ms x l && !decide (htR ms x < htR ms l)) = aboveB ms l x := by
  have hx0 : x ≠ 0 := fun q => by rw [q, no_zero h] at hx; omega
  unfold relB
  by_cases h1 : aboveB ms l x = true
  · obtain ⟨_, _, h3⟩ := above_ht h l _ _ h1
    have : ¬ htR ms x < htR ms l := by
      rcases h3 with e | e
      · rw [e]; omega
      · omega
    simp [h1, this]
  · have h1f : aboveB ms l x = false := by simpa using h1
    rw [h1f]
    by_cases h2 : aboveB ms x l = true
    · obtain ⟨_, _, h3⟩ := above_ht h x _ _ h2
      rcases h3 with e | e
      · rw [e] at h1
        exact absurd (above_self hl (by rw [← e]; exact hx0)) h1
      · simp [h2, e]
    · have h2f : aboveB ms x l = false := by simpa using h2
      simp [h2f]

/-- Whether a node goes with all locks. -/
def fitB (ms : List Mb) (x : Int) (ls : List Int) : Bool := ls.all fun l => aboveB ms l x
def betB (ms : List Mb) (k : Nat) (q : Int) : Bool := decide (q < 0) || decide ((ms.getD q.toNat Z3).2.2 < (ms.getD k Z3).2.2)
/-- The place of the best of the first k nodes; -1: there is none. -/
def bestK (ms : List Mb) (ls : List Int) : Nat → Int
  | 0 => -1
  | k + 1 => if (fitB ms (ms.getD k Z3).1 ls && betB ms k (bestK ms ls k)) = true then (k : Int) else bestK ms ls k
theorem bestK_lt (ms : List Mb) (ls : List Int) : ∀ k, bestK ms ls k = -1 ∨ ∃ j : Nat, j < k ∧ bestK ms ls k = (j : Int) := by
  intro k
  induction k with
  | zero => exact .inl rfl
  | succ k ih =>
    rw [bestK]
    split
    · exact .inr ⟨k, by omega, rfl⟩
    · rcases ih with e | ⟨j, h1, h2⟩
      · exact .inl e
      · exact .inr ⟨j, by omega, h2⟩
def bestI (ms : List Mb) (ls : List Int) : Int := if bestK ms ls ms.length < 0 then 0 else (ms.getD (bestK ms ls ms.length).toNat Z3).1
def bestR (ms : List Mb) (ls : List Int) : Int × Int := if treeR ms ≠ 0 then (treeR ms, 0) else if 20 < ls.length then (2, 0) else if foundB ms ls = false then (4, 0) else (0, bestI ms ls)

end Go.Proofs.Ytinlhghlmfcbfaa
