/- Which node is above which: the specification's. -/
import Derived.Test.YtglpbkicmpmepaaLc
namespace Go.Proofs.Ytglpbkicmpmepaa
open Go.RowKit Go.Maps Go.WideMaps

theorem treeG_zero {rest : List Mb} : ∀ seen, treeG seen rest = 0 → ∀ j, j < rest.length → nodeR (seen ++ rest.take j) (rest.getD j Z3).1 (rest.getD j Z3).2.1 (rest.getD j Z3).2.2 = 0 := by
  induction rest with
  | nil => intro seen _ j hj; simp at hj
  | cons g t ih =>
    intro seen h j hj
    rw [treeG] at h
    by_cases e : nodeR seen g.1 g.2.1 g.2.2 ≠ 0
    · rw [if_pos e] at h; exact absurd h e
    · rw [if_neg e] at h
      cases j with
      | zero => simpa using e
      | succ j =>
        have := ih (seen ++ [g]) h j (by simp at hj; omega)
        simpa using this
theorem tree_node {ms : List Mb} (h : treeR ms = 0) {j : Nat} (hj : j < ms.length) : nodeR (ms.take j) (ms.getD j Z3).1 (ms.getD j Z3).2.1 (ms.getD j Z3).2.2 = 0 := by
  unfold treeR at h
  by_cases e : 60 < ms.length
  · rw [if_pos e] at h; cases h
  · rw [if_neg e] at h
    simpa using treeG_zero [] h j hj
theorem nIx_append {l r : List Mb} {id : Int} : ∀ k, nIx l id k ≠ -1 → nIx (l ++ r) id k = nIx l id k := by
  induction l with
  | nil => intro k h; exact absurd rfl h
  | cons g t ih =>
    intro k h
    by_cases e : g.1 = id
    · rw [List.cons_append, nIx, nIx, if_pos e, if_pos e]
    · rw [nIx, if_neg e] at h
      rw [List.cons_append, nIx, nIx, if_neg e, if_neg e]
      exact ih (k + 1) h
/-- In a tree without fault a node's Prev is none, or lies ahead of it. -/
theorem prev_lt {ms : List Mb} (h : treeR ms = 0) {j : Nat} (hj : j < ms.length) : (ms.getD j Z3).2.1 = 0 ∨ (0 ≤ nAt ms (ms.getD j Z3).2.1 ∧ nAt ms (ms.getD j Z3).2.1 < j) := by
  have hn := tree_node h hj
  by_cases e : (ms.getD j Z3).2.1 = 0
  · exact .inl e
  · right
    unfold nodeR at hn
    by_cases h1 : inB (ms.getD j Z3).1 1 60 = false ∨ inB (ms.getD j Z3).2.2 1 40 = false
    · rw [if_pos h1] at hn; cases hn
    · rw [if_neg h1] at hn
      by_cases h2 : 0 ≤ nAt (ms.take j) (ms.getD j Z3).1
      · rw [if_pos h2] at hn; cases hn
      · rw [if_neg h2] at hn
        by_cases h3 : (ms.getD j Z3).2.1 ≠ 0 ∧ nAt (ms.take j) (ms.getD j Z3).2.1 < 0
        · rw [if_pos h3] at hn; cases hn
        · have h4 : ¬ nAt (ms.take j) (ms.getD j Z3).2.1 < 0 := fun q => h3 ⟨e, q⟩
          rcases nAt_lt (ms.take j) (ms.getD j Z3).2.1 with q | ⟨i, q1, q2, _⟩
          · rw [q] at h4; omega
          · have q3 : nAt ms (ms.getD j Z3).2.1 = nAt (ms.take j) (ms.getD j Z3).2.1 := by
              have := nIx_append (l := ms.take j) (r := ms.drop j) (id := (ms.getD j Z3).2.1) 0 (by have q2' : nIx (ms.take j) (ms.getD j Z3).2.1 0 = (i : Int) := q2; rw [q2']; omega)
              rw [List.take_append_drop] at this
              exact this
            rw [q3, q2]
            rw [List.length_take] at q1
            omega
theorem no_zero {ms : List Mb} (h : treeR ms = 0) : nAt ms 0 = -1 := by
  rcases nAt_lt ms 0 with e | ⟨j, h1, _, h3⟩
  · exact e
  · have hn := tree_node h h1
    unfold nodeR at hn
    rw [h3, if_pos (.inl (by decide))] at hn
    cases hn

/-- Whether one comes from b to a by going to Prev. -/
def aboveF (ms : List Mb) (a : Int) : Nat → Int → Bool
  | 0, _ => false
  | f + 1, b => if b = 0 then false else if nAt ms b < 0 then false else if a = b then true else aboveF ms a f (ms.getD (nAt ms b).toNat Z3).2.1
def aboveB (ms : List Mb) (a b : Int) : Bool := aboveF ms a (ms.length + 1) b

set_option maxRecDepth 20000 in
set_option maxHeartbeats 2000000 in
theorem l9Above_any (n c : Nat) (ad : Option Addr) (ms : List Mb) (a b : Int) (w : World) (hn : n ≤ 1048576) (hz : treeR ms = 0) (hC : MAt w ad n ms) :
    Calls Try.prog 39 #[.slice ad n c, .int .i64 a, .int .i64 b] w fun e w' => e = .returned (.bool (aboveB ms a b)) ∧ w' = w := by
  have HC : Hid (MAt w ad n ms) := hC
  have HN : Hid (ms.length = n) := hC.1
  have HZ : Hid (treeR ms = 0) := hz
  obtain ⟨r, hr⟩ : ∃ r, r = aboveB ms a b := ⟨_, rfl⟩
  rw [← hr]
  have HR : Hid (r = aboveF ms a (ms.length + 1) b) := hr
  have HF0 : Hid (nAt ms b < ((ms.length + 1 : Nat) : Int)) := by
    show _ < _
    rcases nAt_lt ms b with e | ⟨j, h1, h2, _⟩ <;> omega
  clear hC hr hz
  go_enter Try.func39, Try.ntmps39
  go_wp2
  go_loop [2] (fun v => ∃ (b' : Int) (f : Nat), v = .int .i64 b' ∧ Hid (r = aboveF ms a f b') ∧ Hid (nAt ms b' < (f : Int))) (fun v => (nAt ms (intOf v) + 1).toNat)
  case atStart => exact ⟨b, _, rfl, HR, HF0⟩
  case round =>
    obtain ⟨b', f, rfl, HT, HF⟩ := hrel
    by_cases h0 : b' = 0
    · subst h0
      obtain rfl : r = false := by
        rw [HT.out]
        cases f with
        | zero => rfl
        | succ f => rw [aboveF, if_pos rfl]
      go_wp2
      go_ret
      exact ⟨rfl, rfl⟩
    have h0n : (b' != 0) = true := by simpa using h0
    obtain ⟨i, hi⟩ : ∃ x, x = nAt ms b' := ⟨_, rfl⟩
    have hA := l9At_any n c ad ms b' w hn HC.out
    rw [← hi] at hA
    by_cases hneg : i < 0
    · obtain rfl : r = false := by
        rw [HT.out]
        cases f with
        | zero => rfl
        | succ f => rw [aboveF, if_neg h0, if_pos (by rw [← hi]; exact hneg)]
      clear hi
      go_wp2_with (go_at_call 38; (with_reducible refine hA.mono ?_); clear hA; rintro e w' ⟨rfl, hw⟩; have hw2 := hw.symm; subst hw2)
      go_ret
      exact ⟨rfl, rfl⟩
    obtain ⟨f', rfl⟩ : ∃ f', f = f' + 1 := ⟨f - 1, by have := HF.out; rw [← hi] at this; omega⟩
    by_cases hab : a = b'
    · subst hab
      obtain rfl : r = true := by rw [HT.out, aboveF, if_neg h0, if_neg (by rw [← hi]; exact hneg), if_pos rfl]
      clear hi
      go_wp2_with (go_at_call 38; (with_reducible refine hA.mono ?_); clear hA; rintro e w' ⟨rfl, hw⟩; have hw2 := hw.symm; subst hw2)
      go_ret
      exact ⟨rfl, rfl⟩
    have habf : (a == b') = false := by simpa using hab
    obtain ⟨j, rfl⟩ := Int.eq_ofNat_of_zero_le (show 0 ≤ i by omega)
    have hjn : j < n := by
      rcases nAt_lt ms b' with e | ⟨q, h1, h2, _⟩
      · rw [← hi] at e; omega
      · rw [← hi] at h2; have := HN.out; omega
    obtain ⟨pv, hpv⟩ : ∃ x, x = (ms.getD j Z3).2.1 := ⟨_, rfl⟩
    have HT2 : Hid (r = aboveF ms a f' pv) := by show _ = _; rw [HT.out, aboveF, if_neg h0, if_neg (by rw [← hi]; exact hneg), if_neg hab, ← hi, hpv]; simp
    have hlt : nAt ms pv < (j : Int) := by
      rcases prev_lt HZ.out (show j < ms.length by rw [HN.out]; exact hjn) with e | ⟨_, e⟩
      · rw [hpv, e, no_zero HZ.out]; omega
      · rw [hpv]; exact e
    have HF2 : Hid (nAt ms pv < (f' : Int)) := by show _ < _; have := HF.out; rw [← hi] at this; omega
    have HM : Hid ((nAt ms pv + 1).toNat < (nAt ms b' + 1).toNat) := by show _ < _; rw [← hi]; rcases nAt_lt ms pv with e | ⟨q, _, e, _⟩ <;> omega
    rcases HC.out.2 with q0 | ⟨bb, off, e0, l0, d0⟩
    · omega
    subst e0
    have x1 := (d0 j hjn).2.1
    rw [← hpv] at x1
    have hki : (j : Int) < (n : Int) := by omega
    clear hi hpv d0 hlt HT HF
    go_wp2_with (go_at_call 38; (with_reducible refine hA.mono ?_); clear hA; rintro e w' ⟨rfl, hw⟩; have hw2 := hw.symm; subst hw2)
    go_round
    case rel => exact ⟨pv, f', rfl, HT2, HF2⟩
    case measure => exact HM.out

end Go.Proofs.Ytglpbkicmpmepaa
