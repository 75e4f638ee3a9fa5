/- The fault of a tree: the specification's. -/
import Derived.Test.YtglpbkicmpmepaaEh
import Derived.Test.YtglpbkicmpmepaaLa
namespace Go.Proofs.Ytglpbkicmpmepaa
open Go.RowKit Go.Maps Go.WideMaps

/-- The place of a node from place k on; -1: there is none. -/
def nIx : List Mb → Int → Nat → Int
  | [], _, _ => -1
  | g :: t, id, k => if g.1 = id then (k : Int) else nIx t id (k + 1)
def nAt (ms : List Mb) (id : Int) : Int := nIx ms id 0
theorem nIx_none {ms : List Mb} {id : Int} : ∀ k, (∀ t, t < ms.length → (ms.getD t Z3).1 ≠ id) → nIx ms id k = -1 := by
  induction ms with
  | nil => intro k _; rfl
  | cons g t ih =>
    intro k h
    have h0 : g.1 ≠ id := by simpa using h 0 (by simp)
    rw [nIx, if_neg h0]
    exact ih (k + 1) (fun j hj => by have := h (j + 1) (by simp; omega); simpa using this)
theorem nIx_some {ms : List Mb} {id : Int} : ∀ k j, j < ms.length → (∀ t, t < j → (ms.getD t Z3).1 ≠ id) → (ms.getD j Z3).1 = id → nIx ms id k = (k : Int) + j := by
  induction ms with
  | nil => intro k j hj; simp at hj
  | cons g t ih =>
    intro k j hj h he
    cases j with
    | zero =>
      have h0 : g.1 = id := by simpa using he
      rw [nIx, if_pos h0]
      simp
    | succ j =>
      have h0 : g.1 ≠ id := by simpa using h 0 (by omega)
      rw [nIx, if_neg h0, ih (k + 1) j (by simp at hj; omega) (fun a ha => by have := h (a + 1) (by omega); simpa using this) (by simpa using he)]
      omega
theorem nAt_of {ms : List Mb} {n : Nat} {id i : Int} (hn : ms.length = n) (h : AtK ms n id i) : i = nAt ms id := by
  rcases h with ⟨rfl, h⟩ | ⟨j, hj, rfl, h1, h2⟩
  · exact (nIx_none 0 (by rw [hn]; exact h)).symm
  · have := nIx_some (ms := ms) 0 j (by omega) h1 h2
    unfold nAt
    rw [this]
    simp
theorem nIx_lt (ms : List Mb) (id : Int) : ∀ k, nIx ms id k = -1 ∨ (∃ j, j < ms.length ∧ nIx ms id k = (k : Int) + j ∧ (ms.getD j Z3).1 = id) := by
  induction ms with
  | nil => intro k; exact .inl rfl
  | cons g t ih =>
    intro k
    by_cases h : g.1 = id
    · exact .inr ⟨0, by simp, by rw [nIx, if_pos h]; simp, by simpa using h⟩
    · rw [nIx, if_neg h]
      rcases ih (k + 1) with h1 | ⟨j, h1, h2, h3⟩
      · exact .inl h1
      · exact .inr ⟨j + 1, by simp; omega, by rw [h2]; omega, by simpa using h3⟩
theorem nAt_lt (ms : List Mb) (id : Int) : nAt ms id = -1 ∨ (∃ j : Nat, j < ms.length ∧ nAt ms id = (j : Int) ∧ (ms.getD j Z3).1 = id) := by
  rcases nIx_lt ms id 0 with h | ⟨j, h1, h2, h3⟩
  · exact .inl h
  · exact .inr ⟨j, h1, by unfold nAt; rw [h2]; simp, h3⟩

/-- What is wrong with a node behind others. -/
def aboveR (ms : List Mb) (pv : Int) : Int := if pv = 0 then 0 else (ms.getD (nAt ms pv).toNat Z3).2.2
def nodeR (ms : List Mb) (id pv h : Int) : Int :=
  if inB id 1 60 = false ∨ inB h 1 40 = false then 3 else if 0 ≤ nAt ms id then 7 else if pv ≠ 0 ∧ nAt ms pv < 0 then 4 else if h ≠ aboveR ms pv + 1 then 1 else 0
def treeG (seen : List Mb) : List Mb → Int
  | [] => 0
  | g :: t => if nodeR seen g.1 g.2.1 g.2.2 ≠ 0 then nodeR seen g.1 g.2.1 g.2.2 else treeG (seen ++ [g]) t
def treeR (ms : List Mb) : Int := if 60 < ms.length then 2 else treeG [] ms

set_option maxHeartbeats 400000 in
theorem l9AtK_any (n c : Nat) (a : Option Addr) (ms : List Mb) (key : Int) (w : World) (hn : n ≤ 1048576) (hC : MAt w a n ms) :
    Calls Try.prog 38 #[.slice a n c, .int .i64 key] w fun e w' => ∃ i : Int, e = .returned (.int .i64 i) ∧ Hid (AtK ms n key i) ∧ w' = w := by
  have HC : Hid (MAt w a n ms) := hC
  have HN : Hid (ms.length = n) := hC.1
  clear hC
  go_enter Try.func38, Try.ntmps38
  go_wp2
  go_loop [5] (fun i => ∃ j : Nat, j ≤ n ∧ i = .int .i64 j ∧ Hid (∀ t, t < j → (ms.getD t Z3).1 ≠ key)) (fun i => n - (intOf i).toNat)
  case atStart => exact ⟨0, Nat.zero_le _, rfl, fun t ht => by omega⟩
  case round =>
    obtain ⟨j, hj, rfl, HH⟩ := hrel
    by_cases hlt : j < n
    · rcases HC.out.2 with h0 | ⟨b, off, e0, l0, d0⟩
      · omega
      subst e0
      obtain ⟨ok, hok⟩ : ∃ o, o = (ms.getD j Z3).1 := ⟨_, rfl⟩
      have x0 := (d0 j hlt).1
      rw [← hok] at x0
      have HO : Hid (ok = (ms.getD j Z3).1) := hok
      have hki : (j : Int) < (n : Int) := by omega
      clear d0 hok
      by_cases he : ok = key
      · have HX : Hid (AtK ms n key (j : Int)) := .inr ⟨j, hlt, rfl, HH.out, by rw [← HO.out]; exact he⟩
        go_wp2
        go_ret
        exact ⟨_, rfl, HX, rfl⟩
      · have HX : Hid (∀ t, t < j + 1 → (ms.getD t Z3).1 ≠ key) := fun t ht => by
          rcases Nat.lt_or_ge t j with h1 | h1
          · exact HH.out t h1
          · obtain rfl : t = j := by omega
            rw [← HO.out]; exact he
        go_wp2
        go_round
        case rel => exact ⟨j + 1, by omega, by go_num, HX⟩
        case measure => simp [intOf]; omega
    · have HX : Hid (AtK ms n key (-1)) := .inl ⟨rfl, fun t ht => HH.out t (by omega)⟩
      go_wp2
      go_ret
      exact ⟨_, rfl, HX, rfl⟩
theorem l9At_any (n c : Nat) (a : Option Addr) (ms : List Mb) (id : Int) (w : World) (hn : n ≤ 1048576) (hC : MAt w a n ms) :
    Calls Try.prog 38 #[.slice a n c, .int .i64 id] w fun e w' => e = .returned (.int .i64 (nAt ms id)) ∧ w' = w :=
  (l9AtK_any n c a ms id w hn hC).mono fun e w' ⟨i, e1, e2, e3⟩ => ⟨by rw [e1, nAt_of hC.1 e2.out], e3⟩

theorem nodeR_range {ms : List Mb} {id pv h : Int} (e : inB id 1 60 = false ∨ inB h 1 40 = false) : nodeR ms id pv h = 3 := by unfold nodeR; rw [if_pos e]
theorem nodeR_taken {ms : List Mb} {id pv h : Int} (e1 : inB id 1 60 = true) (e2 : inB h 1 40 = true) (e : 0 ≤ nAt ms id) : nodeR ms id pv h = 7 := by unfold nodeR; rw [if_neg (by simp [e1, e2]), if_pos e]
theorem nodeR_none {ms : List Mb} {id pv h : Int} (e1 : inB id 1 60 = true) (e2 : inB h 1 40 = true) (e3 : ¬ 0 ≤ nAt ms id) (e : pv ≠ 0 ∧ nAt ms pv < 0) : nodeR ms id pv h = 4 := by unfold nodeR; rw [if_neg (by simp [e1, e2]), if_neg e3, if_pos e]
theorem nodeR_end {ms : List Mb} {id pv h : Int} (e1 : inB id 1 60 = true) (e2 : inB h 1 40 = true) (e3 : ¬ 0 ≤ nAt ms id) (e : ¬ (pv ≠ 0 ∧ nAt ms pv < 0)) : nodeR ms id pv h = if h ≠ aboveR ms pv + 1 then 1 else 0 := by unfold nodeR; rw [if_neg (by simp [e1, e2]), if_neg e3, if_neg e]

/-- The heights of the nodes are small: so that one more is no overflow. -/
def HtOk (ms : List Mb) : Prop := ∀ g ∈ ms, 0 ≤ g.2.2 ∧ g.2.2 ≤ 40

set_option maxRecDepth 20000 in
set_option maxHeartbeats 2000000 in
theorem l9Node_any (n c : Nat) (a : Option Addr) (ms : List Mb) (id pv h : Int) (w : World) (hn : n ≤ 1048576) (hok : HtOk ms) (hC : MAt w a n ms) :
    Calls Try.prog 32 #[.slice a n c, .agg #[.int .i64 id, .int .i64 pv, .int .i64 h]] w fun e w' => e = .returned (.int .i64 (nodeR ms id pv h)) ∧ Below w.heap.size w w' := by
  have hbx : Below w.heap.size w (w.alloc (.cells #[.int .i64 id, .int .i64 pv, .int .i64 h] 53)) := below_box _
  have HBX : Hid (Below w.heap.size w (w.alloc (.cells #[.int .i64 id, .int .i64 pv, .int .i64 h] 53))) := hbx
  have hC1 := hC.below hbx (Nat.le_refl _)
  obtain ⟨kb, hkb⟩ : ∃ b, b = inB id 1 60 := ⟨_, rfl⟩
  obtain ⟨fb, hfb⟩ : ∃ b, b = inB h 1 40 := ⟨_, rfl⟩
  have hin : ∀ u, Calls Try.prog 34 #[.int .i64 id, .int .i64 1, .int .i64 60] u fun e w' => e = .returned (.bool kb) ∧ w' = u := fun u => by rw [hkb]; exact l1In_any _ _ _ u
  have hif : ∀ u, Calls Try.prog 34 #[.int .i64 h, .int .i64 1, .int .i64 40] u fun e w' => e = .returned (.bool fb) ∧ w' = u := fun u => by rw [hfb]; exact l1In_any _ _ _ u
  obtain ⟨i1, hi1⟩ : ∃ x, x = nAt ms id := ⟨_, rfl⟩
  obtain ⟨i2, hi2⟩ : ∃ x, x = nAt ms pv := ⟨_, rfl⟩
  have ha1 := l9At_any n c a ms id _ hn hC1
  have ha2 := l9At_any n c a ms pv _ hn hC1
  rw [← hi1] at ha1
  rw [← hi2] at ha2
  have HML : Hid (ms.length = n) := hC.1
  cases kb
  · rw [nodeR_range (.inl hkb.symm)]
    clear ha1 ha2 hi1 hi2 hkb hfb hC hC1 hbx
    go_enter Try.func32, Try.ntmps32
    go_wp2_with (go_at_call 34; (with_reducible refine (hin _).mono ?_); rintro e w' ⟨rfl, hw⟩; have hw2 := hw.symm; subst hw2)
    go_ret
    exact ⟨rfl, HBX.out⟩
  cases fb
  · rw [nodeR_range (.inr hfb.symm)]
    clear ha1 ha2 hi1 hi2 hkb hfb hC hC1 hbx
    go_enter Try.func32, Try.ntmps32
    go_wp2_with (go_at_call 34; first | ((with_reducible refine (hin _).mono ?_); rintro e w' ⟨rfl, hw⟩; have hw2 := hw.symm; subst hw2) | ((with_reducible refine (hif _).mono ?_); rintro e w' ⟨rfl, hw⟩; have hw2 := hw.symm; subst hw2))
    go_ret
    exact ⟨rfl, HBX.out⟩
  by_cases ht : 0 ≤ i1
  · rw [nodeR_taken hkb.symm hfb.symm (by rw [← hi1]; exact ht)]
    clear ha2 hi1 hi2 hkb hfb hC hC1 hbx
    go_enter Try.func32, Try.ntmps32
    go_wp2_with (first
      | (go_at_call 34; first | ((with_reducible refine (hin _).mono ?_); rintro e w' ⟨rfl, hw⟩; have hw2 := hw.symm; subst hw2) | ((with_reducible refine (hif _).mono ?_); rintro e w' ⟨rfl, hw⟩; have hw2 := hw.symm; subst hw2))
      | (go_at_call 38; (with_reducible refine ha1.mono ?_); clear ha1; rintro e w' ⟨rfl, hw⟩; have hw2 := hw.symm; subst hw2))
    go_ret
    exact ⟨rfl, HBX.out⟩
  have htd : decide (0 ≤ i1) = false := decide_eq_false ht
  by_cases hp : pv = 0
  · subst hp
    have hb0 : aboveR ms 0 = 0 := by unfold aboveR; rw [if_pos rfl]
    rw [nodeR_end hkb.symm hfb.symm (by rw [← hi1]; exact ht) (by simp), hb0]
    clear ha2 hi1 hi2 hkb hfb hC hC1 hbx hb0
    by_cases hh : h = 1
    · subst hh
      go_enter Try.func32, Try.ntmps32
      go_wp2_with (first
        | (go_at_call 34; first | ((with_reducible refine (hin _).mono ?_); rintro e w' ⟨rfl, hw⟩; have hw2 := hw.symm; subst hw2) | ((with_reducible refine (hif _).mono ?_); rintro e w' ⟨rfl, hw⟩; have hw2 := hw.symm; subst hw2))
        | (go_at_call 38; (with_reducible refine ha1.mono ?_); clear ha1; rintro e w' ⟨rfl, hw⟩; have hw2 := hw.symm; subst hw2))
      go_ret
      exact ⟨rfl, HBX.out⟩
    · have hne : (h != 1) = true := by simpa using hh
      rw [if_pos (by simpa using hh)]
      go_enter Try.func32, Try.ntmps32
      go_wp2_with (first
        | (go_at_call 34; first | ((with_reducible refine (hin _).mono ?_); rintro e w' ⟨rfl, hw⟩; have hw2 := hw.symm; subst hw2) | ((with_reducible refine (hif _).mono ?_); rintro e w' ⟨rfl, hw⟩; have hw2 := hw.symm; subst hw2))
        | (go_at_call 38; (with_reducible refine ha1.mono ?_); clear ha1; rintro e w' ⟨rfl, hw⟩; have hw2 := hw.symm; subst hw2))
      go_ret
      exact ⟨rfl, HBX.out⟩
  have hpn : (pv != 0) = true := by simpa using hp
  by_cases hq : i2 < 0
  · rw [nodeR_none hkb.symm hfb.symm (by rw [← hi1]; exact ht) ⟨hp, by rw [← hi2]; exact hq⟩]
    clear hi1 hi2 hkb hfb hC hC1 hbx
    go_enter Try.func32, Try.ntmps32
    go_wp2_with (first
      | (go_at_call 34; first | ((with_reducible refine (hin _).mono ?_); rintro e w' ⟨rfl, hw⟩; have hw2 := hw.symm; subst hw2) | ((with_reducible refine (hif _).mono ?_); rintro e w' ⟨rfl, hw⟩; have hw2 := hw.symm; subst hw2))
      | (go_at_call 38; first | ((have hq1 := ha1); clear ha1; (with_reducible refine hq1.mono ?_); clear hq1; rintro e w' ⟨rfl, hw⟩; have hw2 := hw.symm; subst hw2) | ((with_reducible refine ha2.mono ?_); clear ha2; rintro e w' ⟨rfl, hw⟩; have hw2 := hw.symm; subst hw2)))
    go_ret
    exact ⟨rfl, HBX.out⟩
  obtain ⟨j, hj1, hj2⟩ : ∃ j : Nat, j < n ∧ i2 = (j : Int) := by
    rcases nAt_lt ms pv with e | ⟨j, e1, e2, _⟩
    · rw [← hi2] at e; omega
    · exact ⟨j, by rw [← HML.out]; exact e1, by rw [hi2, e2]⟩
  obtain ⟨ab, hab⟩ : ∃ x, x = (ms.getD j Z3).2.2 := ⟨_, rfl⟩
  have hbr : aboveR ms pv = ab := by unfold aboveR; rw [if_neg hp, ← hi2, hj2, hab]; simp
  have hbo : 0 ≤ ab ∧ ab ≤ 40 := by
    have e : ms.getD j Z3 = ms[j]'(by rw [HML.out]; exact hj1) := by simp [List.getD, List.getElem?_eq_getElem (show j < ms.length by rw [HML.out]; exact hj1)]
    rw [hab, e]; exact hok _ (List.getElem_mem _)
  rw [nodeR_end hkb.symm hfb.symm (by rw [← hi1]; exact ht) (by rw [← hi2]; simp; omega), hbr]
  rcases hC1.2 with h0 | ⟨b, off, e0, l0, d0⟩
  · omega
  subst e0
  have x2 := (d0 j hj1).2.2
  rw [← hab] at x2
  subst hj2
  have hki : (j : Int) < (n : Int) := by omega
  have hwr := IntWalk.i64_in (ab + 1) (by omega)
  clear hi1 hi2 hkb hfb hC hC1 hbx d0 hab hbr
  by_cases hh : h = ab + 1
  · subst hh
    rw [if_neg (by simp)]
    go_enter Try.func32, Try.ntmps32
    go_wp2_with (first
      | (go_at_call 34; first | ((with_reducible refine (hin _).mono ?_); rintro e w' ⟨rfl, hw⟩; have hw2 := hw.symm; subst hw2) | ((with_reducible refine (hif _).mono ?_); rintro e w' ⟨rfl, hw⟩; have hw2 := hw.symm; subst hw2))
      | (go_at_call 38; first | ((have hq1 := ha1); clear ha1; (with_reducible refine hq1.mono ?_); clear hq1; rintro e w' ⟨rfl, hw⟩; have hw2 := hw.symm; subst hw2) | ((with_reducible refine ha2.mono ?_); clear ha2; rintro e w' ⟨rfl, hw⟩; have hw2 := hw.symm; subst hw2)))
    go_ret
    exact ⟨rfl, HBX.out⟩
  · have hne : (h != ab + 1) = true := by simpa using hh
    rw [if_pos hh]
    go_enter Try.func32, Try.ntmps32
    go_wp2_with (first
      | (go_at_call 34; first | ((with_reducible refine (hin _).mono ?_); rintro e w' ⟨rfl, hw⟩; have hw2 := hw.symm; subst hw2) | ((with_reducible refine (hif _).mono ?_); rintro e w' ⟨rfl, hw⟩; have hw2 := hw.symm; subst hw2))
      | (go_at_call 38; first | ((have hq1 := ha1); clear ha1; (with_reducible refine hq1.mono ?_); clear hq1; rintro e w' ⟨rfl, hw⟩; have hw2 := hw.symm; subst hw2) | ((with_reducible refine ha2.mono ?_); clear ha2; rintro e w' ⟨rfl, hw⟩; have hw2 := hw.symm; subst hw2)))
    go_ret
    exact ⟨rfl, HBX.out⟩

end Go.Proofs.Ytglpbkicmpmepaa
