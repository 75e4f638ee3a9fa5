/- The specification's and the program's SameMembers. -/
import Derived.Test.YtgfhnmjpkanikaaJn1
namespace Go.Proofs.Ytgfhnmjpkanikaa
open Go.RowKit Go.Maps

theorem not_sameM {l l' : List Mb} {k : Nat} {s t : Mb} (hs : s = l.getD k Z3) (ht : t = l'.getD k Z3) (h : ¬ s = t) : ¬ l = l' := by
  rintro rfl; exact h (hs.trans ht.symm)
theorem take_sameM {l l' : List Mb} {n k : Nat} {s : Mb} (hn : l.length = n) (hn' : l'.length = n) (hk : k < n) (h : l.take k = l'.take k) (hs : s = l.getD k Z3) (ht : s = l'.getD k Z3) : l.take (k + 1) = l'.take (k + 1) := by
  have e1 : l.getD k Z3 = l[k]'(by omega) := by simp [List.getD, List.getElem?_eq_getElem (show k < l.length by omega)]
  have e2 : l'.getD k Z3 = l'[k]'(by omega) := by simp [List.getD, List.getElem?_eq_getElem (show k < l'.length by omega)]
  rw [List.take_add_one, List.take_add_one, h, List.getElem?_eq_getElem (by omega), List.getElem?_eq_getElem (by omega), ← e1, ← e2, ← hs, ← ht]

set_option maxHeartbeats 1000000 in
theorem mEqual_any (a b : Option Addr) (n m c1 c2 : Nat) (l l' : List Mb) (w : World) (hl : n ≤ 1048576) (hl2 : m ≤ 1048576) (ha : MAt w a n l) (hb : MAt w b m l') :
    Calls Try.prog 31 #[.slice a n c1, .slice b m c2] w fun e w' => e = .returned (.bool (decide (l = l'))) ∧ Below w.heap.size w w' := by
  obtain ⟨r, hr⟩ : ∃ r, r = decide (l = l') := ⟨_, rfl⟩
  rw [← hr]
  have HR : Hid (r = decide (l = l')) := hr
  have HA : Hid (MAt w a n l) := ha
  have HB : Hid (MAt w b m l') := hb
  clear hr ha hb
  by_cases hnm : n = m
  · subst hnm
    go_enter Try.func31, Try.ntmps31
    go_wp2
    go_loopw [13] (fun i wr => ∃ k : Nat, k ≤ n ∧ i = .int .i64 k ∧ Below w.heap.size w wr ∧ Hid (l.take k = l'.take k)) (fun i _ => n - (intOf i).toNat)
    case atStart => exact ⟨0, Nat.zero_le _, rfl, Below.refl _ _, by show _ = _; simp⟩
    case round =>
      obtain ⟨k, hk, rfl, hbel, HT⟩ := hrel
      by_cases hlt : k < n
      · rcases HA.out.2 with h0 | ⟨b0, o0, e0, l0, d0⟩
        · omega
        subst e0
        rcases HB.out.2 with h0 | ⟨b1, o1, e1, l1, d1⟩
        · omega
        subst e1
        obtain ⟨s, hs⟩ : ∃ s, s = l.getD k Z3 := ⟨_, rfl⟩
        obtain ⟨t, ht⟩ : ∃ t, t = l'.getD k Z3 := ⟨_, rfl⟩
        have y0 := d0 k hlt
        have y1 := d1 k hlt
        rw [← hs] at y0
        rw [← ht] at y1
        obtain ⟨s1, s2, s3⟩ := s
        obtain ⟨t1, t2, t3⟩ := t
        have x0 := (hbel.cell (p := ⟨b0, o0 + k * 3, none⟩) l0).trans y0.1
        have x1 := (hbel.cell (p := ⟨b0, o0 + k * 3 + 1, none⟩) l0).trans y0.2.1
        have x2 := (hbel.cell (p := ⟨b0, o0 + k * 3 + 2, none⟩) l0).trans y0.2.2
        have x3 := (hbel.cell (p := ⟨b1, o1 + k * 3, none⟩) l1).trans y1.1
        have x4 := (hbel.cell (p := ⟨b1, o1 + k * 3 + 1, none⟩) l1).trans y1.2.1
        have x5 := (hbel.cell (p := ⟨b1, o1 + k * 3 + 2, none⟩) l1).trans y1.2.2
        simp only at x0 x1 x2 x3 x4 x5
        have HS : Hid ((s1, s2, s3) = l.getD k Z3) := hs
        have HTT : Hid ((t1, t2, t3) = l'.getD k Z3) := ht
        clear hs ht d0 d1 y0 y1
        have hki : (k : Int) < (n : Int) := by omega
        by_cases hst : s1 = t1 ∧ s2 = t2 ∧ s3 = t3
        · obtain ⟨rfl, rfl, rfl⟩ := hst
          go_wp2
          go_quiet (fail)
          go_wp2
          go_roundw
          case rel => exact ⟨k + 1, by omega, by go_num, hbel.trans (Joins.below_draws _ _ _), take_sameM HA.out.1 HB.out.1 hlt HT.out HS.out HTT.out⟩
          case measure => simp [intOf]; omega
        · obtain rfl : r = false := by rw [HR.out]; exact decide_eq_false (not_sameM HS.out HTT.out (fun e => hst (by cases e; exact ⟨rfl, rfl, rfl⟩)))
          by_cases h1 : s1 = t1
          · have e1 : (s1 == t1) = true := by simpa using h1
            by_cases h2 : s2 = t2
            · have e2 : (s2 == t2) = true := by simpa using h2
              have e3 : (s3 == t3) = false := by simpa using fun h3 => hst ⟨h1, h2, h3⟩
              clear h1 h2 hst
              go_wp2
              go_quiet (fail)
              go_wp2
              go_ret
              exact ⟨rfl, hbel.trans (Joins.below_draws _ _ _)⟩
            · have e2 : (s2 == t2) = false := by simpa using h2
              clear h1 h2 hst
              go_wp2
              go_quiet (fail)
              go_wp2
              go_ret
              exact ⟨rfl, hbel.trans (Joins.below_draws _ _ _)⟩
          · have e1 : (s1 == t1) = false := by simpa using h1
            clear h1 hst
            go_wp2
            go_quiet (fail)
            go_wp2
            go_ret
            exact ⟨rfl, hbel.trans (Joins.below_draws _ _ _)⟩
      · obtain rfl : k = n := by omega
        obtain rfl : r = true := by
          rw [HR.out]
          have := HT.out
          rw [List.take_of_length_le (by rw [HA.out.1]; omega), List.take_of_length_le (by rw [HB.out.1]; omega)] at this
          exact decide_eq_true this
        go_wp2
        go_ret
        exact ⟨rfl, hbel⟩
  · obtain rfl : r = false := by rw [HR.out]; exact decide_eq_false (fun e => hnm (by rw [← HA.out.1, ← HB.out.1, e]))
    have hne : ¬ (n : Int) = (m : Int) := by omega
    go_enter Try.func31, Try.ntmps31
    go_wp2
    go_ret
    exact ⟨rfl, Below.refl _ _⟩

theorem iSameMembers_any (a b : Option Addr) (n m c1 c2 : Nat) (l l' : List Mb) (w : World) (hl : n ≤ 1048576) (hl2 : m ≤ 1048576) (ha : MAt w a n l) (hb : MAt w b m l') :
    Calls Try.prog 11 #[.slice a n c1, .slice b m c2] w fun e w' => e = .returned (.bool (decide (l = l'))) ∧ Below w.heap.size w w' := by
  have hc := mEqual_any a b n m c1 c2 l l' w hl hl2 ha hb
  obtain ⟨r, hr⟩ : ∃ r, r = decide (l = l') := ⟨_, rfl⟩
  rw [← hr] at hc ⊢
  clear hr ha hb
  go_enter Try.func11, Try.ntmps11
  go_wp2_with (first | (go_at_call 31; (with_reducible refine hc.mono ?_); clear hc; rintro e w2 ⟨rfl, hb2⟩))
  go_ret
  exact ⟨rfl, hb2⟩

end Go.Proofs.Ytgfhnmjpkanikaa
