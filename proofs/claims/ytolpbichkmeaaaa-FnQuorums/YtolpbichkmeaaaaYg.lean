/- A quorum that is chosen, as data: of those that there are, so many, the same whatever the order; who is not chosen has no lesser rank. -/
import Derived.Test.YtolpbichkmeaaaaYf
import Derived.Test.YtolpbichkmeaaaaXn
import Derived.Test.YtolpbichkmeaaaaXd
namespace Go.Proofs.Ytolpbichkmeaaaa
open Go.RowKit Go.Maps Go.WideMaps

theorem lwBigQ_any (cn cc : Nat) (ca : Option Addr) (w : World) : Calls Try.prog 5 #[.slice ca cn cc] w fun e w' => e = .returned (.bool (decide ((1048576 : Int) < (cn : Int)))) ∧ w' = w := by
  go_enter Try.func5, Try.ntmps5
  go_wp2
  go_ret
  exact ⟨rfl, rfl⟩
theorem lwHasQ_any (a : Option Addr) (n cap : Nat) (l : List Int) (v : Int) (w : World) (hl : n ≤ maxLen) (hs : IAt w a n l) :
    Calls Try.prog 9 #[.slice a n cap, .int .i64 v] w fun e w' => e = .returned (.bool (hasK l v)) ∧ w' = w := by
  unfold maxLen at hl
  have HN : Hid (l.length = n) := hs.1
  have HSS : Hid (IAt w a n l) := hs
  obtain ⟨r, hr⟩ : ∃ r, r = hasK l v := ⟨_, rfl⟩
  rw [← hr]
  have HR : Hid (r = hasK l v) := hr
  clear hs hr
  go_enter Try.func9, Try.ntmps9
  go_wp2
  go_loopw [5] (fun i wr => ∃ k : Nat, k ≤ n ∧ i = .int .i64 k ∧ Hid (v ∉ l.take k) ∧ wr = w) (fun i _ => n - (intOf i).toNat)
  case atStart => exact ⟨0, Nat.zero_le _, rfl, by show v ∉ _; simp, rfl⟩
  case round =>
    obtain ⟨k, hk, rfl, HJ, hw⟩ := hrel
    have hw2 := hw.symm
    subst hw2
    by_cases hlt : k < n
    · rcases HSS.out.2 with h0 | ⟨b, off, ha, hb, hc⟩
      · omega
      subst ha
      obtain ⟨s, hsx⟩ : ∃ s, s = l.getD k 0 := ⟨_, rfl⟩
      have hcx := hc k hlt
      rw [← hsx] at hcx
      have HS : Hid (s = l.getD k 0) := hsx
      clear hc hsx
      have hki : (k : Int) < (n : Int) := by omega
      by_cases hv : s = v
      · obtain rfl : r = true := by rw [HR.out]; exact hasK_yes (mem_hit HN.out hlt HS.out hv)
        have e : (s == v) = true := by simp [hv]
        have H1 : Hid (s = v) := hv
        clear hv
        go_wp2
        go_ret
        exact ⟨rfl, rfl⟩
      · have e : (s == v) = false := by simp [hv]
        have H1 : Hid (¬ s = v) := hv
        clear hv
        go_wp2
        go_roundw
        case rel => exact ⟨k + 1, by omega, by go_num, mem_take_next HN.out hlt HS.out HJ.out H1.out, (by first | rfl | trivial)⟩
        case measure => simp [intOf]; omega
    · obtain rfl : r = false := by rw [HR.out]; exact hasK_no (by have := HJ.out; rwa [take_all HN.out hlt] at this)
      go_wp2
      go_ret
      exact ⟨rfl, rfl⟩

set_option maxHeartbeats 1000000 in
theorem lwNumsQ_any (a b : Option Addr) (n c1 c2 : Nat) (l : List Int) (w : World) (hl : n ≤ 1048576) (ha : IAt w a n l) (hb : IAt w b n l) :
    Calls Try.prog 13 #[.slice a n c1, .slice b n c2] w fun e w' => e = .returned (.bool true) ∧ Below w.heap.size w w' := by
  have HA : Hid (IAt w a n l) := ha
  have HB : Hid (IAt w b n l) := hb
  clear ha hb
  go_enter Try.func13, Try.ntmps13
  go_wp2
  go_loopw [5] (fun i wr => ∃ k : Nat, k ≤ n ∧ i = .int .i64 k ∧ Below w.heap.size w wr) (fun i _ => n - (intOf i).toNat)
  case atStart => exact ⟨0, Nat.zero_le _, rfl, Below.refl _ _⟩
  case round =>
    obtain ⟨k, hk, rfl, hbel⟩ := hrel
    by_cases hlt : k < n
    · rcases HA.out.2 with h0 | ⟨b0, o0, e0, l0, d0⟩
      · omega
      subst e0
      rcases HB.out.2 with h0 | ⟨b1, o1, e1, l1, d1⟩
      · omega
      subst e1
      obtain ⟨s, hs⟩ : ∃ s, s = l.getD k 0 := ⟨_, rfl⟩
      have x0 := (hbel.cell (p := ⟨b0, o0 + k, none⟩) l0).trans (d0 k hlt)
      have x1 := (hbel.cell (p := ⟨b1, o1 + k, none⟩) l1).trans (d1 k hlt)
      rw [← hs] at x0 x1
      clear hs d0 d1
      have hki : (k : Int) < (n : Int) := by omega
      go_wp2
      go_quiet (fail)
      go_wp2
      go_roundw
      case rel => exact ⟨k + 1, by omega, by go_num, hbel.trans (Joins.below_draws _ _ _)⟩
      case measure => simp [intOf]; omega
    · go_wp2
      go_ret
      exact ⟨rfl, hbel⟩

theorem nodup_rev {l : List Int} : l.reverse.Nodup ↔ l.Nodup := (List.reverse_perm l).nodup_iff
theorem cntA_rev (s : Int) (l : List Int) (y : Int) : cntA s l.reverse y = cntA s l y := by unfold cntA; rw [List.filter_reverse, List.length_reverse]
theorem allK_rev (l : List Int) : allK l.reverse = allK l := by unfold allK; exact List.all_reverse
theorem choL_rev {l : List Int} {s : Int} {m : Nat} (hnd : l.Nodup) (hm : m ≤ l.length) : choL l.reverse s m = choL l s m := by
  obtain ⟨a1, a2⟩ := choL_sound (s := s) (l := l.reverse) (nodup_rev.2 hnd) (by rw [List.length_reverse]; exact hm)
  obtain ⟨b1, b2⟩ := choL_sound (s := s) hnd hm
  refine rise_unique a1 b1 fun x => ?_
  rw [a2, b2, List.mem_reverse, cntA_rev]
theorem chR_rev (l : List Int) (s m : Int) : chR l.reverse s m = chR l s m := by
  unfold chR
  rw [List.length_reverse, allK_rev]
  by_cases h1 : 8 < l.length
  · rw [if_pos h1, if_pos h1]
  rw [if_neg h1, if_neg h1]
  by_cases h2 : allK l = false ∨ inB s 0 65535 = false ∨ inB m 1 8 = false
  · rw [if_pos h2, if_pos h2]
  rw [if_neg h2, if_neg h2]
  have hk : allK l = true := by simp only [not_or, Bool.not_eq_false] at h2; exact h2.1
  have e : riseB 0 ((srt cmpI l.reverse l.length).take l.length) = riseB 0 ((srt cmpI l l.length).take l.length) := by
    have t1 := twins_iff hk
    have t2 := twins_iff (l := l.reverse) (by rw [allK_rev]; exact hk)
    rw [List.length_reverse, nodup_rev] at t2
    exact Bool.eq_iff_iff.2 (t2.trans t1.symm)
  rw [e]
theorem ch_data {l : List Int} {s k : Int} (h : chR l s k = 0) : ∃ m : Nat, k = m ∧ 1 ≤ m ∧ m ≤ 8 ∧ m ≤ l.length ∧ l.length ≤ 8 ∧ l.Nodup ∧ allK l = true ∧ choR l s k = (0, choL l s m, (2 * (m : Int)) / 3 + 1) := by
  obtain ⟨a1, a2, _, a4, a5, a6⟩ := chR_zero h
  obtain ⟨m, rfl⟩ := Int.eq_ofNat_of_zero_le (show 0 ≤ k by omega)
  refine ⟨m, rfl, by omega, by omega, by omega, a1, (twins_iff a2).1 a5, a2, ?_⟩
  unfold choR
  rw [h, if_neg (by simp)]
  unfold needR
  rw [if_pos (inB_true.2 a4), Int.tdiv_eq_ediv_of_nonneg (by omega)]
  rfl
theorem choR_rev (l : List Int) (s k : Int) : choR l.reverse s k = choR l s k := by
  by_cases h : chR l s k = 0
  · obtain ⟨m, rfl, _, _, hm, _, hnd, _, e⟩ := ch_data h
    have h2 : chR l.reverse s (m : Int) = 0 := by rw [chR_rev]; exact h
    obtain ⟨m', e1, _, _, _, _, _, _, e2⟩ := ch_data h2
    have : m' = m := by omega
    subst this
    rw [e, e2, choL_rev hnd hm]
  · unfold choR
    rw [chR_rev, if_pos h, if_pos h]
theorem choL_len {l : List Int} {s : Int} {m : Nat} (hm : m ≤ l.length) : (choL l s m).length = m := by
  unfold choL
  rw [List.length_take, srt_length, srt_length]
  omega
theorem cho_fault {l : List Int} {s : Int} {m : Nat} (h1 : 1 ≤ m) (h8 : m ≤ 8) (hm : m ≤ l.length) (hnd : l.Nodup) (hk : allK l = true) : quoR (choL l s m) ((2 * (m : Int)) / 3 + 1) = 0 := by
  obtain ⟨b1, b2⟩ := choL_sound (s := s) hnd hm
  have hl := choL_len (s := s) hm
  have hall : allK (choL l s m) = true := by
    unfold allK
    rw [List.all_eq_true]
    intro x hx
    exact List.all_eq_true.1 hk x ((b2 x).1 hx).1
  refine quoR_ok (n := m) hl (inB_true.2 ⟨by omega, by omega⟩) hall (inB_true.2 ⟨by omega, by omega⟩) (rise_lt.2 ⟨fun x hx => ?_, b1⟩)
  have := inB_true.1 (List.all_eq_true.1 hall x hx)
  omega
theorem sub_lenQ : ∀ {a L : List Int}, a.Nodup → (∀ x ∈ a, x ∈ L) → a.length ≤ L.length
  | [], _, _, _ => by simp
  | x :: t, L, hn, hs => by
    obtain ⟨h1, h2⟩ := List.nodup_cons.1 hn
    have hx : x ∈ L := hs x (List.mem_cons_self ..)
    have := sub_lenQ (L := L.erase x) h2 (fun y hy => by
      have hne : y ≠ x := fun e => h1 (e ▸ hy)
      exact (List.mem_erase_of_ne hne).2 (hs y (List.mem_cons_of_mem _ hy)))
    rw [List.length_erase_of_mem hx] at this
    have hp : 0 < L.length := List.length_pos_of_mem hx
    simp only [List.length_cons]
    omega
theorem cnt_less {s x y : Int} {l : List Int} (hnd : l.Nodup) (hx : x ∈ l) (h : rankR x s < rankR y s) : cntA s l x < cntA s l y := by
  unfold cntA
  have h1 : x ∉ l.filter fun z => ahB s z x := fun hm => by
    have := (List.mem_filter.1 hm).2
    unfold ahB at this
    simp at this
  have := sub_lenQ (a := x :: l.filter fun z => ahB s z x) (L := l.filter fun z => ahB s z y) (List.nodup_cons.2 ⟨h1, hnd.sublist List.filter_sublist⟩) (fun z hz => by
    rcases List.mem_cons.1 hz with e | e
    · subst e
      exact List.mem_filter.2 ⟨hx, by unfold ahB; simp [h]⟩
    · obtain ⟨q1, q2⟩ := List.mem_filter.1 e
      refine List.mem_filter.2 ⟨q1, ?_⟩
      unfold ahB at q2 ⊢
      simp only [decide_eq_true_eq] at q2 ⊢
      omega)
  simp only [List.length_cons] at this
  omega
/-- Who is not chosen has no lesser rank than one who is. -/
theorem cho_rank {l : List Int} {s : Int} {m : Nat} (hnd : l.Nodup) (hm : m ≤ l.length) {x y : Int} (hx : x ∈ l) (hn : hasK (choL l s m) x = false) (hy : y ∈ choL l s m) : ¬ rankR x s < rankR y s := fun h => by
  obtain ⟨_, b2⟩ := choL_sound (s := s) hnd hm
  have h1 : x ∉ choL l s m := of_decide_eq_false hn
  rw [b2] at h1
  have h2 := ((b2 y).1 hy).2
  have := cnt_less hnd hx h
  exact h1 ⟨hx, by omega⟩
theorem cho_in {l : List Int} {s : Int} {m : Nat} (hnd : l.Nodup) (hm : m ≤ l.length) {y : Int} (hy : y ∈ choL l s m) : hasK l y = true := hasK_yes (((choL_sound (s := s) hnd hm).2 y).1 hy).1

end Go.Proofs.Ytolpbichkmeaaaa
