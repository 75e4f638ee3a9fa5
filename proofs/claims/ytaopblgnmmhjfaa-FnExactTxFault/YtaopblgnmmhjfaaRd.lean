/- What the program's own reading of a ledger comes to: the tables of its texts, or the first fault. -/
import Derived.Test.YtaopblgnmmhjfaaTw
namespace Go.Proofs.Ytaopblgnmmhjfaa
open Go.RowKit Go.Maps Go.WideMaps

theorem isWithin_any (v lo hi : Int) (w : World) : Calls Try.prog 108 #[.int .i64 v, .int .i64 lo, .int .i64 hi] w fun e w' => e = .returned (.bool (inB v lo hi)) ∧ w' = w := by
  by_cases h1 : lo ≤ v
  · by_cases h2 : v ≤ hi
    · have hb : inB v lo hi = true := by simp [inB, h1, h2]
      rw [hb]
      go_enter Try.func108, Try.ntmps108
      go_wp2
      go_ret
      exact ⟨rfl, rfl⟩
    · have hb : inB v lo hi = false := by simp [inB, h2]
      rw [hb]
      go_enter Try.func108, Try.ntmps108
      go_wp2
      go_ret
      exact ⟨rfl, rfl⟩
  · have hb : inB v lo hi = false := by simp [inB, h1]
    rw [hb]
    go_enter Try.func108, Try.ntmps108
    go_wp2
    go_ret
    exact ⟨rfl, rfl⟩

theorem isKey_any (v : Int) (w : World) : Calls Try.prog 85 #[.int .i64 v] w fun e w' => e = .returned (.bool (inB v 1 999)) ∧ w' = w := by
  go_enter Try.func85, Try.ntmps85
  go_wp2_with (go_at_call 108; refine (isWithin_any _ _ _ _).mono ?_; rintro e w' ⟨rfl, rfl⟩)
  go_ret
  exact ⟨rfl, rfl⟩

theorem isTextLength_any (s : ByteArray) (w : World) : Calls Try.prog 74 #[.string s] w fun e w' => e = .returned (.bool (inB s.size 1 300)) ∧ w' = w := by
  go_enter Try.func74, Try.ntmps74
  go_wp2_with (go_at_call 108; refine (isWithin_any _ _ _ _).mono ?_; rintro e w' ⟨rfl, rfl⟩)
  go_ret
  exact ⟨rfl, rfl⟩

/-- What reading the texts leaves. -/
def RT (ss : List ByteArray) (w w' : World) (e : Ending) : Prop :=
  Below w.heap.size w w' ∧ ((tgo [] ss = 0 ∧ ∃ p, e = .returned (.tuple #[.pointer (some ⟨p, 0, none⟩), .int .i64 0]) ∧ TwS w' w.heap.size p ss) ∨
    (tgo [] ss ≠ 0 ∧ e = .returned (.tuple #[.pointer none, .int .i64 (tgo [] ss)])))

set_option maxHeartbeats 1000000 in
theorem readTexts_any (a : Option Addr) (n cap : Nat) (ss : List ByteArray) (w : World) (hl : n ≤ 60) (hz : ∀ j, (ss.getD j E0).size ≤ maxLen) (hs : SAt w a n ss) :
    Calls Try.prog 138 #[.slice a n cap] w fun e w' => RT ss w w' e := by
  have HN : Hid (ss.length = n) := hs.1
  have HSS : Hid (SAt w a n ss) := hs
  clear hs
  go_enter Try.func138, Try.ntmps138
  go_wp2_with (first | (go_at_call 162; refine (newS_any _).mono ?_; rintro e w1 ⟨p, rfl, htw1, hb1⟩))
  go_loopw [10] (fun i wr => ∃ k : Nat, k ≤ n ∧ i = .int .i64 k ∧ Hid (tgo [] ss = tAt ss k) ∧ TwS wr w.heap.size p (ss.take k) ∧ Below w.heap.size w wr) (fun i _ => n - (intOf i).toNat)
  case atStart => exact ⟨0, Nat.zero_le _, rfl, (tAt_zero ss).symm, htw1, hb1⟩
  case round =>
    obtain ⟨k, hk, rfl, hinv, htw, hbel⟩ := hrel
    clear htw1 hb1
    by_cases hlt : k < n
    · rcases HSS.out.2 with h0 | ⟨b, off, ha, hb, hc⟩
      · omega
      subst ha
      obtain ⟨s, hs⟩ : ∃ s, s = ss.getD k E0 := ⟨_, rfl⟩
      have hcx := (hbel.cell (p := ⟨b, off + k, none⟩) hb).trans (hc k hlt)
      have hsz := hz k
      rw [← hs] at hcx hsz
      have HS : Hid (s = ss.getD k E0) := hs
      clear hs hc hz
      by_cases hs1 : inB s.size 1 300 = true
      · have hok : ¬ (s.size < 1 ∨ 300 < s.size) := by have := inB_true.1 hs1; omega
        have HOK : Hid (¬ (s.size < 1 ∨ 300 < s.size)) := hok
        clear hok
        by_cases hc0 : num (ss.take k) s = 0
        · have hadd := addS_new p w.heap.size (ss.take k) s wr (by simp; omega) hsz hc0 htw
          have HC0 : Hid (num (ss.take k) s = 0) := hc0
          clear hc0 htw
          go_wp2_with (first
            | (go_at_call 74; refine (isTextLength_any _ _).mono ?_; rintro e w' ⟨rfl, hw⟩; have hw2 := hw.symm; subst hw2)
            | (go_at_call 77; refine hadd.mono ?_; rintro e w2 ⟨rfl, htw2, hb2⟩))
          go_roundw
          case rel =>
            have e1 : ss.take (k + 1) = ss.take k ++ [s] := by rw [take_snoc ss E0 k (by rw [HN.out]; exact hlt), HS.out]
            exact ⟨k + 1, by omega, by go_num, t_next HN.out hlt HS.out HOK.out HC0.out hinv.out, by rw [e1]; exact htw2, hbel.trans hb2⟩
          case measure => simp [intOf]; omega
        · have hadd := addS_old p w.heap.size (ss.take k) s wr hsz hc0 htw
          have HC0 : Hid (¬ num (ss.take k) s = 0) := hc0
          clear hc0 htw
          go_wp2_with (first
            | (go_at_call 74; refine (isTextLength_any _ _).mono ?_; rintro e w' ⟨rfl, hw⟩; have hw2 := hw.symm; subst hw2)
            | (go_at_call 77; refine hadd.mono ?_; rintro e w2 ⟨rfl, hw⟩; have hw2 := hw.symm; subst hw2))
          go_ret2
          have e7 := t_taken HN.out hlt HS.out HOK.out HC0.out hinv.out
          exact ⟨hbel, .inr ⟨by rw [e7]; decide, by rw [e7]; rfl⟩⟩
      · have hs1' : inB s.size 1 300 = false := by simpa using hs1
        have hok : s.size < 1 ∨ 300 < s.size := by have := inB_false.1 hs1'; omega
        have HOK : Hid (s.size < 1 ∨ 300 < s.size) := hok
        clear hok hs1 htw
        go_wp2_with (first
          | (go_at_call 74; refine (isTextLength_any _ _).mono ?_; rintro e w' ⟨rfl, hw⟩; have hw2 := hw.symm; subst hw2))
        go_ret2
        have e7 := t_short HN.out hlt HS.out HOK.out hinv.out
        exact ⟨hbel, .inr ⟨by rw [e7]; decide, by rw [e7]; rfl⟩⟩
    · go_wp2
      go_ret2
      refine ⟨hbel, .inl ⟨t_done HN.out hk hlt hinv.out, p, rfl, ?_⟩⟩
      rwa [List.take_of_length_le (by rw [HN.out]; omega)] at htw

end Go.Proofs.Ytaopblgnmmhjfaa
