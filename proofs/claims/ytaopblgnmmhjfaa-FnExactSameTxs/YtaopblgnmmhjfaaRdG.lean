/- What the program's own reading of the signatures comes to. -/
import Derived.Test.YtaopblgnmmhjfaaRd
import Derived.Test.YtaopblgnmmhjfaaTwGA
namespace Go.Proofs.Ytaopblgnmmhjfaa
open Go.RowKit Go.Maps Go.WideMaps

/-- What reading the signatures leaves. -/
def RG (n : Int) (gs : List (Int × Int)) (w w' : World) (e : Ending) : Prop :=
  Below w.heap.size w w' ∧ ((sgo n [] gs = 0 ∧ ∃ p, e = .returned (.tuple #[.pointer (some ⟨p, 0, none⟩), .int .i64 0]) ∧ TwG w' w.heap.size p gs) ∨
    (sgo n [] gs ≠ 0 ∧ e = .returned (.tuple #[.pointer none, .int .i64 (sgo n [] gs)])))

set_option maxHeartbeats 1000000 in
theorem readSigns_any (a : Option Addr) (m cap : Nat) (gs : List (Int × Int)) (n : Int) (w : World) (hl : m ≤ 120) (hz : ∀ j, (Lit.int .i64 (gs.getD j G0).1).wf = true ∧ (Lit.int .i64 (gs.getD j G0).2).wf = true) (hs : GAt w a m gs) :
    Calls Try.prog 139 #[.slice a m cap, .int .i64 n] w fun e w' => RG n gs w w' e := by
  have HM : Hid (gs.length = m) := hs.1
  have HGG : Hid (GAt w a m gs) := hs
  clear hs
  go_enter Try.func139, Try.ntmps139
  go_wp2_with (first | (go_at_call 163; refine (newG_any _).mono ?_; rintro e w1 ⟨p, rfl, htw1, hb1⟩))
  go_loopw [12] (fun i wr => ∃ k : Nat, k ≤ m ∧ i = .int .i64 k ∧ Hid (sgo n [] gs = gAt n gs k) ∧ TwG wr w.heap.size p (gs.take k) ∧ Below w.heap.size w wr) (fun i _ => m - (intOf i).toNat)
  case atStart => exact ⟨0, Nat.zero_le _, rfl, (gAt_zero n gs).symm, htw1, hb1⟩
  case round =>
    obtain ⟨k, hk, rfl, hinv, htw, hbel⟩ := hrel
    clear htw1 hb1
    by_cases hlt : k < m
    · rcases HGG.out.2 with h0 | ⟨b, off, ha, hb, hc⟩
      · omega
      subst ha
      obtain ⟨g, hg⟩ : ∃ g, g = gs.getD k G0 := ⟨_, rfl⟩
      have hcx := hc k hlt
      have hwf := hz k
      rw [← hg] at hcx hwf
      obtain ⟨g1, g2⟩ := g
      have c0 := (hbel.cell (p := ⟨b, off + k * 2, none⟩) hb).trans hcx.1
      have c1 := (hbel.cell (p := ⟨b, off + k * 2 + 1, none⟩) hb).trans hcx.2
      have HG : Hid ((g1, g2) = gs.getD k G0) := hg
      have HW : Hid ((Lit.int .i64 g1).wf = true ∧ (Lit.int .i64 g2).wf = true) := hwf
      clear hg hc hcx hz hwf
      have hbw : b < wr.heap.size := Nat.lt_of_lt_of_le hb hbel.size
      by_cases hk1 : inB g1 1 999 = true
      · by_cases hk2 : inB g2 1 n = true
        · have hok : 1 ≤ g1 ∧ g1 ≤ 999 ∧ 1 ≤ g2 ∧ g2 ≤ n := ⟨(inB_true.1 hk1).1, (inB_true.1 hk1).2, (inB_true.1 hk2).1, (inB_true.1 hk2).2⟩
          have HOK : Hid (1 ≤ g1 ∧ g1 ≤ 999 ∧ 1 ≤ g2 ∧ g2 ≤ n) := hok
          clear hok
          have hbx : Below wr.heap.size wr (wr.alloc (.cells #[.int .i64 g1, .int .i64 g2] 115)) := (Below.refl _ _).alloc (Nat.le_refl _) _
          have hbx0 := hbel.trans (hbx.mono hbel.size)
          by_cases hc0 : num (gs.take k) (g1, g2) = 0
          · have hadd := addG_new p w.heap.size (gs.take k) g1 g2 (wr.alloc (.cells #[.int .i64 g1, .int .i64 g2] 115)) (by simp; omega) HW.out.1 HW.out.2 hc0 hbx0.size (htw.below hbx)
            have HC0 : Hid (num (gs.take k) (g1, g2) = 0) := hc0
            have HB0 : Hid (Below w.heap.size w (wr.alloc (.cells #[.int .i64 g1, .int .i64 g2] 115))) := hbx0
            clear hc0 htw hbx hbx0
            go_wp2_with (first
              | (go_at_call 85; refine (isKey_any _ _).mono ?_; rintro e w' ⟨rfl, hw⟩; have hw2 := hw.symm; subst hw2)
              | (go_at_call 108; refine (isWithin_any _ _ _ _).mono ?_; rintro e w' ⟨rfl, hw⟩; have hw2 := hw.symm; subst hw2)
              | (go_at_call 88; refine hadd.mono ?_; rintro e w2 ⟨rfl, htw2, hb2⟩))
            go_roundw
            case rel =>
              have e1 : gs.take (k + 1) = gs.take k ++ [(g1, g2)] := by rw [take_snoc gs G0 k (by rw [HM.out]; exact hlt), HG.out]
              exact ⟨k + 1, by omega, by go_num, g_next HM.out hlt HG.out HOK.out HC0.out hinv.out, by rw [e1]; exact htw2, HB0.out.trans hb2⟩
            case measure => simp [intOf]; omega
          · have hadd := addG_old p w.heap.size (gs.take k) g1 g2 (wr.alloc (.cells #[.int .i64 g1, .int .i64 g2] 115)) HW.out.1 HW.out.2 hc0 (htw.below hbx)
            have HC0 : Hid (¬ num (gs.take k) (g1, g2) = 0) := hc0
            have HB0 : Hid (Below w.heap.size w (wr.alloc (.cells #[.int .i64 g1, .int .i64 g2] 115))) := hbx0
            clear hc0 htw hbx hbx0
            go_wp2_with (first
              | (go_at_call 85; refine (isKey_any _ _).mono ?_; rintro e w' ⟨rfl, hw⟩; have hw2 := hw.symm; subst hw2)
              | (go_at_call 108; refine (isWithin_any _ _ _ _).mono ?_; rintro e w' ⟨rfl, hw⟩; have hw2 := hw.symm; subst hw2)
              | (go_at_call 88; refine hadd.mono ?_; rintro e w2 ⟨rfl, hb2⟩))
            go_ret2
            have e7 := g_taken HM.out hlt HG.out HOK.out HC0.out hinv.out
            exact ⟨HB0.out.trans (hb2.mono HB0.out.size), .inr ⟨by rw [e7]; decide, by rw [e7]; rfl⟩⟩
        · have hk2' : inB g2 1 n = false := by simpa using hk2
          have HOK : Hid (¬ (1 ≤ g1 ∧ g1 ≤ 999 ∧ 1 ≤ g2 ∧ g2 ≤ n)) := fun e => inB_false.1 hk2' ⟨e.2.2.1, e.2.2.2⟩
          clear hk2 htw
          go_wp2_with (first
            | (go_at_call 85; refine (isKey_any _ _).mono ?_; rintro e w' ⟨rfl, hw⟩; have hw2 := hw.symm; subst hw2)
            | (go_at_call 108; refine (isWithin_any _ _ _ _).mono ?_; rintro e w' ⟨rfl, hw⟩; have hw2 := hw.symm; subst hw2))
          go_ret2
          have e7 := g_range HM.out hlt HG.out HOK.out hinv.out
          exact ⟨hbel.alloc hbel.size _, .inr ⟨by rw [e7]; decide, by rw [e7]; rfl⟩⟩
      · have hk1' : inB g1 1 999 = false := by simpa using hk1
        have HOK : Hid (¬ (1 ≤ g1 ∧ g1 ≤ 999 ∧ 1 ≤ g2 ∧ g2 ≤ n)) := fun e => inB_false.1 hk1' ⟨e.1, e.2.1⟩
        clear hk1 htw
        go_wp2_with (first
          | (go_at_call 85; refine (isKey_any _ _).mono ?_; rintro e w' ⟨rfl, hw⟩; have hw2 := hw.symm; subst hw2)
          | (go_at_call 108; refine (isWithin_any _ _ _ _).mono ?_; rintro e w' ⟨rfl, hw⟩; have hw2 := hw.symm; subst hw2))
        go_ret2
        have e7 := g_range HM.out hlt HG.out HOK.out hinv.out
        exact ⟨hbel.alloc hbel.size _, .inr ⟨by rw [e7]; decide, by rw [e7]; rfl⟩⟩
    · go_wp2
      go_ret2
      refine ⟨hbel, .inl ⟨g_done HM.out hk hlt hinv.out, p, rfl, ?_⟩⟩
      rwa [List.take_of_length_le (by rw [HM.out]; omega)] at htw

end Go.Proofs.Ytaopblgnmmhjfaa
