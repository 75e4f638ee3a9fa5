/- The program's TxFault keeps its contract. -/
import Derived.Test.YtaopblgnmmhjfaaITy
namespace Go.Proofs.Ytaopblgnmmhjfaa
open Go.RowKit Go.Maps Go.WideMaps

theorem txR_eq (k f : Int) (rs : List (Int × Int)) (os : List Ou) : txR k f rs os = if kindR k f ≠ 0 then kindR k f else if inB rs.length 1 4 = false ∨ inB os.length 1 4 = false then 2 else if refsR [] rs ≠ 0 then refsR [] rs else if outsR os ≠ 0 then outsR os else if k = 1 ∧ (os.getD 0 O0).v < 100 then 8 else 0 := by
  unfold txR kindR joinR
  by_cases h1 : inB k 0 2 = false ∨ ¬ (k = 0 ↔ f = 0)
  · rw [if_pos h1, if_pos h1]; rfl
  · rw [if_neg h1, if_neg h1]
    by_cases h2 : k ≠ 0 ∧ inB f 1 999 = false
    · rw [if_pos h2, if_pos h2]; rfl
    · rw [if_neg h2, if_neg h2, if_neg (show ¬ (0 : Int) ≠ 0 by simp)]

set_option maxRecDepth 20000 in
set_option maxHeartbeats 2000000 in
theorem iTxFault_any (n c m d : Nat) (ia oa : Option Addr) (k f : Int) (rs : List (Int × Int)) (os : List Ou) (w : World) (_hn : n ≤ 1048576) (hm : m ≤ 1048576) (hc1 : n ≤ c) (hc2 : c ≤ maxLen) (hk : ∀ j, j < m → (os.getD j O0).l.length ≤ 1048576) (h : TxAt w ia n oa m rs os) :
    Calls Try.prog 61 #[.agg #[.int .i64 k, .int .i64 f, .slice ia n c, .slice oa m d]] w fun e w' => e = .returned (.int .i64 (txR k f rs os)) ∧ Below w.heap.size w w' := by
  have B0 : TBx w (w.alloc (.cells #[.int .i64 k, .int .i64 f, .slice ia n c, .slice oa m d] 86)) k f ia n c oa m d 86 := TBx.start
  have HT : Hid (TxAt w ia n oa m rs os) := h
  have HN : Hid (rs.length = n) := h.r.1
  have HM : Hid (os.length = m) := h.o.1
  have HK : Hid (∀ j, j < m → (os.getD j O0).l.length ≤ 1048576) := hk
  have HB0 : Hid (TBx w (w.alloc (.cells #[.int .i64 k, .int .i64 f, .slice ia n c, .slice oa m d] 86)) k f ia n c oa m d 86) := B0
  obtain ⟨cd, hcd⟩ : ∃ c, c = txR k f rs os := ⟨_, rfl⟩
  rw [← hcd]
  have HCD : Hid (cd = if kindR k f ≠ 0 then kindR k f else if inB n 1 4 = false ∨ inB m 1 4 = false then 2 else if refsR [] rs ≠ 0 then refsR [] rs else if outsR os ≠ 0 then outsR os else if k = 1 ∧ (os.getD 0 O0).v < 100 then 8 else 0) := by
    show _ = _
    rw [hcd, txR_eq, h.r.1, h.o.1]
  obtain ⟨r1, hr1⟩ : ∃ c, c = kindR k f := ⟨_, rfl⟩
  obtain ⟨r2, hr2⟩ : ∃ c, c = refsR [] rs := ⟨_, rfl⟩
  obtain ⟨r3, hr3⟩ : ∃ c, c = outsR os := ⟨_, rfl⟩
  obtain ⟨bn, hbn⟩ : ∃ c, c = inB n 1 4 := ⟨_, rfl⟩
  obtain ⟨bm, hbm⟩ : ∃ c, c = inB m 1 4 := ⟨_, rfl⟩
  have hk1 := kindFault_any k f (.slice ia n c) (.slice oa m d) (w.alloc (.cells #[.int .i64 k, .int .i64 f, .slice ia n c, .slice oa m d] 86))
  have hrf : ∀ v, GAt v ia n rs → Calls Try.prog 126 #[.slice ia n c] v fun e w' => e = .returned (.int .i64 r2) ∧ Below v.heap.size v w' := fun v hv => by rw [hr2]; exact refsFault_any n c ia rs v hc1 hc2 hv
  have hof : ∀ v, OAt v oa m os → Calls Try.prog 127 #[.slice oa m d] v fun e w' => e = .returned (.int .i64 r3) ∧ Below v.heap.size v w' := fun v hv => by rw [hr3]; exact outsFault_any m d oa os v hm HK.out hv
  have hp1 : ∀ v, Calls Try.prog 125 #[.int .i64 n] v fun e w' => e = .returned (.bool bn) ∧ w' = v := fun v => by rw [hbn]; exact arePieces_any n v
  have hp2 : ∀ v, Calls Try.prog 125 #[.int .i64 m] v fun e w' => e = .returned (.bool bm) ∧ w' = v := fun v => by rw [hbm]; exact arePieces_any m v
  have HRF : Hid (∀ v, GAt v ia n rs → Calls Try.prog 126 #[.slice ia n c] v fun e w' => e = .returned (.int .i64 r2) ∧ Below v.heap.size v w') := hrf
  have HOF : Hid (∀ v, OAt v oa m os → Calls Try.prog 127 #[.slice oa m d] v fun e w' => e = .returned (.int .i64 r3) ∧ Below v.heap.size v w') := hof
  have HC := HCD.out
  rw [← hr1, ← hr2, ← hr3, ← hbn, ← hbm] at HC
  rw [← hr1] at hk1
  have HBM : Hid (bm = inB m 1 4) := hbm
  have HC2 : Hid (cd = if r1 ≠ 0 then r1 else if bn = false ∨ bm = false then 2 else if r2 ≠ 0 then r2 else if r3 ≠ 0 then r3 else if k = 1 ∧ (os.getD 0 O0).v < 100 then 8 else 0) := HC
  clear HC HCD h B0 hk hcd hr1 hr2 hr3 hbn hbm hrf hof
  by_cases h1 : r1 = 0
  · subst h1
    by_cases h2 : bn = false
    · subst h2
      obtain rfl : cd = 2 := by rw [HC2.out]; simp
      clear hp2
      go_enter Try.func61, Try.ntmps61
      go_wp2_with (first
        | (go_at_call 124; refine hk1.mono ?_; rintro e w1 ⟨rfl, hb1⟩; have HB1 : Hid (TBx w w1 k f ia n c oa m d 86) := HB0.out.step hb1; obtain ⟨p0, p1, p2, p3, _⟩ := cells4 HB1.out.box; clear hb1)
        | (go_at_call 125; refine (hp1 _).mono ?_; rintro e w' ⟨rfl, hw⟩; have hw2 := hw.symm; subst hw2))
      go_ret
      exact ⟨rfl, HB1.out.bel⟩
    obtain rfl : bn = true := by simpa using h2
    by_cases h3 : bm = false
    · subst h3
      obtain rfl : cd = 2 := by rw [HC2.out]; simp
      go_enter Try.func61, Try.ntmps61
      go_wp2_with (first
        | (go_at_call 124; refine hk1.mono ?_; rintro e w1 ⟨rfl, hb1⟩; have HB1 : Hid (TBx w w1 k f ia n c oa m d 86) := HB0.out.step hb1; obtain ⟨p0, p1, p2, p3, _⟩ := cells4 HB1.out.box; clear hb1)
        | (go_at_call 125; (first | (refine (hp1 _).mono ?_; clear hp1) | refine (hp2 _).mono ?_); rintro e w' ⟨rfl, hw⟩; have hw2 := hw.symm; subst hw2))
      go_ret
      exact ⟨rfl, HB1.out.bel⟩
    obtain rfl : bm = true := by simpa using h3
    have hm4 := inB_true.1 HBM.out.symm
    have HC3 : Hid (cd = if r2 ≠ 0 then r2 else if r3 ≠ 0 then r3 else if k = 1 ∧ (os.getD 0 O0).v < 100 then 8 else 0) := by show _ = _; rw [HC2.out]; simp
    clear HC2 h2 h3
    by_cases h4 : r2 = 0
    · subst h4
      by_cases h5 : r3 = 0
      · subst h5
        have HC4 : Hid (cd = if k = 1 ∧ (os.getD 0 O0).v < 100 then 8 else 0) := by show _ = _; rw [HC3.out]; simp
        clear HC3
        rcases HT.out.o.2 with h0 | ⟨b, off, e0, l0, d0⟩
        · omega
        subst e0
        obtain ⟨ka, kn, kc, q0, _⟩ := d0 0 (by omega)
        simp only [Nat.zero_mul, Nat.add_zero] at q0
        obtain ⟨ov, hov⟩ : ∃ v, v = (os.getD 0 O0).v := ⟨_, rfl⟩
        have HC5 : Hid (cd = if k = 1 ∧ ov < 100 then 8 else 0) := by show _ = _; rw [HC4.out, hov]
        rw [← hov] at q0
        clear HC4 hov d0
        have hmi : 0 < (m : Int) := by omega
        rcases (show (k = 1 ∧ ov < 100 ∧ cd = 8) ∨ (k = 1 ∧ ¬ ov < 100 ∧ cd = 0) ∨ (¬ k = 1 ∧ (k == 1) = false ∧ cd = 0) by
          by_cases g1 : k = 1
          · by_cases g2 : ov < 100
            · exact .inl ⟨g1, g2, by rw [HC5.out, if_pos ⟨g1, g2⟩]⟩
            · exact .inr (.inl ⟨g1, g2, by rw [HC5.out, if_neg (fun h => g2 h.2)]⟩)
          · exact .inr (.inr ⟨g1, by simpa using g1, by rw [HC5.out, if_neg (fun h => g1 h.1)]⟩)) with ⟨rfl, g2, rfl⟩ | ⟨rfl, g2, rfl⟩ | ⟨g1, g2, rfl⟩
        all_goals
         clear HC5
         go_enter Try.func61, Try.ntmps61
         go_wp2_with (first
           | (go_at_call 124; refine hk1.mono ?_; rintro e w1 ⟨rfl, hb1⟩; have HB1 : Hid (TBx w w1 _ f ia n c (some ⟨b, off, none⟩) m d 86) := HB0.out.step hb1; obtain ⟨p0, p1, p2, p3, _⟩ := cells4 HB1.out.box; clear hb1)
           | (go_at_call 125; (first | (refine (hp1 _).mono ?_; clear hp1) | refine (hp2 _).mono ?_); rintro e w' ⟨rfl, hw⟩; have hw2 := hw.symm; subst hw2)
           | (go_at_call 126; refine (HRF.out _ (HB1.out.at HT.out).r).mono ?_; rintro e w2 ⟨rfl, hb2⟩; have HB2 : Hid (TBx w w2 _ f ia n c (some ⟨b, off, none⟩) m d 86) := HB1.out.step hb2; clear p0 p1 p2 p3; obtain ⟨p0, p1, p2, p3, _⟩ := cells4 HB2.out.box; clear hb2)
           | (go_at_call 127; refine (HOF.out _ (HB2.out.at HT.out).o).mono ?_; rintro e w3 ⟨rfl, hb3⟩; have HB3 : Hid (TBx w w3 _ f ia n c (some ⟨b, off, none⟩) m d 86) := HB2.out.step hb3; clear p0 p1 p2 p3; obtain ⟨p0, p1, p2, p3, _⟩ := cells4 HB3.out.box; have x0 := (HB3.out.bel.cell (p := ⟨b, off, none⟩) l0).trans q0; clear hb3))
         go_ret
         exact ⟨rfl, HB3.out.bel⟩
      · obtain rfl : cd = r3 := by rw [HC3.out]; simp [h5]
        go_enter Try.func61, Try.ntmps61
        go_wp2_with (first
          | (go_at_call 124; refine hk1.mono ?_; rintro e w1 ⟨rfl, hb1⟩; have HB1 : Hid (TBx w w1 k f ia n c oa m d 86) := HB0.out.step hb1; obtain ⟨p0, p1, p2, p3, _⟩ := cells4 HB1.out.box; clear hb1)
          | (go_at_call 125; (first | (refine (hp1 _).mono ?_; clear hp1) | refine (hp2 _).mono ?_); rintro e w' ⟨rfl, hw⟩; have hw2 := hw.symm; subst hw2)
          | (go_at_call 126; refine (HRF.out _ (HB1.out.at HT.out).r).mono ?_; rintro e w2 ⟨rfl, hb2⟩; have HB2 : Hid (TBx w w2 k f ia n c oa m d 86) := HB1.out.step hb2; clear p0 p1 p2 p3; obtain ⟨p0, p1, p2, p3, _⟩ := cells4 HB2.out.box; clear hb2)
          | (go_at_call 127; refine (HOF.out _ (HB2.out.at HT.out).o).mono ?_; rintro e w3 ⟨rfl, hb3⟩; have HB3 : Hid (TBx w w3 k f ia n c oa m d 86) := HB2.out.step hb3; clear p0 p1 p2 p3; obtain ⟨p0, p1, p2, p3, _⟩ := cells4 HB3.out.box; clear hb3))
        go_ret
        exact ⟨rfl, HB3.out.bel⟩
    · obtain rfl : cd = r2 := by rw [HC3.out]; simp [h4]
      go_enter Try.func61, Try.ntmps61
      go_wp2_with (first
        | (go_at_call 124; refine hk1.mono ?_; rintro e w1 ⟨rfl, hb1⟩; have HB1 : Hid (TBx w w1 k f ia n c oa m d 86) := HB0.out.step hb1; obtain ⟨p0, p1, p2, p3, _⟩ := cells4 HB1.out.box; clear hb1)
        | (go_at_call 125; (first | (refine (hp1 _).mono ?_; clear hp1) | refine (hp2 _).mono ?_); rintro e w' ⟨rfl, hw⟩; have hw2 := hw.symm; subst hw2)
        | (go_at_call 126; refine (HRF.out _ (HB1.out.at HT.out).r).mono ?_; rintro e w2 ⟨rfl, hb2⟩; have HB2 : Hid (TBx w w2 k f ia n c oa m d 86) := HB1.out.step hb2; clear p0 p1 p2 p3; obtain ⟨p0, p1, p2, p3, _⟩ := cells4 HB2.out.box; clear hb2))
      go_ret
      exact ⟨rfl, HB2.out.bel⟩
  · obtain rfl : cd = r1 := by rw [HC2.out]; simp [h1]
    clear hp1 hp2
    go_enter Try.func61, Try.ntmps61
    go_wp2_with (first
      | (go_at_call 124; refine hk1.mono ?_; rintro e w1 ⟨rfl, hb1⟩; have HB1 : Hid (TBx w w1 k f ia n c oa m d 86) := HB0.out.step hb1; obtain ⟨p0, p1, p2, p3, _⟩ := cells4 HB1.out.box; clear hb1))
    go_ret
    exact ⟨rfl, HB1.out.bel⟩

theorem iTxFault : ITxFault := fun n c m d ia oa k f rs os w hn hm hc1 hc2 hk _ _ _ _ h => iTxFault_any n c m d ia oa k f rs os w hn hm hc1 hc2 hk h

end Go.Proofs.Ytaopblgnmmhjfaa
