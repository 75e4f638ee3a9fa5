/- What keeps a voter from being one: the specification's code and the program's. -/
import Derived.Test.YtpcgkgjmcnncdaaZc
import Derived.Test.YtpcgkgjmcnncdaaITx
import Derived.Test.YtpcgkgjmcnncdaaLc
namespace Go.Proofs.Ytpcgkgjmcnncdaa
open Go.RowKit Go.Maps Go.WideMaps Go.Sort

theorem l11Tx_any (v : Int) (w : World) : Calls Try.prog 18 #[.int .i64 v] w fun e w' => e = .returned (.bool (inB v 1 60)) ∧ w' = w := by
  go_enter Try.func18, Try.ntmps18
  go_wp2_with (go_at_call 31; refine (l1In_any _ _ _ _).mono ?_; rintro e w' ⟨rfl, rfl⟩)
  go_ret
  exact ⟨rfl, rfl⟩

set_option maxHeartbeats 1000000 in
theorem l11At_any (P n cap : Nat) (a : Option Addr) (ms : List Mb) (k l p q : Int) (w : World) (hl : n ≤ maxLen) (hC : MAt w a n ms) (hP : w.heap[P]? = some (.cells #[.int .i64 k, .int .i64 l, .slice a n cap] 26 (0, 0))) :
    Calls Try.prog 32 #[.pointer (some ⟨P, 0, none⟩), .agg #[.int .i64 p, .int .i64 q]] w fun e w' => e = .returned (.int .i64 (chIx p q 0 ms)) ∧ Below w.heap.size w w' := by
  unfold maxLen at hl
  have HC : Hid (MAt w a n ms) := hC
  have HN : Hid (ms.length = n) := hC.1
  obtain ⟨r, hr⟩ : ∃ r, r = chIx p q 0 ms := ⟨_, rfl⟩
  rw [← hr]
  have HV : Hid (r = chIx p q 0 ms) := hr
  obtain ⟨p0, p1, p2⟩ := cells3 hP
  have hPl := lt_of_block hP
  clear hC hr hP
  have hbx0 : Below w.heap.size w (w.alloc (.cells #[.int .i64 p, .int .i64 q] 28)) := below_box _
  have HBX0 : Hid (Below w.heap.size w (w.alloc (.cells #[.int .i64 p, .int .i64 q] 28))) := hbx0
  have z2 := (hbx0.cell (p := ⟨P, 2, none⟩) hPl).trans p2
  clear hbx0
  go_enter Try.func32, Try.ntmps32
  go_wp2
  go_loopw [5] (fun i wr => ∃ j : Nat, j ≤ n ∧ i = .int .i64 j ∧ Below w.heap.size w wr ∧ wr.cell? ⟨w.heap.size, 0, none⟩ = some (.int .i64 p) ∧ wr.cell? ⟨w.heap.size, 1, none⟩ = some (.int .i64 q) ∧ Hid (r = chIx p q j (ms.drop j))) (fun i _ => n - (intOf i).toNat)
  case atStart => exact ⟨0, Nat.zero_le _, rfl, HBX0.out, by simp, by simp, by show _ = _; simpa using HV.out⟩
  case round =>
    obtain ⟨j, hj, rfl, hbel, hp, hq, HR⟩ := hrel
    clear z2
    have y2 := (hbel.cell (p := ⟨P, 2, none⟩) hPl).trans p2
    by_cases hlt : j < n
    · rcases HC.out.2 with h0 | ⟨b, off, ha, hb, hc⟩
      · omega
      subst ha
      obtain ⟨g, hg⟩ : ∃ g, g = ms.getD j Z3 := ⟨_, rfl⟩
      have hcx := hc j hlt
      rw [← hg] at hcx
      obtain ⟨hnx, _⟩ := next_nd HN.out hlt hg
      have HNX : Hid (ms.drop j = g :: ms.drop (j + 1)) := hnx
      obtain ⟨g1, g2, g3⟩ := g
      have c0 := (hbel.cell (p := ⟨b, off + j * 3, none⟩) hb).trans hcx.1
      have c1 := (hbel.cell (p := ⟨b, off + j * 3 + 1, none⟩) hb).trans hcx.2.1
      simp only at c0 c1
      clear hg hc hcx hnx
      have hki : (j : Int) < (n : Int) := by omega
      by_cases h1 : g1 = p
      · have e1 : (g1 == p) = true := by simp [h1]
        have H1 : Hid (g1 = p) := h1
        clear h1
        by_cases h2 : g2 = q
        · have e2 : (g2 == q) = true := by simp [h2]
          have HM : Hid (matR p q (g1, g2, g3) = true) := by show _ = _; simp [matR, H1.out, h2]
          clear h2
          obtain rfl : r = (j : Int) := by rw [HR.out, HNX.out, chIx, if_pos HM.out]
          go_wp2
          go_quiet (fail)
          go_wp2
          go_ret
          exact ⟨rfl, hbel.trans (Joins.below_draws _ _ _)⟩
        · have e2 : (g2 == q) = false := by first | simp [h2] | (simp; exact fun e => h2 e.symm)
          have HM : Hid (¬ matR p q (g1, g2, g3) = true) := by show ¬ _; simp [matR, h2]
          clear h2
          have HR2 : Hid (r = chIx p q (j + 1) (ms.drop (j + 1))) := by show _ = _; rw [HR.out, HNX.out, chIx, if_neg HM.out]
          go_wp2
          go_quiet (fail)
          go_wp2
          go_roundw
          case rel => exact ⟨j + 1, by omega, by go_num, hbel.trans (Joins.below_draws _ _ _), by simpa using hp, by simpa using hq, HR2⟩
          case measure => simp [intOf]; omega
      · have e1 : (g1 == p) = false := by first | simp [h1] | (simp; exact fun e => h1 e.symm)
        have HM : Hid (¬ matR p q (g1, g2, g3) = true) := by show ¬ _; simp [matR, h1]
        clear h1
        have HR2 : Hid (r = chIx p q (j + 1) (ms.drop (j + 1))) := by show _ = _; rw [HR.out, HNX.out, chIx, if_neg HM.out]
        go_wp2
        go_quiet (fail)
        go_wp2
        go_roundw
        case rel => exact ⟨j + 1, by omega, by go_num, hbel.trans (Joins.below_draws _ _ _), by simpa using hp, by simpa using hq, HR2⟩
        case measure => simp [intOf]; omega
    · obtain rfl : r = -1 := by rw [HR.out, List.drop_of_length_le (by rw [HN.out]; omega)]; rfl
      have hki : ¬ (j : Int) < (n : Int) := by omega
      go_wp2
      go_ret
      exact ⟨rfl, hbel⟩

set_option maxRecDepth 20000 in
set_option maxHeartbeats 2000000 in
theorem l11Fault_any (P n cap : Nat) (a : Option Addr) (ms : List Mb) (k l : Int) (w : World) (hl : n ≤ maxLen) (hC : MAt w a n ms) (hP : w.heap[P]? = some (.cells #[.int .i64 k, .int .i64 l, .slice a n cap] 26 (0, 0))) :
    Calls Try.prog 16 #[.pointer (some ⟨P, 0, none⟩)] w fun e w' => e = .returned (.int .i64 (voterR k l ms)) ∧ Below w.heap.size w w' := by
  have HML : Hid (n ≤ maxLen) := hl
  unfold maxLen at hl
  have HC : Hid (MAt w a n ms) := hC
  have HN : Hid (ms.length = n) := hC.1
  have HP : Hid (w.heap[P]? = some (.cells #[.int .i64 k, .int .i64 l, .slice a n cap] 26 (0, 0))) := hP
  obtain ⟨p0, p1, p2⟩ := cells3 hP
  have hPl := lt_of_block hP
  obtain ⟨kk, hkk⟩ : ∃ b, b = inB k 1 999 := ⟨_, rfl⟩
  obtain ⟨kl, hkl⟩ : ∃ b, b = inB l 0 60 := ⟨_, rfl⟩
  have hW1 : ∀ v, Calls Try.prog 30 #[.int .i64 k] v fun e w' => e = .returned (.bool kk) ∧ w' = v := fun v => by rw [hkk]; exact l1Key_any _ v
  have hW2 : ∀ v, Calls Try.prog 31 #[.int .i64 l, .int .i64 0, .int .i64 60] v fun e w' => e = .returned (.bool kl) ∧ w' = v := fun v => by rw [hkl]; exact l1In_any _ _ _ v
  have HKK : Hid (kk = inB k 1 999) := hkk
  have HKL : Hid (kl = inB l 0 60) := hkl
  obtain ⟨r, hr⟩ : ∃ r, r = voterR k l ms := ⟨_, rfl⟩
  rw [← hr]
  have HR : Hid (r = voterR k l ms) := hr
  clear hC hP hkk hkl hr
  cases kk
  · obtain rfl : r = 3 := by rw [HR.out]; unfold voterR; rw [if_neg (by rw [← HKK.out]; simp)]
    go_enter Try.func16, Try.ntmps16
    go_wp2_with (go_at_call 30; refine (hW1 _).mono ?_; rintro e w' ⟨rfl, hw⟩; have hw2 := hw.symm; subst hw2)
    go_ret
    exact ⟨rfl, Below.refl _ _⟩
  cases kl
  · obtain rfl : r = 3 := by rw [HR.out]; unfold voterR; rw [if_neg (by rw [← HKL.out]; simp)]
    go_enter Try.func16, Try.ntmps16
    go_wp2_with (first | (go_at_call 30; refine (hW1 _).mono ?_; rintro e w' ⟨rfl, hw⟩; have hw2 := hw.symm; subst hw2) | (go_at_call 31; refine (hW2 _).mono ?_; rintro e w' ⟨rfl, hw⟩; have hw2 := hw.symm; subst hw2))
    go_ret
    exact ⟨rfl, Below.refl _ _⟩
  have HR1 : Hid (r = chsR ms) := by show _ = _; rw [HR.out]; unfold voterR; rw [if_pos ⟨HKK.out.symm, HKL.out.symm⟩]
  clear HR
  by_cases h40 : 40 < n
  · obtain rfl : r = 2 := by rw [HR1.out]; unfold chsR; rw [if_pos (by rw [HN.out]; exact h40)]
    have hki : (40 : Int) < (n : Int) := by omega
    go_enter Try.func16, Try.ntmps16
    go_wp2_with (first | (go_at_call 30; refine (hW1 _).mono ?_; rintro e w' ⟨rfl, hw⟩; have hw2 := hw.symm; subst hw2) | (go_at_call 31; refine (hW2 _).mono ?_; rintro e w' ⟨rfl, hw⟩; have hw2 := hw.symm; subst hw2))
    go_ret
    exact ⟨rfl, Below.refl _ _⟩
  have HR2 : Hid (r = chvG [] ms) := by show _ = _; rw [HR1.out]; unfold chsR; rw [if_neg (by rw [HN.out]; exact h40)]
  have hk4 : ¬ (40 : Int) < (n : Int) := by omega
  clear HR1
  go_enter Try.func16, Try.ntmps16
  go_wp2_with (first | (go_at_call 30; refine (hW1 _).mono ?_; rintro e w' ⟨rfl, hw⟩; have hw2 := hw.symm; subst hw2) | (go_at_call 31; refine (hW2 _).mono ?_; rintro e w' ⟨rfl, hw⟩; have hw2 := hw.symm; subst hw2))
  go_loopw [3] (fun i wr => ∃ j : Nat, j ≤ n ∧ i = .int .i64 j ∧ Below w.heap.size w wr ∧ Hid (r = chvG (ms.take j) (ms.drop j))) (fun i _ => n - (intOf i).toNat)
  case atStart => exact ⟨0, Nat.zero_le _, rfl, Below.refl _ _, by show _ = _; simpa using HR2.out⟩
  case round =>
    obtain ⟨j, hj, rfl, hbel, HT⟩ := hrel
    have y2 := (hbel.cell (p := ⟨P, 2, none⟩) hPl).trans p2
    by_cases hlt : j < n
    · rcases HC.out.2 with h0 | ⟨b, off, ha, hb, hc⟩
      · omega
      subst ha
      obtain ⟨g, hg⟩ : ∃ g, g = ms.getD j Z3 := ⟨_, rfl⟩
      have hcx := hc j hlt
      rw [← hg] at hcx
      obtain ⟨hnx, htk⟩ := next_nd HN.out hlt hg
      have HNX : Hid (ms.drop j = g :: ms.drop (j + 1)) := hnx
      have HTK : Hid (ms.take (j + 1) = ms.take j ++ [g]) := htk
      obtain ⟨g1, g2, g3⟩ := g
      have HX : Hid (wr.cell? ⟨b, off + j * 3, none⟩ = some (.int .i64 g1) ∧ wr.cell? ⟨b, off + j * 3 + 1, none⟩ = some (.int .i64 g2) ∧ wr.cell? ⟨b, off + j * 3 + 2, none⟩ = some (.int .i64 g3)) := ⟨(hbel.cell (p := ⟨b, off + j * 3, none⟩) hb).trans hcx.1, (hbel.cell (p := ⟨b, off + j * 3 + 1, none⟩) hb).trans hcx.2.1, (hbel.cell (p := ⟨b, off + j * 3 + 2, none⟩) hb).trans hcx.2.2⟩
      have HBL : Hid (b < wr.heap.size) := Nat.lt_of_lt_of_le hb hbel.size
      obtain ⟨c0, c1, c2⟩ := HX.out
      clear hg hc hcx hnx htk
      have hki : (j : Int) < (n : Int) := by omega
      obtain ⟨kr, hkr⟩ : ∃ b, b = refB (g1, g2) := ⟨_, rfl⟩
      have hrf := l3Ref_any g1 g2 wr
      rw [← hkr] at hrf
      have HKR : Hid (kr = refB (g1, g2)) := hkr
      clear hkr
      cases kr
      · obtain rfl : r = 3 := by rw [HT.out, HNX.out, chvG, if_pos (by unfold goodC; rw [← HKR.out]; rfl)]
        go_wp2_with (first | (go_at_call 17; refine hrf.mono ?_; rintro e w2 ⟨rfl, hb2⟩))
        go_ret
        exact ⟨rfl, hbel.trans (hb2.mono hbel.size)⟩
      obtain ⟨kt, hkt⟩ : ∃ b, b = inB g3 1 60 := ⟨_, rfl⟩
      have hW3 : ∀ v, Calls Try.prog 18 #[.int .i64 g3] v fun e w' => e = .returned (.bool kt) ∧ w' = v := fun v => by rw [hkt]; exact l11Tx_any _ v
      have HKT : Hid (kt = inB g3 1 60) := hkt
      clear hkt
      cases kt
      · obtain rfl : r = 3 := by rw [HT.out, HNX.out, chvG, if_pos (by unfold goodC; rw [← HKT.out, Bool.and_false])]
        go_wp2_with (first | (go_at_call 17; refine hrf.mono ?_; rintro e w2 ⟨rfl, hb2⟩; have x2 := (hb2.cell (p := ⟨P, 2, none⟩) (Nat.lt_of_lt_of_le hPl hbel.size)).trans y2; have z2 := (hb2.cell (p := ⟨b, off + j * 3 + 2, none⟩) HBL.out).trans HX.out.2.2) | (go_at_call 18; refine (hW3 _).mono ?_; rintro e w' ⟨rfl, hw⟩; have hw2 := hw.symm; subst hw2))
        go_ret
        exact ⟨rfl, hbel.trans (hb2.mono hbel.size)⟩
      have HG : Hid (goodC (g1, g2, g3) = true) := by show _ = _; unfold goodC; rw [← HKR.out, ← HKT.out]; rfl
      obtain ⟨ix, hix⟩ : ∃ x, x = chIx g1 g2 0 ms := ⟨_, rfl⟩
      have HIX : Hid (ix = chIx g1 g2 0 ms) := hix
      have HAT : Hid (∀ v, Below wr.heap.size wr v → Calls Try.prog 32 #[.pointer (some ⟨P, 0, none⟩), .agg #[.int .i64 g1, .int .i64 g2]] v fun e w' => e = .returned (.int .i64 ix) ∧ Below v.heap.size v w') := fun v hv => by
        rw [hix]
        exact l11At_any P n cap _ ms k l g1 g2 v HML.out (HC.out.below (hbel.trans (hv.mono hbel.size)) (Nat.le_refl _)) (((hbel.trans (hv.mono hbel.size)).block P hPl).trans HP.out)
      have HSP : Hid (ms = ms.take j ++ (g1, g2, g3) :: ms.drop (j + 1)) := by show _ = _; rw [← HNX.out, List.take_append_drop]
      clear hix
      by_cases hne : ix = (j : Int)
      · have HNEXT : Hid (r = chvG (ms.take (j + 1)) (ms.drop (j + 1))) := by
          show _ = _
          have hno : ¬ hasRf (ms.take j) g1 g2 = true := fun hh => by
            have := chIx_ne (t := (g1, g2, g3) :: ms.drop (j + 1)) hh
            rw [← HSP.out, ← HIX.out, List.length_take, HN.out, Nat.min_eq_left hj] at this
            exact this hne
          rw [HT.out, HNX.out, HTK.out, chvG, if_neg (by rw [HG.out]; simp), if_neg hno]
        have hn1 : (ix != (j : Int)) = false := by simpa using hne
        clear hne
        go_wp2_with (first | (go_at_call 17; refine hrf.mono ?_; rintro e w2 ⟨rfl, hb2⟩; have x2 := (hb2.cell (p := ⟨P, 2, none⟩) (Nat.lt_of_lt_of_le hPl hbel.size)).trans y2; have z0 := (hb2.cell (p := ⟨b, off + j * 3, none⟩) HBL.out).trans HX.out.1; have z1 := (hb2.cell (p := ⟨b, off + j * 3 + 1, none⟩) HBL.out).trans HX.out.2.1; have z2 := (hb2.cell (p := ⟨b, off + j * 3 + 2, none⟩) HBL.out).trans HX.out.2.2; have hat := HAT.out w2 hb2) | (go_at_call 18; refine (hW3 _).mono ?_; rintro e w' ⟨rfl, hw⟩; have hw2 := hw.symm; subst hw2) | (go_at_call 32; refine hat.mono ?_; clear hat; rintro e w3 ⟨rfl, hb3⟩))
        go_roundw
        case rel => exact ⟨j + 1, by omega, by go_num, hbel.trans ((hb2.trans (hb3.mono hb2.size)).mono hbel.size), HNEXT⟩
        case measure => simp [intOf]; omega
      · obtain rfl : r = 7 := by
          have hyes : hasRf (ms.take j) g1 g2 = true := by
            cases hh : hasRf (ms.take j) g1 g2
            · exfalso
              have := chIx_at (i := 0) (t := ms.drop (j + 1)) hh (g := (g1, g2, g3)) (by simp [matR])
              rw [← HSP.out, ← HIX.out, List.length_take, HN.out, Nat.min_eq_left hj, Nat.zero_add] at this
              exact hne this
            · rfl
          rw [HT.out, HNX.out, chvG, if_neg (by rw [HG.out]; simp), if_pos hyes]
        have hn1 : (ix != (j : Int)) = true := by simpa using hne
        clear hne
        go_wp2_with (first | (go_at_call 17; refine hrf.mono ?_; rintro e w2 ⟨rfl, hb2⟩; have x2 := (hb2.cell (p := ⟨P, 2, none⟩) (Nat.lt_of_lt_of_le hPl hbel.size)).trans y2; have z0 := (hb2.cell (p := ⟨b, off + j * 3, none⟩) HBL.out).trans HX.out.1; have z1 := (hb2.cell (p := ⟨b, off + j * 3 + 1, none⟩) HBL.out).trans HX.out.2.1; have z2 := (hb2.cell (p := ⟨b, off + j * 3 + 2, none⟩) HBL.out).trans HX.out.2.2; have hat := HAT.out w2 hb2) | (go_at_call 18; refine (hW3 _).mono ?_; rintro e w' ⟨rfl, hw⟩; have hw2 := hw.symm; subst hw2) | (go_at_call 32; refine hat.mono ?_; clear hat; rintro e w3 ⟨rfl, hb3⟩))
        go_ret
        exact ⟨rfl, hbel.trans ((hb2.trans (hb3.mono hb2.size)).mono hbel.size)⟩
    · obtain rfl : r = 0 := by rw [HT.out, List.drop_of_length_le (by rw [HN.out]; omega)]; rfl
      have hki : ¬ (j : Int) < (n : Int) := by omega
      go_wp2
      go_ret
      exact ⟨rfl, hbel⟩

set_option maxHeartbeats 1000000 in
theorem chRight_any (p q t : Int) (w : World) : Calls Try.prog 25 #[.agg #[.int .i64 p, .int .i64 q, .int .i64 t]] w fun e w' => e = .returned (.bool (goodC (p, q, t))) ∧ Below w.heap.size w w' := by
  obtain ⟨kr, hkr⟩ : ∃ b, b = refB (p, q) := ⟨_, rfl⟩
  have hrf := isRef_any p q (w.alloc (.cells #[.int .i64 p, .int .i64 q, .int .i64 t] 44))
  rw [← hkr] at hrf
  have HX : Hid ((w.alloc (.cells #[.int .i64 p, .int .i64 q, .int .i64 t] 44)).heap[w.heap.size]? = some (.cells #[.int .i64 p, .int .i64 q, .int .i64 t] 44 (0, 0))) := heap_alloc_new _ _
  have HB : Hid (Below w.heap.size w (w.alloc (.cells #[.int .i64 p, .int .i64 q, .int .i64 t] 44))) := below_box _
  obtain ⟨kt, hkt⟩ : ∃ b, b = inB t 1 60 := ⟨_, rfl⟩
  have hW3 : ∀ v, Calls Try.prog 35 #[.int .i64 t] v fun e w' => e = .returned (.bool kt) ∧ w' = v := fun v => by rw [hkt]; exact isTxId_any _ v
  obtain ⟨r, hr⟩ : ∃ r, r = goodC (p, q, t) := ⟨_, rfl⟩
  rw [← hr]
  have HR : Hid (r = (kr && kt)) := by show _ = _; rw [hr, hkr, hkt]; rfl
  clear hkr hkt hr
  cases kr
  · obtain rfl : r = false := HR.out
    go_enter Try.func25, Try.ntmps25
    go_wp2_with (first | (go_at_call 34; refine hrf.mono ?_; rintro e w2 ⟨rfl, hb2⟩))
    go_ret
    exact ⟨rfl, HB.out.trans (hb2.mono HB.out.size)⟩
  · obtain rfl : r = kt := by rw [HR.out]; cases kt <;> rfl
    go_enter Try.func25, Try.ntmps25
    go_wp2_with (first | (go_at_call 34; refine hrf.mono ?_; rintro e w2 ⟨rfl, hb2⟩; obtain ⟨x0, x1, x2⟩ := cells3 (keepb HX.out hb2).out) | (go_at_call 35; refine (hW3 _).mono ?_; rintro e w' ⟨rfl, hw⟩; have hw2 := hw.symm; subst hw2))
    go_ret
    exact ⟨rfl, HB.out.trans (hb2.mono HB.out.size)⟩

set_option maxHeartbeats 1000000 in
theorem txChosen_any (n cap : Nat) (a : Option Addr) (ms : List Mb) (p q : Int) (w : World) (hl : n ≤ maxLen) (hC : MAt w a n ms) :
    Calls Try.prog 26 #[.slice a n cap, .agg #[.int .i64 p, .int .i64 q]] w fun e w' => e = .returned (.int .i64 (txOf p q ms)) ∧ Below w.heap.size w w' := by
  unfold maxLen at hl
  have HC : Hid (MAt w a n ms) := hC
  have HN : Hid (ms.length = n) := hC.1
  obtain ⟨r, hr⟩ : ∃ r, r = txOf p q ms := ⟨_, rfl⟩
  rw [← hr]
  have HV : Hid (r = txOf p q ms) := hr
  clear hC hr
  have HBX0 : Hid (Below w.heap.size w (w.alloc (.cells #[.int .i64 p, .int .i64 q] 28))) := below_box _
  go_enter Try.func26, Try.ntmps26
  go_wp2
  go_loopw [9] (fun i wr => ∃ j : Nat, j ≤ n ∧ i = .int .i64 j ∧ Below w.heap.size w wr ∧ wr.cell? ⟨w.heap.size, 0, none⟩ = some (.int .i64 p) ∧ wr.cell? ⟨w.heap.size, 1, none⟩ = some (.int .i64 q) ∧ Hid (r = txOf p q (ms.drop j))) (fun i _ => n - (intOf i).toNat)
  case atStart => exact ⟨0, Nat.zero_le _, rfl, HBX0.out, by simp, by simp, by show _ = _; simpa using HV.out⟩
  case round =>
    obtain ⟨j, hj, rfl, hbel, hp, hq, HR⟩ := hrel
    by_cases hlt : j < n
    · rcases HC.out.2 with h0 | ⟨b, off, ha, hb, hc⟩
      · omega
      subst ha
      obtain ⟨g, hg⟩ : ∃ g, g = ms.getD j Z3 := ⟨_, rfl⟩
      have hcx := hc j hlt
      rw [← hg] at hcx
      obtain ⟨hnx, _⟩ := next_nd HN.out hlt hg
      have HNX : Hid (ms.drop j = g :: ms.drop (j + 1)) := hnx
      obtain ⟨g1, g2, g3⟩ := g
      have c0 := (hbel.cell (p := ⟨b, off + j * 3, none⟩) hb).trans hcx.1
      have c1 := (hbel.cell (p := ⟨b, off + j * 3 + 1, none⟩) hb).trans hcx.2.1
      have c2 := (hbel.cell (p := ⟨b, off + j * 3 + 2, none⟩) hb).trans hcx.2.2
      simp only at c0 c1 c2
      have hbx : Below wr.heap.size wr (wr.alloc (.cells #[.int .i64 g1, .int .i64 g2, .int .i64 g3] 44)) := below_box _
      have hbl : w.heap.size < wr.heap.size := World.block_lt_of_cell? _ _ hp
      have hp2 := (hbx.cell (p := ⟨w.heap.size, 0, none⟩) hbl).trans hp
      have hq2 := (hbx.cell (p := ⟨w.heap.size, 1, none⟩) hbl).trans hq
      clear hg hc hcx hnx
      have hki : (j : Int) < (n : Int) := by omega
      by_cases h1 : g1 = p
      · have e1 : (g1 == p) = true := by simp [h1]
        have H1 : Hid (g1 = p) := h1
        clear h1
        by_cases h2 : g2 = q
        · have e2 : (g2 == q) = true := by simp [h2]
          have HM : Hid (matR p q (g1, g2, g3) = true) := by show _ = _; simp [matR, H1.out, h2]
          clear h2
          obtain rfl : r = g3 := by rw [HR.out, HNX.out, txOf, if_pos HM.out]
          go_wp2
          go_ret
          exact ⟨rfl, hbel.trans (hbx.mono hbel.size)⟩
        · have e2 : (g2 == q) = false := by first | simp [h2] | (simp; exact fun e => h2 e.symm)
          have HM : Hid (¬ matR p q (g1, g2, g3) = true) := by show ¬ _; simp [matR, h2]
          clear h2
          have HR2 : Hid (r = txOf p q (ms.drop (j + 1))) := by show _ = _; rw [HR.out, HNX.out, txOf, if_neg HM.out]
          go_wp2
          go_roundw
          case rel => exact ⟨j + 1, by omega, by go_num, hbel.trans (hbx.mono hbel.size), (hbx.cell (p := ⟨w.heap.size, 0, none⟩) hbl).trans hp, (hbx.cell (p := ⟨w.heap.size, 1, none⟩) hbl).trans hq, HR2⟩
          case measure => simp [intOf]; omega
      · have e1 : (g1 == p) = false := by first | simp [h1] | (simp; exact fun e => h1 e.symm)
        have HM : Hid (¬ matR p q (g1, g2, g3) = true) := by show ¬ _; simp [matR, h1]
        clear h1
        have HR2 : Hid (r = txOf p q (ms.drop (j + 1))) := by show _ = _; rw [HR.out, HNX.out, txOf, if_neg HM.out]
        go_wp2
        go_roundw
        case rel => exact ⟨j + 1, by omega, by go_num, hbel.trans (hbx.mono hbel.size), (hbx.cell (p := ⟨w.heap.size, 0, none⟩) hbl).trans hp, (hbx.cell (p := ⟨w.heap.size, 1, none⟩) hbl).trans hq, HR2⟩
        case measure => simp [intOf]; omega
    · obtain rfl : r = 0 := by rw [HR.out, List.drop_of_length_le (by rw [HN.out]; omega)]; rfl
      have hki : ¬ (j : Int) < (n : Int) := by omega
      go_wp2
      go_ret
      exact ⟨rfl, hbel⟩

set_option maxRecDepth 20000 in
set_option maxHeartbeats 1000000 in
theorem choicesFault_any (n cap : Nat) (a : Option Addr) (ms : List Mb) (w : World) (hcap : n ≤ cap) (hl : n ≤ maxLen) (hC : MAt w a n ms) :
    Calls Try.prog 22 #[.slice a n cap] w fun e w' => e = .returned (.int .i64 (chsR ms)) ∧ Below w.heap.size w w' := by
  have hl2 := hl
  unfold maxLen at hl2
  have HC : Hid (MAt w a n ms) := hC
  have HN : Hid (ms.length = n) := hC.1
  obtain ⟨r, hr⟩ : ∃ r, r = chsR ms := ⟨_, rfl⟩
  rw [← hr]
  have HR1 : Hid (r = chsR ms) := hr
  clear hC hr
  by_cases h40 : 40 < n
  · obtain rfl : r = 2 := by rw [HR1.out]; unfold chsR; rw [if_pos (by rw [HN.out]; exact h40)]
    have hki : (40 : Int) < (n : Int) := by omega
    go_enter Try.func22, Try.ntmps22
    go_wp2
    go_ret
    exact ⟨rfl, Below.refl _ _⟩
  have HV : Hid (r = chvG [] ms) := by show _ = _; rw [HR1.out]; unfold chsR; rw [if_neg (by rw [HN.out]; exact h40)]
  have hk4 : ¬ (40 : Int) < (n : Int) := by omega
  clear HR1
  go_enter Try.func22, Try.ntmps22
  go_wp2
  go_loopw [10] (fun i wr => ∃ j : Nat, j ≤ n ∧ i = .int .i64 j ∧ Below w.heap.size w wr ∧ Hid (r = chvG (ms.take j) (ms.drop j)) ∧ Hid (∀ x ∈ ms.take j, goodC x = true)) (fun i _ => n - (intOf i).toNat)
  case atStart => exact ⟨0, Nat.zero_le _, rfl, Below.refl _ _, by show _ = _; simpa using HV.out, fun x hx => by simp at hx⟩
  case round =>
    obtain ⟨j, hj, rfl, hbel, HT, HGO⟩ := hrel
    by_cases hlt : j < n
    · rcases HC.out.2 with h0 | ⟨b, off, ha, hb, hc⟩
      · omega
      subst ha
      obtain ⟨g, hg⟩ : ∃ g, g = ms.getD j Z3 := ⟨_, rfl⟩
      have hcx := hc j hlt
      rw [← hg] at hcx
      obtain ⟨hnx, htk⟩ := next_nd HN.out hlt hg
      have HNX : Hid (ms.drop j = g :: ms.drop (j + 1)) := hnx
      have HTK : Hid (ms.take (j + 1) = ms.take j ++ [g]) := htk
      obtain ⟨g1, g2, g3⟩ := g
      have c0 := (hbel.cell (p := ⟨b, off + j * 3, none⟩) hb).trans hcx.1
      have c1 := (hbel.cell (p := ⟨b, off + j * 3 + 1, none⟩) hb).trans hcx.2.1
      have c2 := (hbel.cell (p := ⟨b, off + j * 3 + 2, none⟩) hb).trans hcx.2.2
      simp only at c0 c1 c2
      have hki : (j : Int) < (n : Int) := by omega
      have hkc : (j : Int) ≤ (cap : Int) := by omega
      have hkm : j ≤ maxLen := by unfold maxLen; omega
      obtain ⟨kr, hkr⟩ : ∃ b, b = goodC (g1, g2, g3) := ⟨_, rfl⟩
      have hrf := chRight_any g1 g2 g3 (wr.alloc (.cells #[.int .i64 g1, .int .i64 g2, .int .i64 g3] 44))
      rw [← hkr] at hrf
      have HKR : Hid (kr = goodC (g1, g2, g3)) := hkr
      have HBX : Hid (Below wr.heap.size wr (wr.alloc (.cells #[.int .i64 g1, .int .i64 g2, .int .i64 g3] 44))) := below_box _
      have HX : Hid ((wr.alloc (.cells #[.int .i64 g1, .int .i64 g2, .int .i64 g3] 44)).heap[wr.heap.size]? = some (.cells #[.int .i64 g1, .int .i64 g2, .int .i64 g3] 44 (0, 0))) := heap_alloc_new _ _
      clear hg hc hcx hkr hnx htk
      cases kr
      · obtain rfl : r = 3 := by rw [HT.out, HNX.out, chvG, if_pos HKR.out.symm]
        go_wp2_with (first | (go_at_call 25; refine hrf.mono ?_; rintro e w2 ⟨rfl, hb2⟩))
        go_ret
        exact ⟨rfl, (hbel.trans (HBX.out.mono hbel.size)).trans (hb2.mono (by have := hbel.size; simp; omega))⟩
      · obtain ⟨tx, htx⟩ : ∃ x, x = txOf g1 g2 (ms.take j) := ⟨_, rfl⟩
        have HTX : Hid (txOf g1 g2 (ms.take j) = tx) := htx.symm
        clear htx
        go_wp2_with (first | (go_at_call 25; refine hrf.mono ?_; rintro e w2 ⟨rfl, hb2⟩; have hbw : Below w.heap.size w w2 := (hbel.trans (HBX.out.mono hbel.size)).trans (hb2.mono (by have := hbel.size; simp; omega)); obtain ⟨x0, x1, x2⟩ := cells3 (keepb HX.out hb2).out; have hlx := lt_of_block (keepb HX.out hb2).out; clear hb2))
        have ham : Calls Try.prog 26 #[.slice (some ⟨b, off, none⟩) j cap, .agg #[.int .i64 g1, .int .i64 g2]] w2.drew fun e w' => e = .returned (.int .i64 tx) ∧ Below w2.heap.size w2 w' := by
          have := txChosen_any j cap (some ⟨b, off, none⟩) (ms.take j) g1 g2 w2.drew hkm (((HC.out.below hbw (Nat.le_refl _)).take hj).below (Below.refl _ _).drew (Nat.le_refl _))
          rw [HTX.out] at this
          exact this.mono fun e w' h => ⟨h.1, (Below.refl _ _).drew.trans h.2⟩
        go_region_held3 (fun w' => w'.cell? ⟨wr.heap.size, 0, none⟩ = some (.int .i64 g1) ∧ w'.cell? ⟨wr.heap.size, 1, none⟩ = some (.int .i64 g2)) (go_keep)
          (first | (go_at_call 26; refine ham.mono ?_; rintro e w3 ⟨rfl, hb3⟩; have q1 := (hb3.cell (p := ⟨wr.heap.size, 0, none⟩) hlx).trans x0; have q2 := (hb3.cell (p := ⟨wr.heap.size, 1, none⟩) hlx).trans x1))
        by_cases htz : tx = 0
        · subst htz
          have HNEXT : Hid (r = chvG (ms.take (j + 1)) (ms.drop (j + 1))) := by
            show _ = _
            rw [HT.out, HNX.out, HTK.out, chvG, if_neg (by rw [← HKR.out]; simp), if_neg (by rw [(txOf_zero HGO.out).1 HTX.out]; simp)]
          have HG2 : Hid (∀ x ∈ ms.take (j + 1), goodC x = true) := fun x hx => by
            rw [HTK.out] at hx
            rcases List.mem_append.1 hx with hx | hx
            · exact HGO.out x hx
            · simp at hx; subst hx; exact HKR.out.symm
          go_wp2
          go_roundw
          case rel => exact ⟨j + 1, by omega, by go_num, hbw.trans (hb3.mono hbw.size), HNEXT, HG2⟩
          case measure => simp [intOf]; omega
        · obtain rfl : r = 7 := by
            have hyes : hasRf (ms.take j) g1 g2 = true := by
              cases hh : hasRf (ms.take j) g1 g2
              · exact absurd (HTX.out.symm.trans (txOf_no hh)) htz
              · rfl
            rw [HT.out, HNX.out, chvG, if_neg (by rw [← HKR.out]; simp), if_pos hyes]
          have hn1 : (tx != 0) = true := by simpa using htz
          go_wp2
          go_ret
          exact ⟨rfl, hbw.trans (hb3.mono hbw.size)⟩
    · obtain rfl : r = 0 := by rw [HT.out, List.drop_of_length_le (by rw [HN.out]; omega)]; rfl
      have hki : ¬ (j : Int) < (n : Int) := by omega
      go_wp2
      go_ret
      exact ⟨rfl, hbel⟩

set_option maxHeartbeats 1000000 in
theorem iVoterFault_any (n cap : Nat) (a : Option Addr) (ms : List Mb) (k l : Int) (w : World) (hcap : n ≤ cap) (hl : n ≤ maxLen) (hC : MAt w a n ms) :
    Calls Try.prog 9 #[.agg #[.int .i64 k, .int .i64 l, .slice a n cap]] w fun e w' => e = .returned (.int .i64 (voterR k l ms)) ∧ Below w.heap.size w w' := by
  have hbx : Below w.heap.size w (w.alloc (.cells #[.int .i64 k, .int .i64 l, .slice a n cap] 26)) := below_box _
  have hS := choicesFault_any n cap a ms _ hcap hl (hC.below hbx (Nat.le_refl _))
  have HBX : Hid (Below w.heap.size w (w.alloc (.cells #[.int .i64 k, .int .i64 l, .slice a n cap] 26))) := hbx
  obtain ⟨kk, hkk⟩ : ∃ b, b = inB k 1 999 := ⟨_, rfl⟩
  obtain ⟨kl, hkl⟩ : ∃ b, b = inB l 0 60 := ⟨_, rfl⟩
  have hW1 : ∀ v, Calls Try.prog 20 #[.int .i64 k] v fun e w' => e = .returned (.bool kk) ∧ w' = v := fun v => by rw [hkk]; exact isKey_any _ v
  have hW2 : ∀ v, Calls Try.prog 21 #[.int .i64 l, .int .i64 0, .int .i64 60] v fun e w' => e = .returned (.bool kl) ∧ w' = v := fun v => by rw [hkl]; exact isWithin_any _ _ _ v
  have HKK : Hid (kk = inB k 1 999) := hkk
  have HKL : Hid (kl = inB l 0 60) := hkl
  obtain ⟨r, hr⟩ : ∃ r, r = voterR k l ms := ⟨_, rfl⟩
  rw [← hr]
  have HR : Hid (r = voterR k l ms) := hr
  clear hC hbx hkk hkl hr
  cases kk
  · obtain rfl : r = 3 := by rw [HR.out]; unfold voterR; rw [if_neg (by rw [← HKK.out]; simp)]
    go_enter Try.func9, Try.ntmps9
    go_wp2_with (go_at_call 20; refine (hW1 _).mono ?_; rintro e w' ⟨rfl, hw⟩; have hw2 := hw.symm; subst hw2)
    go_ret
    exact ⟨rfl, HBX.out⟩
  cases kl
  · obtain rfl : r = 3 := by rw [HR.out]; unfold voterR; rw [if_neg (by rw [← HKL.out]; simp)]
    go_enter Try.func9, Try.ntmps9
    go_wp2_with (first | (go_at_call 20; refine (hW1 _).mono ?_; rintro e w' ⟨rfl, hw⟩; have hw2 := hw.symm; subst hw2) | (go_at_call 21; refine (hW2 _).mono ?_; rintro e w' ⟨rfl, hw⟩; have hw2 := hw.symm; subst hw2))
    go_ret
    exact ⟨rfl, HBX.out⟩
  have e1 : r = chsR ms := by rw [HR.out]; unfold voterR; rw [if_pos ⟨HKK.out.symm, HKL.out.symm⟩]
  rw [← e1] at hS
  clear HR e1
  go_enter Try.func9, Try.ntmps9
  go_wp2_with (first | (go_at_call 20; refine (hW1 _).mono ?_; rintro e w' ⟨rfl, hw⟩; have hw2 := hw.symm; subst hw2) | (go_at_call 21; refine (hW2 _).mono ?_; rintro e w' ⟨rfl, hw⟩; have hw2 := hw.symm; subst hw2) | (go_at_call 22; refine hS.mono ?_; rintro e w2 ⟨rfl, hb2⟩))
  go_ret
  exact ⟨rfl, HBX.out.trans (hb2.mono HBX.out.size)⟩

end Go.Proofs.Ytpcgkgjmcnncdaa
