/- The specification's fault of a transaction. -/
import Derived.Test.YtaopblgnmmhjfaaTxS
namespace Go.Proofs.Ytaopblgnmmhjfaa
open Go.RowKit Go.Maps Go.WideMaps

def refsR : List (Int × Int) → List (Int × Int) → Int
  | _, [] => 0
  | seen, r :: t => if refB r = false then 3 else if memB seen r = true then 7 else refsR (seen ++ [r]) t

def txR (k f : Int) (rs : List (Int × Int)) (os : List Ou) : Int :=
  if inB k 0 2 = false ∨ ¬ (k = 0 ↔ f = 0) then 1 else if k ≠ 0 ∧ inB f 1 999 = false then 3 else if inB rs.length 1 4 = false ∨ inB os.length 1 4 = false then 2
  else if refsR [] rs ≠ 0 then refsR [] rs else joinR k os

section
variable {k f : Int} {rs : List (Int × Int)} {os : List Ou} {n m : Nat}
theorem txR_form (h : inB k 0 2 = false ∨ ¬ (k = 0 ↔ f = 0)) : txR k f rs os = 1 := by unfold txR; rw [if_pos h]
theorem txR_range (h : inB k 0 2 = true) (h1 : k = 0 ↔ f = 0) (h2 : k ≠ 0) (h3 : inB f 1 999 = false) : txR k f rs os = 3 := by unfold txR; rw [if_neg (by simp [h, h1]), if_pos ⟨h2, h3⟩]
theorem txR_many (hn : rs.length = n) (hm : os.length = m) (h : inB k 0 2 = true) (h1 : k = 0 ↔ f = 0) (h2 : ¬ (k ≠ 0 ∧ inB f 1 999 = false)) (h3 : inB n 1 4 = false ∨ inB m 1 4 = false) : txR k f rs os = 2 := by unfold txR; rw [if_neg (by simp [h, h1]), if_neg h2, hn, hm, if_pos h3]
theorem txR_rest (hn : rs.length = n) (hm : os.length = m) (h : inB k 0 2 = true) (h1 : k = 0 ↔ f = 0) (h2 : ¬ (k ≠ 0 ∧ inB f 1 999 = false)) (h3 : inB n 1 4 = true) (h4 : inB m 1 4 = true) : txR k f rs os = if refsR [] rs ≠ 0 then refsR [] rs else joinR k os := by unfold txR; rw [if_neg (by simp [h, h1]), if_neg h2, hn, hm, if_neg (by simp [h3, h4])]

theorem rs_next (hn : rs.length = n) {j : Nat} (hj : j < n) {g : Int × Int} (hg : g = rs.getD j G0) : rs.drop j = g :: rs.drop (j + 1) ∧ rs.take (j + 1) = rs.take j ++ [g] := by
  have e1 : rs[j]? = some g := by rw [hg, List.getD, List.getElem?_eq_getElem (by omega)]; rfl
  refine ⟨?_, take_more e1⟩
  rw [List.drop_eq_getElem_cons (show j < rs.length by omega)]
  congr 1
  have := List.getElem?_eq_getElem (show j < rs.length by omega)
  rw [e1] at this
  simpa using this.symm
theorem refs_go (hn : rs.length = n) {j : Nat} (hj : j < n) {g : Int × Int} (hg : g = rs.getD j G0) (h : refsR [] rs = refsR (rs.take j) (rs.drop j)) (h1 : refB g = true) (h2 : memB (rs.take j) g = false) : Hid (refsR [] rs = refsR (rs.take (j + 1)) (rs.drop (j + 1))) := by
  show _ = _
  obtain ⟨e1, e2⟩ := rs_next hn hj hg
  rw [h, e1, refsR, if_neg (by simp [h1]), if_neg (by simp [h2]), e2]
theorem refs_bad (hn : rs.length = n) {j : Nat} (hj : j < n) {g : Int × Int} (hg : g = rs.getD j G0) (h : refsR [] rs = refsR (rs.take j) (rs.drop j)) (h1 : refB g = false) : refsR [] rs = 3 := by
  obtain ⟨e1, e2⟩ := rs_next hn hj hg
  rw [h, e1, refsR, if_pos h1]
theorem refs_taken (hn : rs.length = n) {j : Nat} (hj : j < n) {g : Int × Int} (hg : g = rs.getD j G0) (h : refsR [] rs = refsR (rs.take j) (rs.drop j)) (h1 : refB g = true) (h2 : memB (rs.take j) g = true) : refsR [] rs = 7 := by
  obtain ⟨e1, e2⟩ := rs_next hn hj hg
  rw [h, e1, refsR, if_neg (by simp [h1]), if_pos h2]
theorem refs_done (hn : rs.length = n) {j : Nat} (hj : ¬ j < n) (h : refsR [] rs = refsR (rs.take j) (rs.drop j)) : refsR [] rs = 0 := by
  rw [h, List.drop_of_length_le (by omega)]; rfl
end

set_option maxRecDepth 20000 in
set_option maxHeartbeats 4000000 in
theorem l3Fault_any (P n c m d : Nat) (ia oa : Option Addr) (k f : Int) (rs : List (Int × Int)) (os : List Ou) (w : World) (hn : n ≤ 1048576) (hm : m ≤ 1048576) (hc1 : n ≤ c) (hc2 : c ≤ maxLen) (hk : ∀ j, j < m → (os.getD j O0).l.length ≤ 1048576) (h : TxAt w ia n oa m rs os)
    (hP : w.heap[P]? = some (.cells #[.int .i64 k, .int .i64 f, .slice ia n c, .slice oa m d] 86 (0, 0))) :
    Calls Try.prog 121 #[.pointer (some ⟨P, 0, none⟩)] w fun e w' => e = .returned (.int .i64 (txR k f rs os)) ∧ Below w.heap.size w w' := by
  unfold maxLen at hc2
  obtain ⟨p0, p1, p2, p3, _⟩ := cells4 hP
  have hPl := lt_of_block hP
  have HP : Hid (w.heap[P]? = some (.cells #[.int .i64 k, .int .i64 f, .slice ia n c, .slice oa m d] 86 (0, 0))) := hP
  have HR : Hid (GAt w ia n rs) := h.r
  have HO : Hid (OAt w oa m os) := h.o
  have HN : Hid (rs.length = n) := h.r.1
  have HM : Hid (os.length = m) := h.o.1
  have HK : Hid (∀ j, j < m → (os.getD j O0).l.length ≤ 1048576) := hk
  obtain ⟨r, hr⟩ : ∃ r, r = txR k f rs os := ⟨_, rfl⟩
  rw [← hr]
  have HV : Hid (r = txR k f rs os) := hr
  obtain ⟨b1, hb1⟩ : ∃ b, b = inB k 0 2 := ⟨_, rfl⟩
  obtain ⟨bf, hbf⟩ : ∃ b, b = inB f 1 999 := ⟨_, rfl⟩
  obtain ⟨bn, hbn⟩ : ∃ b, b = inB n 1 4 := ⟨_, rfl⟩
  obtain ⟨bm, hbm⟩ : ∃ b, b = inB m 1 4 := ⟨_, rfl⟩
  have h1 : ∀ v, Calls Try.prog 140 #[.int .i64 k, .int .i64 0, .int .i64 2] v fun e w' => e = .returned (.bool b1) ∧ w' = v := fun v => by rw [hb1]; exact l1In_any _ _ _ v
  have h2 : ∀ v, Calls Try.prog 89 #[.int .i64 f] v fun e w' => e = .returned (.bool bf) ∧ w' = v := fun v => by rw [hbf]; exact l1Key_any _ v
  have h3 : ∀ v, Calls Try.prog 140 #[.int .i64 n, .int .i64 1, .int .i64 4] v fun e w' => e = .returned (.bool bn) ∧ w' = v := fun v => by rw [hbn]; exact l1In_any _ _ _ v
  have h4 : ∀ v, Calls Try.prog 140 #[.int .i64 m, .int .i64 1, .int .i64 4] v fun e w' => e = .returned (.bool bm) ∧ w' = v := fun v => by rw [hbm]; exact l1In_any _ _ _ v
  have HB1 : Hid (b1 = inB k 0 2) := hb1
  have HBF : Hid (bf = inB f 1 999) := hbf
  have HBN : Hid (bn = inB n 1 4) := hbn
  have HBM : Hid (bm = inB m 1 4) := hbm
  clear hP h hk hr hb1 hbf hbn hbm
  cases b1
  · obtain rfl : r = 1 := by rw [HV.out]; exact txR_form (.inl HB1.out.symm)
    go_enter Try.func121, Try.ntmps121
    go_wp2
    go_quiet (first | (go_at_call 140; refine Calls.quiet_of_same (h1 _)))
    go_wp2
    go_ret
    exact ⟨rfl, Joins.below_draws _ _ _⟩
  by_cases hiff : ¬ (k = 0 ↔ f = 0)
  · obtain rfl : r = 1 := by rw [HV.out]; exact txR_form (.inr hiff)
    by_cases hk0 : k = 0
    · have hf0 : ¬ f = 0 := fun e => hiff ⟨fun _ => e, fun _ => hk0⟩
      have hfb : (f == 0) = false := by simpa using hf0
      subst hk0
      go_enter Try.func121, Try.ntmps121
      go_wp2
      go_quiet (first | (go_at_call 140; refine Calls.quiet_of_same (h1 _)))
      go_wp2
      go_ret
      exact ⟨rfl, Joins.below_draws _ _ _⟩
    · have hf0 : f = 0 := Classical.not_not.1 fun e => hiff ⟨fun h => absurd h hk0, fun h => absurd h e⟩
      have hkb : (k == 0) = false := by simpa using hk0
      subst hf0
      go_enter Try.func121, Try.ntmps121
      go_wp2
      go_quiet (first | (go_at_call 140; refine Calls.quiet_of_same (h1 _)))
      go_wp2
      go_ret
      exact ⟨rfl, Joins.below_draws _ _ _⟩
  replace hiff : k = 0 ↔ f = 0 := Classical.not_not.1 hiff
  by_cases hrg : k ≠ 0 ∧ bf = false
  · obtain ⟨hk0, rfl⟩ := hrg
    obtain rfl : r = 3 := by rw [HV.out]; exact txR_range HB1.out.symm hiff hk0 HBF.out.symm
    have hkb : (k == 0) = false := by simpa using hk0
    have hfb : (f == 0) = false := by simpa using fun e => hk0 (hiff.2 e)
    have hf0 : ¬ f = 0 := fun e => hk0 (hiff.2 e)
    clear hiff
    go_enter Try.func121, Try.ntmps121
    go_wp2
    go_quiet (first | (go_at_call 140; refine Calls.quiet_of_same (h1 _)))
    go_wp2_with (first | (go_at_call 89; refine (h2 _).mono ?_; rintro e w' ⟨rfl, hw⟩; have hw2 := hw.symm; subst hw2))
    go_ret
    exact ⟨rfl, Joins.below_draws _ _ _⟩
  have HRG : Hid (¬ (k ≠ 0 ∧ inB f 1 999 = false)) := by show ¬ _; rw [← HBF.out]; exact hrg
  have HIF : Hid (k = 0 ↔ f = 0) := hiff
  by_cases hmn : bn = false ∨ bm = false
  · obtain rfl : r = 2 := by rw [HV.out]; exact txR_many HN.out HM.out HB1.out.symm HIF.out HRG.out (by rw [← HBN.out, ← HBM.out]; exact hmn)
    have hmn2 : bn = false ∨ bn = true ∧ bm = false := by rcases hmn with h | h <;> cases bn <;> simp_all
    clear hmn
    by_cases hk0 : k = 0
    · obtain rfl : f = 0 := hiff.1 hk0
      subst hk0
      clear hiff hrg
      rcases hmn2 with rfl | ⟨rfl, rfl⟩
      all_goals
        go_enter Try.func121, Try.ntmps121
        go_wp2
        go_quiet (first | (go_at_call 140; refine Calls.quiet_of_same (h1 _)))
        go_wp2_with (first | (go_at_call 140; (first | (with_reducible refine (h3 _).mono ?_; skip) | (with_reducible refine (h4 _).mono ?_; skip)); rintro e w' ⟨rfl, hw⟩; have hw2 := hw.symm; subst hw2))
        go_ret
        exact ⟨rfl, Joins.below_draws _ _ _⟩
    · have hkb : (k == 0) = false := by simpa using hk0
      have hf0 : ¬ f = 0 := fun e => hk0 (hiff.2 e)
      have hfb : (f == 0) = false := by simpa using hf0
      obtain rfl : bf = true := by cases bf; exact absurd ⟨hk0, rfl⟩ hrg; rfl
      clear hiff hrg
      rcases hmn2 with rfl | ⟨rfl, rfl⟩
      all_goals
        go_enter Try.func121, Try.ntmps121
        go_wp2
        go_quiet (first | (go_at_call 140; refine Calls.quiet_of_same (h1 _)))
        go_wp2_with (first | (go_at_call 89; refine (h2 _).mono ?_; rintro e w' ⟨rfl, hw⟩; have hw2 := hw.symm; subst hw2) | (go_at_call 140; (first | (with_reducible refine (h3 _).mono ?_; skip) | (with_reducible refine (h4 _).mono ?_; skip)); rintro e w' ⟨rfl, hw⟩; have hw2 := hw.symm; subst hw2))
        go_ret
        exact ⟨rfl, Joins.below_draws _ _ _⟩
  obtain rfl : bn = true := by cases bn <;> simp_all
  obtain rfl : bm = true := by cases bm <;> simp_all
  have HREST : Hid (r = if refsR [] rs ≠ 0 then refsR [] rs else joinR k os) := by show _ = _; rw [HV.out]; exact txR_rest HN.out HM.out HB1.out.symm HIF.out HRG.out HBN.out.symm HBM.out.symm
  have hn4 := inB_true.1 HBN.out.symm
  have hm4 := inB_true.1 HBM.out.symm
  clear hmn HV
  rcases (show (k = 0 ∧ f = 0) ∨ ((k == 0) = false ∧ (f == 0) = false ∧ ¬ k = 0 ∧ ¬ f = 0 ∧ bf = true) by
    by_cases hk0 : k = 0
    · exact .inl ⟨hk0, hiff.1 hk0⟩
    · have hf0 : ¬ f = 0 := fun e => hk0 (hiff.2 e)
      refine .inr ⟨by simpa using hk0, by simpa using hf0, hk0, hf0, ?_⟩
      cases bf
      · exact absurd ⟨hk0, rfl⟩ hrg
      · rfl) with ⟨rfl, rfl⟩ | ⟨hkb, hfb, hk0, hf0, rfl⟩
  all_goals
    clear hiff hrg
    go_enter Try.func121, Try.ntmps121
    go_wp2
    go_quiet (first | (go_at_call 140; refine Calls.quiet_of_same (h1 _)))
    go_wp2_with (first | (go_at_call 89; refine (h2 _).mono ?_; rintro e w' ⟨rfl, hw⟩; have hw2 := hw.symm; subst hw2) | (go_at_call 140; (first | (with_reducible refine (h3 _).mono ?_; skip) | (with_reducible refine (h4 _).mono ?_; skip)); rintro e w' ⟨rfl, hw⟩; have hw2 := hw.symm; subst hw2))
    clear h1 h2 h3 h4
    go_loopw [3] (fun i wr => ∃ j : Nat, j ≤ n ∧ i = .int .i64 j ∧ Below w.heap.size w wr ∧ Hid (refsR [] rs = refsR (rs.take j) (rs.drop j))) (fun i _ => n - (intOf i).toNat)
    case atStart => exact ⟨0, Nat.zero_le _, rfl, Joins.below_draws _ _ _, by show _ = _; simp⟩
    case round =>
      obtain ⟨j, hj, rfl, hbel, HT⟩ := hrel
      have y2 := (hbel.cell (p := ⟨P, 2, none⟩) hPl).trans p2
      by_cases hlt : j < n
      · rcases HR.out.2 with h0 | ⟨b, off, ha, hb, hc⟩
        · omega
        subst ha
        obtain ⟨g, hg⟩ : ∃ g, g = rs.getD j G0 := ⟨_, rfl⟩
        have hcx := hc j hlt
        rw [← hg] at hcx
        obtain ⟨g1, g2⟩ := g
        have c0 := (hbel.cell (p := ⟨b, off + j * 2, none⟩) hb).trans hcx.1
        have c1 := (hbel.cell (p := ⟨b, off + j * 2 + 1, none⟩) hb).trans hcx.2
        have HG : Hid ((g1, g2) = rs.getD j G0) := hg
        have hki : (j : Int) < (n : Int) := by omega
        have hkc : (j : Int) ≤ (c : Int) := by omega
        have hkm : j ≤ maxLen := by unfold maxLen; omega
        obtain ⟨kr, hkr⟩ : ∃ b, b = refB (g1, g2) := ⟨_, rfl⟩
        have hrf := l3Ref_any g1 g2 wr
        rw [← hkr] at hrf
        have HKR : Hid (kr = refB (g1, g2)) := hkr
        clear hg hc hcx hkr
        cases kr
        · obtain rfl : r = 3 := by have e1 := refs_bad HN.out hlt HG.out HT.out HKR.out.symm; rw [HREST.out, e1]; rfl
          go_wp2_with (first | (go_at_call 150; refine hrf.mono ?_; rintro e w2 ⟨rfl, hb2⟩))
          go_ret
          exact ⟨rfl, hbel.trans (hb2.mono hbel.size)⟩
        · obtain ⟨mb, hmb⟩ : ∃ b, b = memB (rs.take j) (g1, g2) := ⟨_, rfl⟩
          have HMB : Hid (memB (rs.take j) (g1, g2) = mb) := hmb.symm
          clear hmb
          go_wp2_with (first | (go_at_call 150; refine hrf.mono ?_; rintro e w2 ⟨rfl, hb2⟩; have hbw : Below w.heap.size w w2 := hbel.trans (hb2.mono hbel.size); have z2 := (hbw.cell (p := ⟨P, 2, none⟩) hPl).trans p2; have x0 := (hb2.cell (p := ⟨b, off + j * 2, none⟩) (Nat.lt_of_lt_of_le hb hbel.size)).trans c0; have x1 := (hb2.cell (p := ⟨b, off + j * 2 + 1, none⟩) (Nat.lt_of_lt_of_le hb hbel.size)).trans c1; clear hb2))
          have hPw : P < w2.heap.size := Nat.lt_of_lt_of_le hPl hbw.size
          have hbw2 : b < w2.heap.size := Nat.lt_of_lt_of_le hb hbw.size
          have ham : Calls Try.prog 151 #[.slice (some ⟨b, off, none⟩) j c, .agg #[.int .i64 g1, .int .i64 g2]] w2.drew fun e w' => e = .returned (.bool mb) ∧ Below w2.heap.size w2 w' := by
            have := l3Among_any (some ⟨b, off, none⟩) j c (rs.take j) g1 g2 w2.drew hkm (((HR.out.below hbw (Nat.le_refl _)).take hj).below (Below.refl _ _).drew (Nat.le_refl _))
            rw [HMB.out] at this
            exact this.mono fun e w' h => ⟨h.1, (Below.refl _ _).drew.trans h.2⟩
          go_region_held3 (fun w' => w'.cell? ⟨P, 2, none⟩ = some (.slice (some ⟨b, off, none⟩) n c) ∧ w'.cell? ⟨b, off + j * 2, none⟩ = some (.int .i64 g1) ∧ w'.cell? ⟨b, off + j * 2 + 1, none⟩ = some (.int .i64 g2)) (go_keep)
            (first | (go_at_call 151; refine ham.mono ?_; rintro e w3 ⟨rfl, hb3⟩; have q1 := (hb3.cell (p := ⟨P, 2, none⟩) hPw).trans z2; have q2 := (hb3.cell (p := ⟨b, off + j * 2, none⟩) hbw2).trans x0; have q3 := (hb3.cell (p := ⟨b, off + j * 2 + 1, none⟩) hbw2).trans x1))
          cases mb
          · go_wp2
            go_roundw
            case rel => exact ⟨j + 1, by omega, by go_num, hbw.trans (hb3.mono hbw.size), refs_go HN.out hlt HG.out HT.out HKR.out.symm HMB.out⟩
            case measure => simp [intOf]; omega
          · obtain rfl : r = 7 := by have e1 := refs_taken HN.out hlt HG.out HT.out HKR.out.symm HMB.out; rw [HREST.out, e1]; rfl
            go_wp2
            go_ret
            exact ⟨rfl, hbw.trans (hb3.mono hbw.size)⟩
      · have y0 := (hbel.cell (p := ⟨P, 0, none⟩) hPl).trans p0
        have y3 := (hbel.cell (p := ⟨P, 3, none⟩) hPl).trans p3
        have hlo := l3Outs_any P m d oa os _ wr (by omega) hm HK.out (HO.out.below hbel (Nat.le_refl _)) (Nat.lt_of_lt_of_le hPl hbel.size) y0 y3
        have e1 := refs_done HN.out hlt HT.out
        have e2 := HREST.out
        rw [e1, if_neg (by simp)] at e2
        rw [← e2] at hlo
        clear e1 e2
        go_wp2_with (first | (go_at_call 152; refine hlo.mono ?_; rintro e w2 ⟨rfl, hb2⟩))
        go_ret
        exact ⟨rfl, hbel.trans (hb2.mono hbel.size)⟩

theorem sTxFault_any (n c m d : Nat) (ia oa : Option Addr) (k f : Int) (rs : List (Int × Int)) (os : List Ou) (w : World) (hn : n ≤ 1048576) (hm : m ≤ 1048576) (hc1 : n ≤ c) (hc2 : c ≤ maxLen) (hk : ∀ j, j < m → (os.getD j O0).l.length ≤ 1048576) (h : TxAt w ia n oa m rs os) :
    Calls Try.prog 59 #[.agg #[.int .i64 k, .int .i64 f, .slice ia n c, .slice oa m d]] w fun e w' => e = .returned (.int .i64 (txR k f rs os)) ∧ Below w.heap.size w w' := by
  have hbx : Below w.heap.size w (w.alloc (.cells #[.int .i64 k, .int .i64 f, .slice ia n c, .slice oa m d] 86)) := below_box _
  have hS := l3Fault_any w.heap.size n c m d ia oa k f rs os _ hn hm hc1 hc2 hk (h.below hbx (Nat.le_refl _)) (heap_alloc_new _ _)
  have HBX : Hid (Below w.heap.size w (w.alloc (.cells #[.int .i64 k, .int .i64 f, .slice ia n c, .slice oa m d] 86))) := hbx
  clear hbx h hk
  go_enter Try.func59, Try.ntmps59
  go_wp2_with (go_at_call 121; refine hS.mono ?_; rintro e w2 ⟨rfl, hb2⟩)
  go_ret
  exact ⟨rfl, HBX.out.trans (hb2.mono (by simp))⟩

end Go.Proofs.Ytaopblgnmmhjfaa
