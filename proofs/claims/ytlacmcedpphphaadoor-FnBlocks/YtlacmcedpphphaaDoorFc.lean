/- The fault of a block: what it comes to, the specification's, the program's. -/
import Derived.Test.YtlacmcedpphphaaDoorLOwnedBy
import Derived.Test.YtlacmcedpphphaaDoorRu
import Derived.Test.YtlacmcedpphphaaDoorITx
import Derived.Test.YtlacmcedpphphaaDoorFb
namespace Go.Proofs.YtlacmcedpphphaaDoor
open Go.RowKit Go.Maps Go.WideMaps

def txgR (seen : List Int) : List Int → Int
  | [] => 0
  | x :: t => if inB x 1 60 = false then 3 else if hasK seen x = true then 7 else txgR (seen ++ [x]) t
def txsR (l : List Int) : Int := if 6 < l.length then 2 else txgR [] l
def blR (p h m : Int) (l : List Int) : Int := if inB p 0 60 = false ∨ inB h 1 40 = false ∨ inB m 1 999 = false then 3 else if (p == 0) ≠ (h == 1) then 1 else txsR l

theorem next_int {l : List Int} {n j : Nat} {x : Int} (hn : l.length = n) (hlt : j < n) (hx : x = l.getD j 0) : l.drop j = x :: l.drop (j + 1) := by
  rw [hx, List.drop_eq_getElem_cons (by omega)]
  simp [List.getElem?_eq_getElem (show j < l.length by omega)]
theorem txg_bad {l : List Int} {n j : Nat} {x r : Int} (hn : l.length = n) (hlt : j < n) (hx : x = l.getD j 0) (h : r = txgR (l.take j) (l.drop j)) (hb : inB x 1 60 = false) : r = 3 := by
  rw [h, next_int hn hlt hx, txgR, if_pos hb]
theorem txg_taken {l : List Int} {n j : Nat} {x r : Int} (hn : l.length = n) (hlt : j < n) (hx : x = l.getD j 0) (h : r = txgR (l.take j) (l.drop j)) (hb : inB x 1 60 = true) (hk : hasK (l.take j) x = true) : r = 7 := by
  rw [h, next_int hn hlt hx, txgR, if_neg (by simp [hb]), if_pos hk]
theorem txg_go {l : List Int} {n j : Nat} {x r : Int} (hn : l.length = n) (hlt : j < n) (hx : x = l.getD j 0) (h : r = txgR (l.take j) (l.drop j)) (hb : inB x 1 60 = true) (hk : hasK (l.take j) x = false) : Hid (r = txgR (l.take (j + 1)) (l.drop (j + 1))) := by
  show _ = _
  rw [h, next_int hn hlt hx, txgR, if_neg (by simp [hb]), if_neg (by simp [hk]), take_next hn hlt hx]
theorem txg_end {l : List Int} {n j : Nat} {r : Int} (hn : l.length = n) (hlt : ¬ j < n) (h : r = txgR (l.take j) (l.drop j)) : r = 0 := by
  rw [h, List.drop_eq_nil_of_le (by omega)]; rfl
theorem IAt.take {w : World} {a : Option Addr} {n k : Nat} {l : List Int} (h : IAt w a n l) (hk : k ≤ n) : IAt w a k (l.take k) := by
  obtain ⟨hn, h⟩ := h
  refine ⟨by simp; omega, ?_⟩
  rcases h with h | ⟨b, off, rfl, hb, hc⟩
  · exact .inl (by omega)
  · refine .inr ⟨b, off, rfl, hb, fun j hj => ?_⟩
    rw [hc j (by omega)]
    simp [List.getD, hj]
theorem blR_range {p h m : Int} {l : List Int} (hb : inB p 0 60 = false ∨ inB h 1 40 = false ∨ inB m 1 999 = false) : blR p h m l = 3 := by unfold blR; rw [if_pos hb]
theorem blR_form {p h m : Int} {l : List Int} (h0 : inB p 0 60 = true) (h1 : inB h 1 40 = true) (h2 : inB m 1 999 = true) (hb : (p == 0) ≠ (h == 1)) : blR p h m l = 1 := by unfold blR; rw [if_neg (by simp [h0, h1, h2]), if_pos hb]
theorem blR_many {p h m : Int} {l : List Int} (h0 : inB p 0 60 = true) (h1 : inB h 1 40 = true) (h2 : inB m 1 999 = true) (hb : (p == 0) = (h == 1)) (h6 : 6 < l.length) : blR p h m l = 2 := by unfold blR txsR; rw [if_neg (by simp [h0, h1, h2]), if_neg (by simp [hb]), if_pos h6]
theorem blR_txs {p h m : Int} {l : List Int} (h0 : inB p 0 60 = true) (h1 : inB h 1 40 = true) (h2 : inB m 1 999 = true) (hb : (p == 0) = (h == 1)) (h6 : ¬ 6 < l.length) : blR p h m l = txgR [] l := by unfold blR txsR; rw [if_neg (by simp [h0, h1, h2]), if_neg (by simp [hb]), if_neg h6]
set_option maxRecDepth 20000 in
set_option maxHeartbeats 4000000 in
theorem l7Fault_any (P n c : Nat) (a : Option Addr) (p h m : Int) (l : List Int) (w : World) (hn : n ≤ 1048576) (hc1 : n ≤ c) (_hc2 : c ≤ maxLen) (hI : IAt w a n l) (hP : w.heap[P]? = some (.cells #[.int .i64 p, .int .i64 h, .int .i64 m, .slice a n c] 27 (0, 0))) :
    Calls Tryd.prog 27 #[.pointer (some ⟨P, 0, none⟩)] w fun e w' => e = .returned (.int .i64 (blR p h m l)) ∧ Below w.heap.size w w' := by
  have HI : Hid (IAt w a n l) := hI
  have HN : Hid (l.length = n) := hI.1
  have hPl : P < w.heap.size := lt_of_block hP
  obtain ⟨q0, q1, q2, q3, _⟩ := cells4 hP
  obtain ⟨r, hr⟩ : ∃ r, r = blR p h m l := ⟨_, rfl⟩
  rw [← hr]
  have HR : Hid (r = blR p h m l) := hr
  obtain ⟨kp, hkp⟩ : ∃ k, k = inB p 0 60 := ⟨_, rfl⟩
  obtain ⟨kh, hkh⟩ : ∃ k, k = inB h 1 40 := ⟨_, rfl⟩
  obtain ⟨km, hkm⟩ : ∃ k, k = inB m 1 999 := ⟨_, rfl⟩
  have h1 : ∀ u, Calls Tryd.prog 31 #[.int .i64 p, .int .i64 0, .int .i64 60] u fun e w' => e = .returned (.bool kp) ∧ w' = u := fun u => by rw [hkp]; exact l1In_any _ _ _ u
  have h2 : ∀ u, Calls Tryd.prog 31 #[.int .i64 h, .int .i64 1, .int .i64 40] u fun e w' => e = .returned (.bool kh) ∧ w' = u := fun u => by rw [hkh]; exact l1In_any _ _ _ u
  have h3 : ∀ u, Calls Tryd.prog 45 #[.int .i64 m] u fun e w' => e = .returned (.bool km) ∧ w' = u := fun u => by rw [hkm]; exact l1Key_any _ u
  have HKP : Hid (inB p 0 60 = kp) := hkp.symm
  have HKH : Hid (inB h 1 40 = kh) := hkh.symm
  have HKM : Hid (inB m 1 999 = km) := hkm.symm
  clear hI hP hr hkp hkh hkm
  cases kp
  · obtain rfl : r = 3 := by rw [HR.out]; exact blR_range (.inl HKP.out)
    go_enter Tryd.func27, Tryd.ntmps27
    go_wp2_with (first | (go_at_call 31; (with_reducible refine (h1 _).mono ?_); clear h1; rintro e w' ⟨rfl, hw⟩; have hw2 := hw.symm; subst hw2; clear hw))
    go_ret
    exact ⟨rfl, Below.refl _ _⟩
  cases kh
  · obtain rfl : r = 3 := by rw [HR.out]; exact blR_range (.inr (.inl HKH.out))
    go_enter Tryd.func27, Tryd.ntmps27
    go_wp2_with (first | (go_at_call 31; (first | ((with_reducible refine (h1 _).mono ?_); clear h1) | ((with_reducible refine (h2 _).mono ?_); clear h2)); rintro e w' ⟨rfl, hw⟩; have hw2 := hw.symm; subst hw2; clear hw))
    go_ret
    exact ⟨rfl, Below.refl _ _⟩
  cases km
  · obtain rfl : r = 3 := by rw [HR.out]; exact blR_range (.inr (.inr HKM.out))
    go_enter Tryd.func27, Tryd.ntmps27
    go_wp2_with (first | (go_at_call 31; (first | ((with_reducible refine (h1 _).mono ?_); clear h1) | ((with_reducible refine (h2 _).mono ?_); clear h2)); rintro e w' ⟨rfl, hw⟩; have hw2 := hw.symm; subst hw2; clear hw) | (go_at_call 45; (with_reducible refine (h3 _).mono ?_); clear h3; rintro e w' ⟨rfl, hw⟩; have hw2 := hw.symm; subst hw2; clear hw))
    go_ret
    exact ⟨rfl, Below.refl _ _⟩
  by_cases hf : (p == 0) = (h == 1)
  · have HF : Hid ((p == 0) = (h == 1)) := hf
    obtain ⟨bp, hbp⟩ : ∃ b, b = (p == 0) := ⟨_, rfl⟩
    have e1 : (p == 0) = bp := hbp.symm
    have e2 : (h == 1) = bp := by rw [← hf]; exact e1
    clear hf hbp
    by_cases h6 : 6 < n
    · obtain rfl : r = 2 := by rw [HR.out]; exact blR_many HKP.out HKH.out HKM.out HF.out (by rw [HN.out]; exact h6)
      go_enter Tryd.func27, Tryd.ntmps27
      go_wp2_with (first | (go_at_call 31; (first | ((with_reducible refine (h1 _).mono ?_); clear h1) | ((with_reducible refine (h2 _).mono ?_); clear h2)); rintro e w' ⟨rfl, hw⟩; have hw2 := hw.symm; subst hw2; clear hw) | (go_at_call 45; (with_reducible refine (h3 _).mono ?_); clear h3; rintro e w' ⟨rfl, hw⟩; have hw2 := hw.symm; subst hw2; clear hw))
      go_quiet (fail)
      go_wp2
      go_ret
      exact ⟨rfl, Joins.below_draws _ _ _⟩
    · have HR2 : Hid (r = txgR (l.take 0) (l.drop 0)) := by show _ = _; rw [HR.out]; simpa using blR_txs HKP.out HKH.out HKM.out HF.out (by rw [HN.out]; exact h6)
      clear HR HF
      go_enter Tryd.func27, Tryd.ntmps27
      go_wp2_with (first | (go_at_call 31; (first | ((with_reducible refine (h1 _).mono ?_); clear h1) | ((with_reducible refine (h2 _).mono ?_); clear h2)); rintro e w' ⟨rfl, hw⟩; have hw2 := hw.symm; subst hw2; clear hw) | (go_at_call 45; (with_reducible refine (h3 _).mono ?_); clear h3; rintro e w' ⟨rfl, hw⟩; have hw2 := hw.symm; subst hw2; clear hw))
      go_quiet (fail)
      go_wp2
      go_loopw [3] (fun i wr => ∃ j : Nat, j ≤ n ∧ i = .int .i64 j ∧ Below w.heap.size w wr ∧ Hid (r = txgR (l.take j) (l.drop j))) (fun i _ => n - (intOf i).toNat)
      case atStart => exact ⟨0, Nat.zero_le _, rfl, Joins.below_draws _ _ _, HR2.out⟩
      case round =>
        obtain ⟨j, hj, rfl, hbel, HT⟩ := hrel
        have y3 := (hbel.cell (p := ⟨P, 3, none⟩) hPl).trans q3
        by_cases hlt : j < n
        · rcases HI.out.2 with h0 | ⟨b, off, ha, hb, hc⟩
          · omega
          subst ha
          obtain ⟨x, hx⟩ : ∃ x, x = l.getD j 0 := ⟨_, rfl⟩
          have hcx := hc j hlt
          rw [← hx] at hcx
          have c0 := (hbel.cell (p := ⟨b, off + j, none⟩) hb).trans hcx
          have HX : Hid (x = l.getD j 0) := hx
          have hki : (j : Int) < (n : Int) := by omega
          have hkc : (j : Int) ≤ (c : Int) := by omega
          have hkm : j ≤ maxLen := by unfold maxLen; omega
          obtain ⟨kx, hkx⟩ : ∃ b, b = inB x 1 60 := ⟨_, rfl⟩
          have h4 : ∀ u, Calls Tryd.prog 31 #[.int .i64 x, .int .i64 1, .int .i64 60] u fun e w' => e = .returned (.bool kx) ∧ w' = u := fun u => by rw [hkx]; exact l1In_any _ _ _ u
          have HKX : Hid (inB x 1 60 = kx) := hkx.symm
          clear hx hc hcx hkx
          cases kx
          · obtain rfl : r = 3 := txg_bad HN.out hlt HX.out HT.out HKX.out
            go_wp2_with (first | (go_at_call 31; (with_reducible refine (h4 _).mono ?_); clear h4; rintro e w' ⟨rfl, hw⟩; have hw2 := hw.symm; subst hw2; clear hw))
            go_ret
            exact ⟨rfl, hbel⟩
          · obtain ⟨mb, hmb⟩ : ∃ b, b = hasK (l.take j) x := ⟨_, rfl⟩
            have HMB : Hid (hasK (l.take j) x = mb) := hmb.symm
            have ham : Calls Tryd.prog 33 #[.slice (some ⟨b, off, none⟩) j c, .int .i64 x] wr.drew fun e w' => e = .returned (.bool mb) ∧ w' = wr.drew := by
              rw [hmb]
              exact l4Among_any (some ⟨b, off, none⟩) j c (l.take j) x wr.drew hkm (((HI.out.below hbel (Nat.le_refl _)).take hj).below (Below.refl _ _).drew (Nat.le_refl _))
            clear hmb
            go_wp2_with (first | (go_at_call 31; (with_reducible refine (h4 _).mono ?_); clear h4; rintro e w' ⟨rfl, hw⟩; have hw2 := hw.symm; subst hw2; clear hw))
            go_region_held3 (fun w' => w'.cell? ⟨P, 3, none⟩ = some (.slice (some ⟨b, off, none⟩) n c) ∧ w'.cell? ⟨b, off + j, none⟩ = some (.int .i64 x)) (go_keep)
              (first | (go_at_call 33; refine ham.mono ?_; rintro e w3 ⟨rfl, rfl⟩))
            cases mb
            · go_wp2
              go_roundw
              case rel => exact ⟨j + 1, by omega, by go_num, hbel.drew, txg_go HN.out hlt HX.out HT.out HKX.out HMB.out⟩
              case measure => simp [intOf]; omega
            · obtain rfl : r = 7 := txg_taken HN.out hlt HX.out HT.out HKX.out HMB.out
              go_wp2
              go_ret
              exact ⟨rfl, hbel.drew⟩
        · obtain rfl : r = 0 := txg_end HN.out hlt HT.out
          go_wp2
          go_ret
          exact ⟨rfl, hbel⟩
  · obtain rfl : r = 1 := by rw [HR.out]; exact blR_form HKP.out HKH.out HKM.out hf
    obtain ⟨bp, hbp⟩ : ∃ b, b = (p == 0) := ⟨_, rfl⟩
    have e1 : (p == 0) = bp := hbp.symm
    have e2 : (h == 1) = !bp := by rw [hbp]; revert hf; cases (p == 0) <;> cases (h == 1) <;> simp
    clear hf hbp
    cases bp
    all_goals
      go_enter Tryd.func27, Tryd.ntmps27
      go_wp2_with (first | (go_at_call 31; (first | ((with_reducible refine (h1 _).mono ?_); clear h1) | ((with_reducible refine (h2 _).mono ?_); clear h2)); rintro e w' ⟨rfl, hw⟩; have hw2 := hw.symm; subst hw2; clear hw) | (go_at_call 45; (with_reducible refine (h3 _).mono ?_); clear h3; rintro e w' ⟨rfl, hw⟩; have hw2 := hw.symm; subst hw2; clear hw))
      go_quiet (fail)
      go_wp2
      go_ret
      exact ⟨rfl, Joins.below_draws _ _ _⟩

end Go.Proofs.YtlacmcedpphphaaDoor
