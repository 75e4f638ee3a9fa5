/- The program's fault of a block. -/
import Derived.Test.YtlacmcedpphphaaDoorFc
namespace Go.Proofs.YtlacmcedpphphaaDoor
open Go.RowKit Go.Maps Go.WideMaps

set_option maxRecDepth 20000 in
set_option maxHeartbeats 4000000 in
theorem blockTxs_any (n c : Nat) (a : Option Addr) (l : List Int) (w : World) (hn : n ≤ 1048576) (hc1 : n ≤ c) (_hc2 : c ≤ maxLen) (hI : IAt w a n l) :
    Calls Tryd.prog 29 #[.slice a n c] w fun e w' => e = .returned (.int .i64 (txsR l)) ∧ w' = w := by
  have HI : Hid (IAt w a n l) := hI
  have HN : Hid (l.length = n) := hI.1
  obtain ⟨r, hr⟩ : ∃ r, r = txsR l := ⟨_, rfl⟩
  rw [← hr]
  have HR : Hid (r = txsR l) := hr
  clear hI hr
  by_cases h6 : 6 < n
  · obtain rfl : r = 2 := by rw [HR.out]; unfold txsR; rw [if_pos (by rw [HN.out]; exact h6)]
    go_enter Tryd.func29, Tryd.ntmps29
    go_wp2
    go_ret
    exact ⟨rfl, rfl⟩
  have HR2 : Hid (r = txgR (l.take 0) (l.drop 0)) := by show _ = _; rw [HR.out]; unfold txsR; rw [if_neg (by rw [HN.out]; exact h6)]; rfl
  clear HR
  go_enter Tryd.func29, Tryd.ntmps29
  go_wp2
  go_loopw [10] (fun i wr => ∃ j : Nat, j ≤ n ∧ i = .int .i64 j ∧ Hid (r = txgR (l.take j) (l.drop j)) ∧ wr = w) (fun i _ => n - (intOf i).toNat)
  case atStart => exact ⟨0, Nat.zero_le _, rfl, HR2.out, rfl⟩
  case round =>
    obtain ⟨j, hj, rfl, HT, hw⟩ := hrel
    have hw2 := hw.symm
    subst hw2
    by_cases hlt : j < n
    · rcases HI.out.2 with h0 | ⟨b, off, ha, hb, hc⟩
      · omega
      subst ha
      obtain ⟨x, hx⟩ : ∃ x, x = l.getD j 0 := ⟨_, rfl⟩
      have c0 := hc j hlt
      rw [← hx] at c0
      have HX : Hid (x = l.getD j 0) := hx
      have hki : (j : Int) < (n : Int) := by omega
      have hkc : (j : Int) ≤ (c : Int) := by omega
      have hkm : j ≤ maxLen := by unfold maxLen; omega
      obtain ⟨kx, hkx⟩ : ∃ b, b = inB x 1 60 := ⟨_, rfl⟩
      have h4 : ∀ u, Calls Tryd.prog 48 #[.int .i64 x] u fun e w' => e = .returned (.bool kx) ∧ w' = u := fun u => by rw [hkx]; exact isTxId_any _ u
      have HKX : Hid (inB x 1 60 = kx) := hkx.symm
      clear hx hc hkx
      cases kx
      · obtain rfl : r = 3 := txg_bad HN.out hlt HX.out HT.out HKX.out
        go_wp2_with (first | (go_at_call 48; (with_reducible refine (h4 _).mono ?_); clear h4; rintro e w' ⟨rfl, hw⟩; have hw2 := hw.symm; subst hw2; clear hw))
        go_ret
        exact ⟨rfl, rfl⟩
      · obtain ⟨mb, hmb⟩ : ∃ b, b = hasK (l.take j) x := ⟨_, rfl⟩
        have HMB : Hid (hasK (l.take j) x = mb) := hmb.symm
        have ham : Calls Tryd.prog 49 #[.slice (some ⟨b, off, none⟩) j c, .int .i64 x] w fun e w' => e = .returned (.bool mb) ∧ w' = w := by
          rw [hmb]
          exact iContains_any (some ⟨b, off, none⟩) j c (l.take j) x w hkm (HI.out.take hj)
        clear hmb
        cases mb
        · go_wp2_with (first | (go_at_call 48; (with_reducible refine (h4 _).mono ?_); clear h4; rintro e w' ⟨rfl, hw⟩; have hw2 := hw.symm; subst hw2; clear hw) | (go_at_call 49; (with_reducible refine ham.mono ?_); clear ham; rintro e w' ⟨rfl, hw⟩; have hw2 := hw.symm; subst hw2; clear hw))
          go_roundw
          case rel => exact ⟨j + 1, by omega, by go_num, txg_go HN.out hlt HX.out HT.out HKX.out HMB.out, (by first | rfl | trivial)⟩
          case measure => simp [intOf]; omega
        · obtain rfl : r = 7 := txg_taken HN.out hlt HX.out HT.out HKX.out HMB.out
          go_wp2_with (first | (go_at_call 48; (with_reducible refine (h4 _).mono ?_); clear h4; rintro e w' ⟨rfl, hw⟩; have hw2 := hw.symm; subst hw2; clear hw) | (go_at_call 49; (with_reducible refine ham.mono ?_); clear ham; rintro e w' ⟨rfl, hw⟩; have hw2 := hw.symm; subst hw2; clear hw))
          go_ret
          exact ⟨rfl, rfl⟩
    · obtain rfl : r = 0 := txg_end HN.out hlt HT.out
      go_wp2
      go_ret
      exact ⟨rfl, rfl⟩

def headR (p h m : Int) : Int := if inB p 0 60 = false ∨ inB h 1 40 = false ∨ inB m 1 999 = false then 3 else if (p == 0) ≠ (h == 1) then 1 else 0
theorem blR_of {p h m : Int} {l : List Int} : blR p h m l = if headR p h m ≠ 0 then headR p h m else txsR l := by
  unfold blR headR
  split
  · simp
  · split
    · simp
    · simp

set_option maxRecDepth 20000 in
set_option maxHeartbeats 4000000 in
theorem headFault_any (n c : Nat) (a : Option Addr) (p h m : Int) (w : World) :
    Calls Tryd.prog 28 #[.agg #[.int .i64 p, .int .i64 h, .int .i64 m, .slice a n c]] w fun e w' => e = .returned (.int .i64 (headR p h m)) ∧ Below w.heap.size w w' := by
  have HBX : Hid (Below w.heap.size w (w.alloc (.cells #[.int .i64 p, .int .i64 h, .int .i64 m, .slice a n c] 27))) := below_box _
  obtain ⟨q0, q1, q2, q3, _⟩ := cells4 (heap_alloc_new w (.cells #[.int .i64 p, .int .i64 h, .int .i64 m, .slice a n c] 27))
  obtain ⟨r, hr⟩ : ∃ r, r = headR p h m := ⟨_, rfl⟩
  rw [← hr]
  have HR : Hid (r = headR p h m) := hr
  obtain ⟨kp, hkp⟩ : ∃ k, k = inB p 0 60 := ⟨_, rfl⟩
  obtain ⟨kh, hkh⟩ : ∃ k, k = inB h 1 40 := ⟨_, rfl⟩
  obtain ⟨km, hkm⟩ : ∃ k, k = inB m 1 999 := ⟨_, rfl⟩
  have h1 : ∀ u, Calls Tryd.prog 46 #[.int .i64 p, .int .i64 0, .int .i64 60] u fun e w' => e = .returned (.bool kp) ∧ w' = u := fun u => by rw [hkp]; exact isWithin_any _ _ _ u
  have h2 : ∀ u, Calls Tryd.prog 30 #[.int .i64 h] u fun e w' => e = .returned (.bool kh) ∧ w' = u := fun u => by rw [hkh]; exact isBH_any _ u
  have h3 : ∀ u, Calls Tryd.prog 47 #[.int .i64 m] u fun e w' => e = .returned (.bool km) ∧ w' = u := fun u => by rw [hkm]; exact isKey_any _ u
  have HK : Hid (inB p 0 60 = kp ∧ inB h 1 40 = kh ∧ inB m 1 999 = km) := ⟨hkp.symm, hkh.symm, hkm.symm⟩
  clear hr hkp hkh hkm
  by_cases hk : kp = false ∨ kh = false ∨ km = false
  · obtain rfl : r = 3 := by rw [HR.out]; unfold headR; rw [HK.out.1, HK.out.2.1, HK.out.2.2, if_pos hk]
    cases kp <;> cases kh <;> cases km <;> first | (exfalso; simp at hk; done) | skip
    all_goals
      clear hk
      go_enter Tryd.func28, Tryd.ntmps28
      go_wp2_with (first | (go_at_call 46; (with_reducible refine (h1 _).mono ?_); clear h1; rintro e w' ⟨rfl, hw⟩; have hw2 := hw.symm; subst hw2; clear hw) | (go_at_call 30; (with_reducible refine (h2 _).mono ?_); clear h2; rintro e w' ⟨rfl, hw⟩; have hw2 := hw.symm; subst hw2; clear hw) | (go_at_call 47; (with_reducible refine (h3 _).mono ?_); clear h3; rintro e w' ⟨rfl, hw⟩; have hw2 := hw.symm; subst hw2; clear hw))
      go_ret
      exact ⟨rfl, HBX.out⟩
  · obtain ⟨rfl, rfl, rfl⟩ : kp = true ∧ kh = true ∧ km = true := by revert hk; cases kp <;> cases kh <;> cases km <;> simp
    clear hk
    obtain ⟨bp, hbp⟩ : ∃ b, b = (p == 0) := ⟨_, rfl⟩
    obtain ⟨bh, hbh⟩ : ∃ b, b = (h == 1) := ⟨_, rfl⟩
    have HR2 : Hid (r = if bp ≠ bh then 1 else 0) := by show _ = _; rw [HR.out]; unfold headR; rw [if_neg (by simp [HK.out]), hbp, hbh]
    have e1 : (p == 0) = bp := hbp.symm
    have e2 : (h == 1) = bh := hbh.symm
    clear hbp hbh HR
    cases bp <;> cases bh
    · obtain rfl : r = 0 := by rw [HR2.out]; rfl
      go_enter Tryd.func28, Tryd.ntmps28
      go_wp2_with (first | (go_at_call 46; (with_reducible refine (h1 _).mono ?_); clear h1; rintro e w' ⟨rfl, hw⟩; have hw2 := hw.symm; subst hw2; clear hw) | (go_at_call 30; (with_reducible refine (h2 _).mono ?_); clear h2; rintro e w' ⟨rfl, hw⟩; have hw2 := hw.symm; subst hw2; clear hw) | (go_at_call 47; (with_reducible refine (h3 _).mono ?_); clear h3; rintro e w' ⟨rfl, hw⟩; have hw2 := hw.symm; subst hw2; clear hw))
      go_ret
      exact ⟨rfl, HBX.out⟩
    · obtain rfl : r = 1 := by rw [HR2.out]; rfl
      go_enter Tryd.func28, Tryd.ntmps28
      go_wp2_with (first | (go_at_call 46; (with_reducible refine (h1 _).mono ?_); clear h1; rintro e w' ⟨rfl, hw⟩; have hw2 := hw.symm; subst hw2; clear hw) | (go_at_call 30; (with_reducible refine (h2 _).mono ?_); clear h2; rintro e w' ⟨rfl, hw⟩; have hw2 := hw.symm; subst hw2; clear hw) | (go_at_call 47; (with_reducible refine (h3 _).mono ?_); clear h3; rintro e w' ⟨rfl, hw⟩; have hw2 := hw.symm; subst hw2; clear hw))
      go_ret
      exact ⟨rfl, HBX.out⟩
    · obtain rfl : r = 1 := by rw [HR2.out]; rfl
      go_enter Tryd.func28, Tryd.ntmps28
      go_wp2_with (first | (go_at_call 46; (with_reducible refine (h1 _).mono ?_); clear h1; rintro e w' ⟨rfl, hw⟩; have hw2 := hw.symm; subst hw2; clear hw) | (go_at_call 30; (with_reducible refine (h2 _).mono ?_); clear h2; rintro e w' ⟨rfl, hw⟩; have hw2 := hw.symm; subst hw2; clear hw) | (go_at_call 47; (with_reducible refine (h3 _).mono ?_); clear h3; rintro e w' ⟨rfl, hw⟩; have hw2 := hw.symm; subst hw2; clear hw))
      go_ret
      exact ⟨rfl, HBX.out⟩
    · obtain rfl : r = 0 := by rw [HR2.out]; rfl
      go_enter Tryd.func28, Tryd.ntmps28
      go_wp2_with (first | (go_at_call 46; (with_reducible refine (h1 _).mono ?_); clear h1; rintro e w' ⟨rfl, hw⟩; have hw2 := hw.symm; subst hw2; clear hw) | (go_at_call 30; (with_reducible refine (h2 _).mono ?_); clear h2; rintro e w' ⟨rfl, hw⟩; have hw2 := hw.symm; subst hw2; clear hw) | (go_at_call 47; (with_reducible refine (h3 _).mono ?_); clear h3; rintro e w' ⟨rfl, hw⟩; have hw2 := hw.symm; subst hw2; clear hw))
      go_ret
      exact ⟨rfl, HBX.out⟩

set_option maxRecDepth 20000 in
set_option maxHeartbeats 4000000 in
theorem iBlockFault_any (n c : Nat) (a : Option Addr) (p h m : Int) (l : List Int) (w : World) (hn : n ≤ 1048576) (hc1 : n ≤ c) (hc2 : c ≤ maxLen) (hI : IAt w a n l) :
    Calls Tryd.prog 11 #[.agg #[.int .i64 p, .int .i64 h, .int .i64 m, .slice a n c]] w fun e w' => e = .returned (.int .i64 (blR p h m l)) ∧ Below w.heap.size w w' := by
  have HBX : Hid (Below w.heap.size w (w.alloc (.cells #[.int .i64 p, .int .i64 h, .int .i64 m, .slice a n c] 27))) := below_box _
  have HX : Hid ((w.alloc (.cells #[.int .i64 p, .int .i64 h, .int .i64 m, .slice a n c] 27)).heap[w.heap.size]? = some (.cells #[.int .i64 p, .int .i64 h, .int .i64 m, .slice a n c] 27 (0, 0))) := heap_alloc_new _ _
  have hH := headFault_any n c a p h m (w.alloc (.cells #[.int .i64 p, .int .i64 h, .int .i64 m, .slice a n c] 27))
  have HI : Hid (IAt w a n l) := hI
  rw [blR_of]
  obtain ⟨r, hr⟩ : ∃ r, r = headR p h m := ⟨_, rfl⟩
  rw [← hr] at hH ⊢
  clear hr hI
  by_cases h0 : r = 0
  · subst h0
    rw [if_neg (by simp)]
    obtain ⟨r, hr⟩ : ∃ r, r = txsR l := ⟨_, rfl⟩
    have HT : Hid (∀ W, Below w.heap.size w W → Calls Tryd.prog 29 #[.slice a n c] W fun e w' => e = .returned (.int .i64 r) ∧ w' = W) := fun W hW => by
      rw [hr]; exact blockTxs_any n c a l W hn hc1 hc2 (HI.out.below hW (Nat.le_refl _))
    rw [← hr]
    clear hr
    go_enter Tryd.func11, Tryd.ntmps11
    go_wp2_with (first | (go_at_call 28; (with_reducible refine hH.mono ?_); clear hH; rintro e w2 ⟨rfl, hb2⟩; obtain ⟨y0, y1, y2, y3, _⟩ := cells4 (keepb HX.out hb2).out; have HB2 : Hid (Below w.heap.size w w2) := HBX.out.trans (hb2.mono HBX.out.size); have hT := HT.out w2 HB2.out; clear hb2) | (go_at_call 29; (with_reducible refine hT.mono ?_); clear hT; rintro e w' ⟨rfl, hw⟩; have hw2 := hw.symm; subst hw2; clear hw))
    go_ret
    exact ⟨rfl, HB2.out⟩
  · rw [if_pos h0]
    go_enter Tryd.func11, Tryd.ntmps11
    go_wp2_with (first | (go_at_call 28; (with_reducible refine hH.mono ?_); clear hH; rintro e w2 ⟨rfl, hb2⟩))
    go_ret
    exact ⟨rfl, HBX.out.trans (hb2.mono HBX.out.size)⟩

end Go.Proofs.YtlacmcedpphphaaDoor
