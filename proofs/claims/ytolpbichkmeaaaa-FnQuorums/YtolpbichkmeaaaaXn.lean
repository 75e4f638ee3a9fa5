/- ChooseQuorum: the specification's. -/
import Derived.Test.YtolpbichkmeaaaaXm
namespace Go.Proofs.Ytolpbichkmeaaaa
open Go.RowKit Go.Maps Go.WideMaps Go.Sort

theorem itake {w : World} {a : Option Addr} {n k : Nat} {l : List Int} (h : IAt w a n l) (hk : k ≤ n) : IAt w a k (l.take k) := by
  obtain ⟨hn, h⟩ := h
  refine ⟨by simp; omega, ?_⟩
  rcases h with h | ⟨b, off, rfl, hb, hc⟩
  · exact .inl (by omega)
  · refine .inr ⟨b, off, rfl, hb, fun j hj => ?_⟩
    rw [hc j (by omega)]
    simp [List.getD, hj]
theorem nodup_next {l : List Int} {n k : Nat} {y : Int} (hn : l.length = n) (hlt : k < n) (hy : y = l.getD k 0) (h : (l.take k).Nodup) (hm : y ∉ l.take k) : (l.take (k + 1)).Nodup := by
  rw [take_next hn hlt hy, List.nodup_append]
  refine ⟨h, by simp, fun a ha b hb => ?_⟩
  rw [List.mem_singleton] at hb
  subst hb
  exact fun e => hm (e ▸ ha)
theorem nodup_not {l : List Int} {n k : Nat} {y : Int} (hn : l.length = n) (hlt : k < n) (hy : y = l.getD k 0) (hm : y ∈ l.take k) : ¬ l.Nodup := fun h => by
  have h2 : (l.take (k + 1)).Nodup := h.sublist (List.take_sublist _ _)
  rw [take_next hn hlt hy, List.nodup_append] at h2
  exact h2.2.2 y hm y (List.mem_singleton.2 rfl) rfl

section
variable {l : List Int} {s m : Int} {n : Nat}
theorem ch_many (hn : l.length = n) (h : 8 < n) : chR l s m = 2 := by unfold chR; rw [hn, if_pos h]
theorem ch_range (hn : l.length = n) (h : ¬ 8 < n) (h2 : allK l = false ∨ inB s 0 65535 = false ∨ inB m 1 8 = false) : chR l s m = 3 := by unfold chR; rw [hn, if_neg h, if_pos h2]
theorem ch_twin (hn : l.length = n) (h : ¬ 8 < n) (h1 : allK l = true) (h2 : inB s 0 65535 = true) (h3 : inB m 1 8 = true) (h4 : ¬ l.Nodup) : chR l s m = 7 := by
  unfold chR
  rw [if_neg (by rw [hn]; exact h), if_neg (by simp [h1, h2, h3]), if_pos (by cases e : riseB 0 ((srt cmpI l l.length).take l.length); rfl; exact absurd ((twins_iff h1).1 e) h4)]
theorem ch_few (hn : l.length = n) (h : ¬ 8 < n) (h1 : allK l = true) (h2 : inB s 0 65535 = true) (h3 : inB m 1 8 = true) (h4 : l.Nodup) (h5 : (n : Int) < m) : chR l s m = 4 := by
  unfold chR
  rw [if_neg (by rw [hn]; exact h), if_neg (by simp [h1, h2, h3]), if_neg (by rw [(twins_iff h1).2 h4]; simp), if_pos (by rw [hn]; exact h5)]
theorem ch_ok (hn : l.length = n) (h : ¬ 8 < n) (h1 : allK l = true) (h2 : inB s 0 65535 = true) (h3 : inB m 1 8 = true) (h4 : l.Nodup) (h5 : ¬ (n : Int) < m) : chR l s m = 0 := by
  unfold chR
  rw [if_neg (by rw [hn]; exact h), if_neg (by simp [h1, h2, h3]), if_neg (by rw [(twins_iff h1).2 h4]; simp), if_neg (by rw [hn]; exact h5)]
theorem cho_code {c : Int} (h : chR l s m = c) (h0 : c ≠ 0) : choR l s m = (c, [], 0) := by unfold choR; rw [if_pos (by rw [h]; exact h0), h]
end

set_option maxRecDepth 20000 in
set_option maxHeartbeats 8000000 in
theorem sChooseQuorum_any (a : Option Addr) (n c : Nat) (l : List Int) (s m : Int) (w : World) (hl : n ≤ maxLen) (hcap : n ≤ c) (hI : IAt w a n l) :
    Calls Try.prog 8 #[.slice a n c, .int .i64 s, .int .i64 m] w fun e w' => OutQ w w' e (choR l s m).1 (choR l s m).2.1 (choR l s m).2.2 := by
  unfold maxLen at hl
  obtain ⟨W, hW⟩ : ∃ W, W = w.alloc (.cells #[.int .i64 0, .slice none 0 0, .int .i64 0] 30) := ⟨_, rfl⟩
  have hbx : Below w.heap.size w W := by rw [hW]; exact below_box _
  have HX0 : Hid (W.heap[w.heap.size]? = some (.cells #[.int .i64 0, .slice none 0 0, .int .i64 0] 30 (0, 0))) := by show _ = _; rw [hW]; exact heap_alloc_new _ _
  have HN : Hid (l.length = n) := hI.1
  have HI : Hid (IAt W a n l) := hI.below hbx (Nat.le_refl _)
  have HBX : Hid (Below w.heap.size w W) := hbx
  have HWS : Hid (W.heap.size = w.heap.size + 1) := by show _ = _; rw [hW]; simp
  have HW : Hid (W = w.alloc (.cells #[.int .i64 0, .slice none 0 0, .int .i64 0] 30)) := hW
  have hmix : Try.prog.follows .mixedOrders = true := by kernel_rfl
  obtain ⟨ks, hks⟩ : ∃ b, b = inB s 0 65535 := ⟨_, rfl⟩
  obtain ⟨kq, hkq⟩ : ∃ b, b = inB m 1 8 := ⟨_, rfl⟩
  have hS : ∀ v, Calls Try.prog 34 #[.int .i64 s] v fun e w' => e = .returned (.bool ks) ∧ w' = v := fun v => by rw [hks]; exact l10Seed_any _ v
  have hQ : ∀ v, Calls Try.prog 35 #[.int .i64 m, .int .i64 1, .int .i64 8] v fun e w' => e = .returned (.bool kq) ∧ w' = v := fun v => by rw [hkq]; exact l1In_any _ _ _ v
  have HKS : Hid (inB s 0 65535 = ks) := hks.symm
  have HKQ : Hid (inB m 1 8 = kq) := hkq.symm
  clear hks hkq hI hW hbx
  by_cases h8 : 8 < n
  · rw [cho_code (ch_many HN.out h8) (by simp)]
    have h8i : (8 : Int) < (n : Int) := by omega
    obtain ⟨s0, s1, s2⟩ := cells3 (heap_alloc_new w (.cells #[.int .i64 2, .slice none 0 0, .int .i64 0] 30))
    go_enter Try.func8, Try.ntmps8
    go_wp2
    exact bodyPost_ret (v := .agg #[.int .i64 2, .slice none 0 0, .int .i64 0]) (by simp [results, Try.results8, go_sem, s0, s1, s2]) rfl (OutQ.empty (below_box _))
  have h8i : ¬ (8 : Int) < (n : Int) := by omega
  obtain ⟨x0, x1, x2⟩ := cells3 HX0.out
  have f0 := Joins.unfrozen_of_block HX0.out 0
  have f1 := Joins.unfrozen_of_block HX0.out 1
  have f2 := Joins.unfrozen_of_block HX0.out 2
  have fin : ∀ cd, OutQ w (((W.setCell ⟨w.heap.size, 0, none⟩ (.int .i64 cd)).setCell ⟨w.heap.size, 1, none⟩ (.slice none 0 0)).setCell ⟨w.heap.size, 2, none⟩ (.int .i64 0)) (.returned (.agg #[.int .i64 cd, .slice none 0 0, .int .i64 0])) cd [] 0 := fun cd => OutQ.empty (below_set3 HBX.out (Nat.le_refl _) _ _ _)
  have FIN : Hid (∀ cd, OutQ w (((W.setCell ⟨w.heap.size, 0, none⟩ (.int .i64 cd)).setCell ⟨w.heap.size, 1, none⟩ (.slice none 0 0)).setCell ⟨w.heap.size, 2, none⟩ (.int .i64 0)) (.returned (.agg #[.int .i64 cd, .slice none 0 0, .int .i64 0])) cd [] 0) := fin
  obtain ⟨rr, hrr⟩ : ∃ r, r = choR l s m := ⟨_, rfl⟩
  rw [← hrr]
  have HRR : Hid (rr = choR l s m) := hrr
  clear hrr fin
  go_enter Try.func8, Try.ntmps8
  go_wp2
  rw [← HW.out]
  go_loop [7] (fun i => ∃ k : Nat, k ≤ n ∧ i = .int .i64 k ∧ Hid (allK (l.take k) = true)) (fun i => n - (intOf i).toNat)
  case atStart => exact ⟨0, Nat.zero_le _, rfl, by show _ = _; simp [allK]⟩
  case round =>
    obtain ⟨k, hk, rfl, HT⟩ := hrel
    by_cases hlt : k < n
    · rcases HI.out.2 with h0 | ⟨b, off, e0, l0, d0⟩
      · omega
      subst e0
      obtain ⟨y, hy⟩ : ∃ y, y = l.getD k 0 := ⟨_, rfl⟩
      have hc1 := d0 k hlt
      rw [← hy] at hc1
      have HY : Hid (y = l.getD k 0) := hy
      obtain ⟨kk, hkk⟩ : ∃ b, b = inB y 1 999 := ⟨_, rfl⟩
      have hkey : ∀ v, Calls Try.prog 33 #[.int .i64 y] v fun e w' => e = .returned (.bool kk) ∧ w' = v := fun v => by rw [hkk]; exact l1Key_any y v
      have HKK : Hid (kk = inB y 1 999) := hkk
      have hki : (k : Int) < (n : Int) := by omega
      clear hy hkk d0
      cases kk
      · have HCH : Hid (rr = (3, [], 0)) := by
          show _ = _
          rw [HRR.out]
          refine cho_code (ch_range HN.out h8 (.inl (allK_pre (pre := l.take (k + 1)) (List.take_prefix _ _) ?_))) (by simp)
          rw [take_next HN.out hlt HY.out]; exact allK_bad HKK.out.symm
        go_wp2_with (go_at_call 33; refine (hkey _).mono ?_; rintro e w' ⟨rfl, hw⟩; have hw2 := hw.symm; subst hw2)
        obtain ⟨s0, s1, s2⟩ := cells3 (set3 HX0.out (.int .i64 3) (.slice none 0 0) (.int .i64 0))
        exact bodyPost_ret (v := .agg #[.int .i64 3, .slice none 0 0, .int .i64 0]) (by simp [results, Try.results8, go_sem, s0, s1, s2]) rfl (by rw [HCH.out]; exact FIN.out 3)
      · go_wp2_with (go_at_call 33; refine (hkey _).mono ?_; rintro e w' ⟨rfl, hw⟩; have hw2 := hw.symm; subst hw2)
        go_round
        case rel => exact ⟨k + 1, by omega, by go_num, by show _ = _; rw [take_next HN.out hlt HY.out]; exact allK_snoc HT.out HKK.out.symm⟩
        case measure => simp [intOf]; omega
    · have HALL : Hid (allK l = true) := by have := HT.out; rw [take_all HN.out hlt] at this; exact this
      have hki : ¬ (k : Int) < (n : Int) := by omega
      clear HT
      cases ks
      · have HCH : Hid (rr = (3, [], 0)) := by show _ = _; rw [HRR.out]; exact cho_code (ch_range HN.out h8 (.inr (.inl HKS.out))) (by simp)
        go_wp2_with (go_at_call 34; refine (hS _).mono ?_; rintro e w' ⟨rfl, hw⟩; have hw2 := hw.symm; subst hw2)
        obtain ⟨s0, s1, s2⟩ := cells3 (set3 HX0.out (.int .i64 3) (.slice none 0 0) (.int .i64 0))
        exact bodyPost_ret (v := .agg #[.int .i64 3, .slice none 0 0, .int .i64 0]) (by simp [results, Try.results8, go_sem, s0, s1, s2]) rfl (by rw [HCH.out]; exact FIN.out 3)
      cases kq
      · have HCH : Hid (rr = (3, [], 0)) := by show _ = _; rw [HRR.out]; exact cho_code (ch_range HN.out h8 (.inr (.inr HKQ.out))) (by simp)
        go_wp2_with (first | (go_at_call 34; refine (hS _).mono ?_; rintro e w' ⟨rfl, hw⟩; have hw2 := hw.symm; subst hw2) | (go_at_call 35; refine (hQ _).mono ?_; rintro e w' ⟨rfl, hw⟩; have hw2 := hw.symm; subst hw2))
        obtain ⟨s0, s1, s2⟩ := cells3 (set3 HX0.out (.int .i64 3) (.slice none 0 0) (.int .i64 0))
        exact bodyPost_ret (v := .agg #[.int .i64 3, .slice none 0 0, .int .i64 0]) (by simp [results, Try.results8, go_sem, s0, s1, s2]) rfl (by rw [HCH.out]; exact FIN.out 3)
      clear x0 x1 x2 f0 f1 f2
      go_wp2_with (first | (go_at_call 34; refine (hS _).mono ?_; rintro e w' ⟨rfl, hw⟩; have hw2 := hw.symm; subst hw2) | (go_at_call 35; refine (hQ _).mono ?_; rintro e w' ⟨rfl, hw⟩; have hw2 := hw.symm; subst hw2))
      go_loopw [8] (fun i wr => ∃ t : Nat, t ≤ n ∧ i = .int .i64 t ∧ Hid ((l.take t).Nodup) ∧ Hid (Below W.heap.size W wr)) (fun i _ => n - (intOf i).toNat)
      case atStart => exact ⟨0, Nat.zero_le _, rfl, by show List.Nodup _; simp, Below.refl _ _⟩
      case round =>
        obtain ⟨t, ht, rfl, HND, HBr⟩ := hrel
        by_cases hlt2 : t < n
        · rcases HI.out.2 with h0 | ⟨b, off, e0, l0, d0⟩
          · omega
          subst e0
          obtain ⟨y, hy⟩ : ∃ y, y = l.getD t 0 := ⟨_, rfl⟩
          have hc1 := (HBr.out.cell (p := ⟨b, off + t, none⟩) l0).trans (d0 t hlt2)
          rw [← hy] at hc1
          have HY : Hid (y = l.getD t 0) := hy
          obtain ⟨kk, hkk⟩ : ∃ b, b = hasK (l.take t) y := ⟨_, rfl⟩
          have hIr := HI.out.below HBr.out (Nat.le_refl _)
          have cA : ∀ dd os, Calls Try.prog 36 #[.slice (some ⟨b, off, none⟩) t c, .int .i64 y] (grow (redrawn wr dd) os) fun e w'' => e = .returned (.bool kk) ∧ ∃ p : Regrown, w'' = grow (redrawn wr p.d) p.os := fun dd os => Calls.regrown_of (by
            have hb := below_regrown wr dd os
            have h9 := hIr.below hb (Nat.le_refl _)
            have := l4Among_any (some ⟨b, off, none⟩) t c (l.take t) y (grow (redrawn wr dd) os) (by unfold maxLen; omega) (itake h9 ht)
            rw [← hkk] at this
            exact this.mono fun _ _ ⟨h1, h2⟩ => ⟨h1, by rw [h2]; exact Below.refl _ _⟩)
          have HKK : Hid (kk = hasK (l.take t) y) := hkk
          have a1 := cell_regrown hc1
          have hti : (t : Int) < (n : Int) := by omega
          have htc : (t : Int) ≤ (c : Int) := by omega
          have htc2 : t ≤ c := by omega
          clear hy hkk d0 hc1 hIr
          cases kk
          · have HN2 : Hid ((l.take (t + 1)).Nodup) := nodup_next HN.out hlt2 HY.out HND.out (fun hm => by have := HKK.out; rw [hasK_yes hm] at this; cases this)
            go_wp2
            refine wp_region_quiet_below hmix (by kernel_rfl) ?_
            repeat (go_big_quiet_step (first | exact cA _ _))
            refine wpQuiet_nil ?_
            intro _ hw'
            obtain ⟨⟨dq, osq⟩, hw''⟩ := hw'
            subst hw''
            go_wp2
            go_roundw
            case rel => exact ⟨t + 1, by omega, by go_num, HN2, HBr.out.trans ((below_regrown wr dq osq).mono HBr.out.size)⟩
            case measure => simp [intOf]; omega
          · have HCH : Hid (rr = (7, [], 0)) := by
              show _ = _
              rw [HRR.out]
              refine cho_code (ch_twin HN.out h8 HALL.out HKS.out HKQ.out (nodup_not HN.out hlt2 HY.out ?_)) (by simp)
              exact of_decide_eq_true (HKK.out.symm : decide (y ∈ l.take t) = true)
            go_wp2
            refine wp_region_quiet_below hmix (by kernel_rfl) ?_
            repeat (go_big_quiet_step (first | exact cA _ _))
            refine wpQuiet_nil ?_
            intro _ hw'
            obtain ⟨⟨dq, osq⟩, hw''⟩ := hw'
            subst hw''
            have hbn := HBr.out.trans ((below_regrown wr dq osq).mono HBr.out.size)
            obtain ⟨⟨x0, x1, x2⟩, ⟨f0, f1, f2⟩, HX⟩ := res3 HX0.out hbn (by rw [HWS.out]; omega)
            have HBN : Hid (Below W.heap.size W (grow (redrawn wr dq) osq)) := hbn
            clear hbn
            go_wp2
            obtain ⟨s0, s1, s2⟩ := cells3 (set3 HX.out (.int .i64 7) (.slice none 0 0) (.int .i64 0))
            have hbw : Below w.heap.size w (grow (redrawn wr dq) osq) := HBX.out.trans (HBN.out.mono HBX.out.size)
            exact bodyPost_ret (v := .agg #[.int .i64 7, .slice none 0 0, .int .i64 0]) (by simp [results, Try.results8, go_sem, s0, s1, s2]) rfl (by rw [HCH.out]; exact OutQ.empty (below_set3 hbw (Nat.le_refl _) _ _ _))
        · have HNF : Hid (l.Nodup) := by have := HND.out; rw [take_all HN.out hlt2] at this; exact this
          have hti : ¬ (t : Int) < (n : Int) := by omega
          by_cases hfew : (n : Int) < m
          · have HCH : Hid (rr = (4, [], 0)) := by show _ = _; rw [HRR.out]; exact cho_code (ch_few HN.out h8 HALL.out HKS.out HKQ.out HNF.out hfew) (by simp)
            obtain ⟨⟨x0, x1, x2⟩, ⟨f0, f1, f2⟩, HX⟩ := res3 HX0.out HBr.out (by rw [HWS.out]; omega)
            go_wp2
            obtain ⟨s0, s1, s2⟩ := cells3 (set3 HX.out (.int .i64 4) (.slice none 0 0) (.int .i64 0))
            have hbw : Below w.heap.size w wr := HBX.out.trans (HBr.out.mono HBX.out.size)
            exact bodyPost_ret (v := .agg #[.int .i64 4, .slice none 0 0, .int .i64 0]) (by simp [results, Try.results8, go_sem, s0, s1, s2]) rfl (by rw [HCH.out]; exact OutQ.empty (below_set3 hbw (Nat.le_refl _) _ _ _))
          · have hm1 := inB_true.1 HKQ.out
            obtain ⟨mm, rfl⟩ := Int.eq_ofNat_of_zero_le (show 0 ≤ m by omega)
            have HCH : Hid (rr = (0, chG s l (mm : Int) n, (2 * (mm : Int)) / 3 + 1)) := by
              show _ = _
              rw [HRR.out]
              unfold choR
              rw [ch_ok HN.out h8 HALL.out HKS.out HKQ.out HNF.out hfew, if_neg (by simp)]
              unfold needR
              rw [if_pos HKQ.out, ← HN.out, choose_same HNF.out (by rw [HN.out]; omega), Int.tdiv_eq_ediv_of_nonneg (by omega)]
              rfl
            rcases HI.out.2 with h0 | ⟨b, off, e0, l0, d0⟩
            · omega
            subst e0
            have hch := l10Choose_any b off n c l s (mm : Int) wr (by omega) (HI.out.below HBr.out (Nat.le_refl _))
            have m1 : IntKind.i64.wrap (2 * (mm : Int)) = 2 * (mm : Int) := IntWalk.i64_in _ (by omega)
            have m2 : IntKind.i64.wrap ((2 * (mm : Int)) / 3 + 1) = (2 * (mm : Int)) / 3 + 1 := IntWalk.i64_in _ (by omega)
            have m3 : IntKind.i64.wrap ((2 * (mm : Int)) / 3) = (2 * (mm : Int)) / 3 := IntWalk.i64_in _ (by omega)
            obtain ⟨o, ho⟩ : ∃ o, o = (chG s l (mm : Int) n).length := ⟨_, rfl⟩
            rw [← ho] at hch
            have HOL : Hid ((chG s l (mm : Int) n).length = o) := ho.symm
            clear ho d0
            go_wp2_with (go_at_call 37; (with_reducible refine hch.mono ?_); clear hch; rintro e w2 ⟨g, gk, rfl, ho2⟩; have HO2 : Hid (OutW wr w2 g gk (chG s l (mm : Int) n)) := ho2; have HB2 : Hid (Below W.heap.size W w2) := HBr.out.trans (ho2.bel.mono HBr.out.size); obtain ⟨⟨x0, x1, x2⟩, ⟨f0, f1, f2⟩, HX⟩ := res3 HX0.out HB2.out (by rw [HWS.out]; omega); clear ho2)
            obtain ⟨s0, s1, s2⟩ := cells3 (set3 HX.out (.int .i64 0) (.slice (some ⟨g, 0, none⟩) o gk) (.int .i64 (2 * (mm : Int) / 3 + 1)))
            have hbw : Below w.heap.size w w2 := HBX.out.trans (HB2.out.mono HBX.out.size)
            refine bodyPost_ret (v := .agg #[.int .i64 0, .slice (some ⟨g, 0, none⟩) o gk, .int .i64 (2 * (mm : Int) / 3 + 1)]) (by simp [results, Try.results8, go_sem, s0, s1, s2]) rfl ?_
            rw [HCH.out]
            refine ⟨below_set3 hbw (Nat.le_refl _) _ _ _, some ⟨g, 0, none⟩, gk, by rw [HOL.out], ?_⟩
            exact Joins.ownsRow_le (row_set3 HO2.out.row (by have := HBr.out.size; have := HWS.out; omega) _ _ _) (by have := HBr.out.size; have := HBX.out.size; omega)

end Go.Proofs.Ytolpbichkmeaaaa
