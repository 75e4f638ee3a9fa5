/- BestOf: the specification's whole. -/
import Derived.Test.YtinlhghlmfcbfaaVk
import Derived.Test.YtinlhghlmfcbfaaLf
import Derived.Test.YtinlhghlmfcbfaaIdOf
namespace Go.Proofs.Ytinlhghlmfcbfaa
open Go.RowKit Go.Maps Go.WideMaps Go.Sort

set_option maxRecDepth 20000 in
set_option maxHeartbeats 4000000 in
theorem l9Best_any (n c m d : Nat) (a a2 : Option Addr) (ms : List Mb) (ls : List Int) (w : World) (hn : n ≤ 1048576) (hm : m ≤ 1048576) (hz : treeR ms = 0) (hf : foundB ms ls = true) (hC : MAt w a n ms) (hI : IAt w a2 m ls) :
    Calls Try.prog 36 #[.slice a n c, .slice a2 m d] w fun e w' => e = .returned (.int .i64 (bestI ms ls)) ∧ Below w.heap.size w w' := by
  have HC : Hid (MAt w a n ms) := hC
  have HI : Hid (IAt w a2 m ls) := hI
  have HMN : Hid (ms.length = n) := hC.1
  have HZ : Hid (treeR ms = 0) := hz
  have HF : Hid (foundB ms ls = true) := hf
  have hmix : Try.prog.follows .mixedOrders = true := by kernel_rfl
  obtain ⟨r, hr⟩ : ∃ r, r = bestI ms ls := ⟨_, rfl⟩
  rw [← hr]
  have HR : Hid (r = bestI ms ls) := hr
  clear hC hI hz hf hr
  go_enter Try.func36, Try.ntmps36
  go_wp2
  go_loopw [5, 6] (fun u i wr => ∃ (j : Nat) (q : Int), j ≤ n ∧ i = .int .i64 j ∧ u = .int .i64 q ∧ Below w.heap.size w wr ∧ Hid (bestK ms ls j = q)) (fun _ i _ => n - (intOf i).toNat)
  case atStart => exact ⟨0, -1, Nat.zero_le _, rfl, rfl, Below.refl _ _, rfl⟩
  case round =>
    obtain ⟨j, q, hj, rfl, rfl, hbel, HQ⟩ := hrel
    by_cases hlt : j < n
    · rcases HC.out.2 with h0 | ⟨b, off, e0, l0, d0⟩
      · omega
      subst e0
      have hj2 : j < ms.length := by rw [HMN.out]; exact hlt
      obtain ⟨o, ho⟩ : ∃ o, o = ms.getD j Z3 := ⟨_, rfl⟩
      have p0 := d0 j hlt
      rw [← ho] at p0
      obtain ⟨fb, hfb⟩ : ∃ z, z = fitB ms o.1 ls := ⟨_, rfl⟩
      have hfx : fitX ms o.1 o.2.2 ls = fb := by rw [hfb, ho]; exact fitX_fit HZ.out HF.out hj2
      have HFX : Hid (fitX ms o.1 o.2.2 ls = fb) := hfx
      have HST : Hid (bestK ms ls (j + 1) = if (fb && betB ms j q) = true then (j : Int) else q) := by show _ = _; rw [bestK, HQ.out, ← ho, ← hfb]
      have hqc : q = -1 ∨ ∃ k : Nat, k < j ∧ q = (k : Int) := by rw [← HQ.out]; exact bestK_lt ms ls j
      have HO : Hid (o = ms.getD j Z3) := ho
      obtain ⟨ok, op, oq⟩ := o
      have x0 := (hbel.cell (p := ⟨b, off + j * 3, none⟩) l0).trans p0.1
      have x1 := (hbel.cell (p := ⟨b, off + j * 3 + 1, none⟩) l0).trans p0.2.1
      have x2 := (hbel.cell (p := ⟨b, off + j * 3 + 2, none⟩) l0).trans p0.2.2
      simp only at x0 x1 x2
      have y0 := cell_regrown x0
      have y1 := cell_regrown x1
      have y2 := cell_regrown x2
      have cN : ∀ dd os, Calls Try.prog 44 #[.slice (some ⟨b, off, none⟩) n c, .agg #[.int .i64 ok, .int .i64 op, .int .i64 oq], .slice a2 m d] (grow (redrawn wr dd) os) fun e w'' => e = .returned (.bool fb) ∧ ∃ p : Regrown, w'' = grow (redrawn wr p.d) p.os := fun dd os => Calls.regrown_of (by
        have := l9Fits_any n c m d (some ⟨b, off, none⟩) a2 ms ls ok op oq (grow (redrawn wr dd) os) hn hm HZ.out HF.out ((HC.out.below hbel (Nat.le_refl _)).below (below_regrown wr dd os) (Nat.le_refl _)) ((HI.out.below hbel (Nat.le_refl _)).below (below_regrown wr dd os) (Nat.le_refl _))
        rw [HFX.out] at this
        exact this)
      have hki : (j : Int) < (n : Int) := by omega
      rcases hqc with hq1 | ⟨k, hkj, hq1⟩
      · subst hq1
        have hbt : betB ms j (-1) = true := rfl
        cases fb
        · have HNX : Hid (bestK ms ls (j + 1) = -1) := by show _ = _; rw [HST.out]; rfl
          clear ho p0 d0 hfb hfx x0 x1 x2 HST hbt
          go_wp2_with fail
          refine wp_region_quiet_below hmix (by kernel_rfl) ?_
          repeat (go_big_quiet_step (first | exact cN _ _))
          refine wpQuiet_nil ?_
          intro _ hw'
          obtain ⟨⟨dq, osq⟩, hw''⟩ := hw'
          subst hw''
          go_wp2
          go_roundw
          case rel => exact ⟨j + 1, -1, by omega, by go_num, rfl, hbel.trans ((below_regrown wr dq osq).mono hbel.size), HNX⟩
          case measure => simp [intOf]; omega
        · have HNX : Hid (bestK ms ls (j + 1) = (j : Int)) := by show _ = _; rw [HST.out, hbt]; rfl
          clear ho p0 d0 hfb hfx x0 x1 x2 HST hbt
          go_wp2_with fail
          refine wp_region_quiet_below hmix (by kernel_rfl) ?_
          repeat (go_big_quiet_step (first | exact cN _ _))
          refine wpQuiet_nil ?_
          intro _ hw'
          obtain ⟨⟨dq, osq⟩, hw''⟩ := hw'
          subst hw''
          go_wp2
          go_roundw
          case rel => exact ⟨j + 1, (j : Int), by omega, by go_num, rfl, hbel.trans ((below_regrown wr dq osq).mono hbel.size), HNX⟩
          case measure => simp [intOf]; omega
      · subst hq1
        have hkn : k < n := by omega
        have hkI : (k : Int) < (n : Int) := by omega
        obtain ⟨hh, hhk⟩ : ∃ z, z = (ms.getD k Z3).2.2 := ⟨_, rfl⟩
        have x3 := (hbel.cell (p := ⟨b, off + k * 3 + 2, none⟩) l0).trans (d0 k hkn).2.2
        rw [← hhk] at x3
        have y3 := cell_regrown x3
        have hbt : betB ms j (k : Int) = decide (hh < oq) := by
          unfold betB
          rw [decide_eq_false (by omega), Bool.false_or, ← ho]
          show decide ((ms.getD k Z3).2.2 < oq) = _
          rw [← hhk]
        have hneg : decide ((k : Int) < 0) = false := decide_eq_false (by omega)
        cases fb
        · have HNX : Hid (bestK ms ls (j + 1) = (k : Int)) := by show _ = _; rw [HST.out]; rfl
          clear ho p0 d0 hfb hfx x0 x1 x2 x3 HST hbt hhk
          go_wp2_with fail
          refine wp_region_quiet_below hmix (by kernel_rfl) ?_
          repeat (go_big_quiet_step (first | exact cN _ _))
          refine wpQuiet_nil ?_
          intro _ hw'
          obtain ⟨⟨dq, osq⟩, hw''⟩ := hw'
          subst hw''
          go_wp2
          go_roundw
          case rel => exact ⟨j + 1, (k : Int), by omega, by go_num, rfl, hbel.trans ((below_regrown wr dq osq).mono hbel.size), HNX⟩
          case measure => simp [intOf]; omega
        · by_cases hgt : hh < oq
          · have hdg : decide (hh < oq) = true := decide_eq_true hgt
            have HNX : Hid (bestK ms ls (j + 1) = (j : Int)) := by show _ = _; rw [HST.out, hbt, hdg]; rfl
            clear ho p0 d0 hfb hfx x0 x1 x2 x3 HST hbt hhk
            go_wp2_with fail
            refine wp_region_quiet_below hmix (by kernel_rfl) ?_
            repeat (go_big_quiet_step (first | exact cN _ _))
            refine wpQuiet_nil ?_
            intro _ hw'
            obtain ⟨⟨dq, osq⟩, hw''⟩ := hw'
            subst hw''
            go_wp2
            go_roundw
            case rel => exact ⟨j + 1, (j : Int), by omega, by go_num, rfl, hbel.trans ((below_regrown wr dq osq).mono hbel.size), HNX⟩
            case measure => simp [intOf]; omega
          · have hdg : decide (hh < oq) = false := decide_eq_false hgt
            have HNX : Hid (bestK ms ls (j + 1) = (k : Int)) := by show _ = _; rw [HST.out, hbt, hdg]; rfl
            clear ho p0 d0 hfb hfx x0 x1 x2 x3 HST hbt hhk
            go_wp2_with fail
            refine wp_region_quiet_below hmix (by kernel_rfl) ?_
            repeat (go_big_quiet_step (first | exact cN _ _))
            refine wpQuiet_nil ?_
            intro _ hw'
            obtain ⟨⟨dq, osq⟩, hw''⟩ := hw'
            subst hw''
            go_wp2
            go_roundw
            case rel => exact ⟨j + 1, (k : Int), by omega, by go_num, rfl, hbel.trans ((below_regrown wr dq osq).mono hbel.size), HNX⟩
            case measure => simp [intOf]; omega
    · have hjn : j = n := by omega
      subst hjn
      have hki : ¬ (j : Int) < (j : Int) := by omega
      have hqn : bestK ms ls ms.length = q := by rw [HMN.out]; exact HQ.out
      have hqc : q = -1 ∨ ∃ k : Nat, k < j ∧ q = (k : Int) := by rw [← HQ.out]; exact bestK_lt ms ls j
      rcases hqc with hq1 | ⟨k, hkj, hq1⟩
      · subst hq1
        obtain rfl : r = 0 := by rw [HR.out]; unfold bestI; rw [hqn]; rfl
        clear hqn
        go_wp2
        go_ret
        exact ⟨rfl, hbel⟩
      · subst hq1
        rcases HC.out.2 with h0 | ⟨b, off, e0, l0, d0⟩
        · omega
        subst e0
        have hrk : r = (ms.getD k Z3).1 := by rw [HR.out]; unfold bestI; rw [hqn, if_neg (by omega)]; rfl
        have x3 := (hbel.cell (p := ⟨b, off + k * 3, none⟩) l0).trans (d0 k hkj).1
        rw [← hrk] at x3
        have hneg : ¬ (k : Int) < 0 := by omega
        have hkI : (k : Int) < (j : Int) := by omega
        clear hqn hrk d0
        go_wp2
        go_ret
        exact ⟨rfl, hbel⟩

set_option maxRecDepth 20000 in
set_option maxHeartbeats 4000000 in
theorem sBestOf_any (n c m d : Nat) (ad a2 : Option Addr) (ms : List Mb) (ls : List Int) (w : World) (hn : n ≤ 1048576) (hm : m ≤ 1048576) (hC : n ≤ c ∧ c ≤ maxLen ∧ MAt w ad n ms) (hI : IAt w a2 m ls) :
    Calls Try.prog 16 #[.slice ad n c, .slice a2 m d] w fun e w' => e = .returned (.agg #[.int .i64 (bestR ms ls).1, .int .i64 (bestR ms ls).2]) ∧ Below w.heap.size w w' := by
  have hbx : Below w.heap.size w (w.alloc (.cells #[.int .i64 0, .int .i64 0] 28)) := below_box _
  have HBX : Hid (Below w.heap.size w (w.alloc (.cells #[.int .i64 0, .int .i64 0] 28))) := hbx
  have HX : Hid ((w.alloc (.cells #[.int .i64 0, .int .i64 0] 28)).heap[w.heap.size]? = some (.cells #[.int .i64 0, .int .i64 0] 28 (0, 0))) := heap_alloc_new _ _
  have h := l9Fault_any n c ad ms _ hC.1 (hC.2.2.below hbx (Nat.le_refl _))
  have HI : Hid (IAt w a2 m ls) := hI
  have HC : Hid (MAt w ad n ms) := hC.2.2
  have HLN : Hid (ls.length = m) := hI.1
  obtain ⟨cd, hcd⟩ : ∃ x, x = treeR ms := ⟨_, rfl⟩
  rw [← hcd] at h
  by_cases h0 : cd = 0
  rotate_left
  · have e1 : bestR ms ls = (cd, 0) := by unfold bestR; rw [← hcd, if_pos h0]
    rw [e1]
    have hcn2 : (cd != 0) = true := by simpa using h0
    clear e1 hcd hC hbx hI
    go_enter Try.func16, Try.ntmps16
    go_wp2_with (go_at_call 25; (with_reducible refine h.mono ?_); clear h; rintro e w2 ⟨rfl, hb2⟩; have HB2 : Hid (Below w.heap.size w w2) := HBX.out.trans (hb2.mono HBX.out.size); have HX2 := keepb HX.out hb2; obtain ⟨x0, x1, f0, f1, _⟩ := res_cells HX2.out (Below.refl w2.heap.size _) (lt_of_block HX2.out); clear hb2)
    obtain ⟨_, s1, s2⟩ := two_set HX2.out (.int .i64 cd) (.int .i64 0)
    exact bodyPost_ret (v := .agg #[.int .i64 cd, .int .i64 0]) (by simp [results, Try.results16, go_sem, s1, s2]) rfl ⟨rfl, two_end HB2.out (Nat.le_refl _) _ _⟩
  have HZ : Hid (treeR ms = 0) := by show _ = _; rw [← hcd]; exact h0
  subst h0
  by_cases h20 : 20 < m
  · have e1 : bestR ms ls = (2, 0) := by unfold bestR; rw [← hcd, if_neg (by simp), if_pos (by rw [HLN.out]; exact h20)]
    rw [e1]
    have hki : (20 : Int) < (m : Int) := by omega
    clear e1 hcd hC hbx hI
    go_enter Try.func16, Try.ntmps16
    go_wp2_with (go_at_call 25; (with_reducible refine h.mono ?_); clear h; rintro e w2 ⟨rfl, hb2⟩; have HB2 : Hid (Below w.heap.size w w2) := HBX.out.trans (hb2.mono HBX.out.size); have HX2 := keepb HX.out hb2; obtain ⟨x0, x1, f0, f1, _⟩ := res_cells HX2.out (Below.refl w2.heap.size _) (lt_of_block HX2.out); clear hb2)
    obtain ⟨_, s1, s2⟩ := two_set HX2.out (.int .i64 2) (.int .i64 0)
    exact bodyPost_ret (v := .agg #[.int .i64 2, .int .i64 0]) (by simp [results, Try.results16, go_sem, s1, s2]) rfl ⟨rfl, two_end HB2.out (Nat.le_refl _) _ _⟩
  have hki : ¬ (20 : Int) < (m : Int) := by omega
  obtain ⟨r1, hr1⟩ : ∃ z, z = (bestR ms ls).1 := ⟨_, rfl⟩
  obtain ⟨r2, hr2⟩ : ∃ z, z = (bestR ms ls).2 := ⟨_, rfl⟩
  have HRN : Hid (foundB ms ls = false → r1 = 4 ∧ r2 = 0) := fun e => by
    have e1 : bestR ms ls = (4, 0) := by unfold bestR; rw [← hcd, if_neg (by simp), if_neg (by rw [HLN.out]; exact h20), if_pos e]
    rw [hr1, hr2, e1]
    exact ⟨rfl, rfl⟩
  have HRY : Hid (foundB ms ls = true → r1 = 0 ∧ r2 = bestI ms ls) := fun e => by
    have e1 : bestR ms ls = (0, bestI ms ls) := by unfold bestR; rw [← hcd, if_neg (by simp), if_neg (by rw [HLN.out]; exact h20), if_neg (by simp [e])]
    rw [hr1, hr2, e1]
    exact ⟨rfl, rfl⟩
  rw [← hr1, ← hr2]
  clear hcd hC hbx hI hr1 hr2
  go_enter Try.func16, Try.ntmps16
  go_wp2_with (go_at_call 25; (with_reducible refine h.mono ?_); clear h; rintro e w2 ⟨rfl, hb2⟩; have HB2 : Hid (Below w.heap.size w w2) := HBX.out.trans (hb2.mono HBX.out.size); have HX2 := keepb HX.out hb2; clear hb2)
  go_loop [6] (fun i => ∃ t : Nat, t ≤ m ∧ i = .int .i64 t ∧ Hid (foundB ms (ls.take t) = true)) (fun i => m - (intOf i).toNat)
  case atStart => exact ⟨0, Nat.zero_le _, rfl, rfl⟩
  case round =>
    obtain ⟨t, ht, rfl, HA⟩ := hrel
    by_cases htm : t < m
    · rcases HI.out.2 with h0 | ⟨b2, o2, e2, l2, d2⟩
      · omega
      subst e2
      obtain ⟨l, hl⟩ : ∃ l, l = ls.getD t 0 := ⟨_, rfl⟩
      have z0 := (HB2.out.cell (p := ⟨b2, o2 + t, none⟩) l2).trans (d2 t htm)
      rw [← hl] at z0
      obtain ⟨i1, hi1⟩ : ∃ i, i = nAt ms l := ⟨_, rfl⟩
      have hA := l9At_any n c ad ms l w2 hn (HC.out.below HB2.out (Nat.le_refl _))
      rw [← hi1] at hA
      have hti : (t : Int) < (m : Int) := by omega
      by_cases hneg : i1 < 0
      · obtain ⟨rfl, rfl⟩ := HRN.out (found_not (show t < ls.length by rw [HLN.out]; exact htm) (by rw [← hl, ← hi1]; exact hneg))
        obtain ⟨x0, x1, f0, f1, _⟩ := res_cells HX2.out (Below.refl w2.heap.size _) (lt_of_block HX2.out)
        clear hl hi1 d2
        go_wp2_with (go_at_call 26; (with_reducible refine hA.mono ?_); clear hA; rintro e w' ⟨rfl, hw⟩; have hw2 := hw.symm; subst hw2)
        obtain ⟨_, s1, s2⟩ := two_set HX2.out (.int .i64 4) (.int .i64 0)
        exact bodyPost_ret (v := .agg #[.int .i64 4, .int .i64 0]) (by simp [results, Try.results16, go_sem, s1, s2]) rfl ⟨rfl, two_end HB2.out (Nat.le_refl _) _ _⟩
      · have HA2 : Hid (foundB ms (ls.take (t + 1)) = true) := found_take (by rw [HLN.out]; exact htm) HA.out (by rw [← hl, ← hi1]; omega)
        clear hl hi1 d2
        go_wp2_with (go_at_call 26; (with_reducible refine hA.mono ?_); clear hA; rintro e w' ⟨rfl, hw⟩; have hw2 := hw.symm; subst hw2)
        go_round
        case rel => exact ⟨t + 1, by omega, by go_num, HA2⟩
        case measure => simp [intOf]; omega
    · have htm2 : t = m := by omega
      subst htm2
      have hti : ¬ (t : Int) < (t : Int) := by omega
      have HTA : Hid (ls.take t = ls) := List.take_of_length_le (by rw [HLN.out]; omega)
      have hfb : foundB ms ls = true := by have := HA.out; rw [HTA.out] at this; exact this
      obtain ⟨rfl, hr2⟩ := HRY.out hfb
      have hB := l9Best_any n c t d ad a2 ms ls w2 hn hm HZ.out hfb (HC.out.below HB2.out (Nat.le_refl _)) (HI.out.below HB2.out (Nat.le_refl _))
      rw [← hr2] at hB
      clear hr2 hfb
      go_wp2_with (go_at_call 36; (with_reducible refine hB.mono ?_); clear hB; rintro e w3 ⟨rfl, hb3⟩; have HB3 : Hid (Below w.heap.size w w3) := HB2.out.trans (hb3.mono HB2.out.size); have HX3 := keepb HX2.out hb3; obtain ⟨x0, x1, f0, f1, _⟩ := res_cells HX3.out (Below.refl w3.heap.size _) (lt_of_block HX3.out); clear hb3)
      obtain ⟨_, s1, s2⟩ := two_set HX3.out (.int .i64 0) (.int .i64 r2)
      exact bodyPost_ret (v := .agg #[.int .i64 0, .int .i64 r2]) (by simp [results, Try.results16, go_sem, s1, s2]) rfl ⟨rfl, two_end HB3.out (Nat.le_refl _) _ _⟩

end Go.Proofs.Ytinlhghlmfcbfaa
