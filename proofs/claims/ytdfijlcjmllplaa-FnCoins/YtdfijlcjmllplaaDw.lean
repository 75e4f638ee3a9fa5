/- The specification's PutCoins keeps its contract. -/
import Derived.Test.YtdfijlcjmllplaaDv
namespace Go.Proofs.Ytdfijlcjmllplaa
open Go.RowKit Go.Maps Go.WideMaps

theorem out_coinsN {w W : World} {R lo N : Nat} {cs : List Co} {va : Option Addr} {vc : Nat} (hN : cs.length = N) (hR : w.heap.size ≤ R) (hlo : R < lo) (hb : Below w.heap.size w W) (hO : ∃ kv, COwn W lo W.heap.size (.slice va N vc) N (fun j => cs.getD j C0) kv) :
    OutCs w ((W.setCell ⟨R, 0, none⟩ (.int .i64 0)).setCell ⟨R, 1, none⟩ (.slice va N vc)) (.returned (.agg #[.int .i64 0, .slice va N vc])) 0 cs := by
  subst hN
  exact out_coins hR hlo hb hO
theorem outs_bad {o : Ou} {t : List Ou} {r : Int} (h : outR o.v o.l o.x o.y = r) (h0 : ¬ r = 0) : outsR (o :: t) = r := by
  unfold outR at h
  rw [outsR]
  by_cases h1 : inB o.v 1 1000000 = false
  · rw [if_pos h1] at h ⊢; exact h
  · rw [if_neg h1] at h ⊢; rw [h, if_pos h0]
theorem outs_go {o : Ou} {t : List Ou} (h : outR o.v o.l o.x o.y = 0) : outsR (o :: t) = outsR t := by
  unfold outR at h
  rw [outsR]
  by_cases h1 : inB o.v 1 1000000 = false
  · rw [if_pos h1] at h; cases h
  · rw [if_neg h1] at h ⊢; rw [h, if_neg (by simp)]
theorem putR_code {cs : List Co} {t h : Int} {m : Bool} {os : List Ou} {r : Int} (h0 : coinsR cs = 0) (hp : putsR cs.length (hasT cs t) t os h = r) (hr : ¬ r = 0) : putR cs t os h m = (r, []) := by
  unfold putR
  rw [if_neg (by simp [h0]), hp, if_pos hr]
theorem putR_ok {cs : List Co} {t h : Int} {m : Bool} {os : List Ou} (h0 : coinsR cs = 0) (hp : putsR cs.length (hasT cs t) t os h = 0) : putR cs t os h m = (0, addCs cs (newCs t h m os os.length)) := by
  unfold putR
  rw [if_neg (by simp [h0]), hp, if_neg (by simp)]
theorem puts_fault {n : Nat} {ti : Bool} {t h : Int} {os : List Ou} {r : Int} (hp : putFR t os h = r) (hr : ¬ r = 0) : putsR n ti t os h = r := by
  unfold putsR
  rw [hp, if_pos hr]
theorem puts_rest {n : Nat} {ti : Bool} {t h : Int} {os : List Ou} (hp : putFR t os h = 0) : putsR n ti t os h = if ti = true then 7 else if 40 < n + os.length then 2 else 0 := by
  unfold putsR
  rw [hp, if_neg (by simp)]
theorem putF_range {t h : Int} {os : List Ou} (hh : inB t 1 60 = false ∨ inB h 0 999 = false) : putFR t os h = 3 := by unfold putFR; rw [if_pos hh]
theorem putF_many {t h : Int} {os : List Ou} (hh : ¬ (inB t 1 60 = false ∨ inB h 0 999 = false)) (h4 : 4 < os.length) : putFR t os h = 2 := by unfold putFR; rw [if_neg hh, if_pos h4]
theorem putF_outs {t h : Int} {os : List Ou} (hh : ¬ (inB t 1 60 = false ∨ inB h 0 999 = false)) (h4 : ¬ 4 < os.length) : putFR t os h = outsR os := by unfold putFR; rw [if_neg hh, if_neg h4]

set_option maxRecDepth 20000 in
set_option maxHeartbeats 8000000 in
theorem sPutCoins_any (n c n2 c2 : Nat) (a a2 : Option Addr) (cs : List Co) (t h : Int) (m : Bool) (os : List Ou) (w : World) (hn : n ≤ 1048576) (hk : ∀ j, j < n → (cs.getD j C0).l.length ≤ 1048576) (hn2 : n2 ≤ 1048576) (hk2 : ∀ j, j < n2 → (os.getD j O0).l.length ≤ 1048576) (hC : CAt w a n cs) (hO : OAt w a2 n2 os) :
    Calls Try.prog 7 #[.slice a n c, .int .i64 t, .slice a2 n2 c2, .int .i64 h, .bool m] w fun e w' => OutCs w w' e (putR cs t os h m).1 (putR cs t os h m).2 := by
  have hbx : Below w.heap.size w (w.alloc (.cells #[.int .i64 0, .slice none 0 0] 29)) := below_box _
  have hF := l4Fault_any n c a cs (w.alloc (.cells #[.int .i64 0, .slice none 0 0] 29)) hn hk (hC.below hbx (Nat.le_refl _))
  have HBX : Hid (Below w.heap.size w (w.alloc (.cells #[.int .i64 0, .slice none 0 0] 29))) := hbx
  have T1 : Hid ((w.alloc (.cells #[.int .i64 0, .slice none 0 0] 29)).heap[w.heap.size]? = some (.cells #[.int .i64 0, .slice none 0 0] 29 (0, 0))) := heap_alloc_new _ _
  have HC : Hid (CAt w a n cs) := hC
  have HO : Hid (OAt w a2 n2 os) := hO
  have HCL : Hid (cs.length = n) := hC.1
  have HOL : Hid (os.length = n2) := hO.1
  have HK2 : Hid (∀ j, j < n2 → (os.getD j O0).l.length ≤ 1048576) := hk2
  obtain ⟨cd, hcd⟩ : ∃ r, r = coinsR cs := ⟨_, rfl⟩
  rw [← hcd] at hF
  clear hbx hk hk2
  by_cases h0 : cd = 0
  · subst h0
    obtain ⟨h40, hok, hri⟩ := coins_rise hcd.symm
    rw [hC.1] at h40
    have HCD : Hid (coinsR cs = 0) := hcd.symm
    have HOK : Hid (∀ c ∈ cs, coinR c = 0) := hok
    obtain ⟨kt, hkt⟩ : ∃ k, k = inB t 1 60 := ⟨_, rfl⟩
    obtain ⟨kh, hkh⟩ : ∃ k, k = inB h 0 999 := ⟨_, rfl⟩
    have hin : ∀ u, Calls Try.prog 26 #[.int .i64 t, .int .i64 1, .int .i64 60] u fun e w' => e = .returned (.bool kt) ∧ w' = u := fun u => by rw [hkt]; exact l1In_any _ _ _ u
    have hht : ∀ v, Calls Try.prog 27 #[.int .i64 h] v fun e w' => e = .returned (.bool kh) ∧ w' = v := fun v => by rw [hkh]; exact l2Height_any _ v
    have HKT : Hid (kt = inB t 1 60) := hkt
    have HKH : Hid (kh = inB h 0 999) := hkh
    clear hcd hC hO hok hri hkt hkh
    cases kt
    · rw [putR_code HCD.out (puts_fault (putF_range (.inl HKT.out.symm)) (by simp)) (by simp)]
      go_enter Try.func7, Try.ntmps7
      go_wp2_with (first | (go_at_call 25; (with_reducible refine hF.mono ?_); clear hF; rintro e w2 ⟨rfl, hb2⟩; have HT1 := keepb T1.out hb2; have HB2 : Hid (Below w.heap.size w w2) := HBX.out.trans (hb2.mono HBX.out.size); obtain ⟨y0, y1⟩ := cells2 HT1.out; have f0 := Joins.unfrozen_of_block HT1.out 0; have f1 := Joins.unfrozen_of_block HT1.out 1; clear hb2) | (go_at_call 26; (with_reducible refine (hin _).mono ?_); rintro e w' ⟨rfl, hw⟩; have hw2 := hw.symm; subst hw2; clear hw))
      obtain ⟨_, j1⟩ := two_set HT1.out (.int .i64 3) (.slice none 0 0)
      exact bodyPost_ret (v := .agg #[.int .i64 3, .slice none 0 0]) (by simp [results, Try.results7, go_sem, j1]) rfl (out_code (Nat.le_refl _) HB2.out)
    cases kh
    · rw [putR_code HCD.out (puts_fault (putF_range (.inr HKH.out.symm)) (by simp)) (by simp)]
      go_enter Try.func7, Try.ntmps7
      go_wp2_with (first | (go_at_call 25; (with_reducible refine hF.mono ?_); clear hF; rintro e w2 ⟨rfl, hb2⟩; have HT1 := keepb T1.out hb2; have HB2 : Hid (Below w.heap.size w w2) := HBX.out.trans (hb2.mono HBX.out.size); obtain ⟨y0, y1⟩ := cells2 HT1.out; have f0 := Joins.unfrozen_of_block HT1.out 0; have f1 := Joins.unfrozen_of_block HT1.out 1; clear hb2) | (go_at_call 26; (with_reducible refine (hin _).mono ?_); rintro e w' ⟨rfl, hw⟩; have hw2 := hw.symm; subst hw2; clear hw) | (go_at_call 27; (with_reducible refine (hht _).mono ?_); rintro e w' ⟨rfl, hw⟩; have hw2 := hw.symm; subst hw2; clear hw))
      obtain ⟨_, j1⟩ := two_set HT1.out (.int .i64 3) (.slice none 0 0)
      exact bodyPost_ret (v := .agg #[.int .i64 3, .slice none 0 0]) (by simp [results, Try.results7, go_sem, j1]) rfl (out_code (Nat.le_refl _) HB2.out)
    have HRA : Hid (¬ (inB t 1 60 = false ∨ inB h 0 999 = false)) := by
      rintro (q | q)
      · rw [← HKT.out] at q; cases q
      · rw [← HKH.out] at q; cases q
    by_cases h4 : 4 < n2
    · rw [putR_code HCD.out (puts_fault (putF_many HRA.out (by rw [HOL.out]; exact h4)) (by simp)) (by simp)]
      have h4i : (4 : Int) < (n2 : Int) := by omega
      go_enter Try.func7, Try.ntmps7
      go_wp2_with (first | (go_at_call 25; (with_reducible refine hF.mono ?_); clear hF; rintro e w2 ⟨rfl, hb2⟩; have HT1 := keepb T1.out hb2; have HB2 : Hid (Below w.heap.size w w2) := HBX.out.trans (hb2.mono HBX.out.size); obtain ⟨y0, y1⟩ := cells2 HT1.out; have f0 := Joins.unfrozen_of_block HT1.out 0; have f1 := Joins.unfrozen_of_block HT1.out 1; clear hb2) | (go_at_call 26; (with_reducible refine (hin _).mono ?_); rintro e w' ⟨rfl, hw⟩; have hw2 := hw.symm; subst hw2; clear hw) | (go_at_call 27; (with_reducible refine (hht _).mono ?_); rintro e w' ⟨rfl, hw⟩; have hw2 := hw.symm; subst hw2; clear hw))
      obtain ⟨_, j1⟩ := two_set HT1.out (.int .i64 2) (.slice none 0 0)
      exact bodyPost_ret (v := .agg #[.int .i64 2, .slice none 0 0]) (by simp [results, Try.results7, go_sem, j1]) rfl (out_code (Nat.le_refl _) HB2.out)
    have h4i : ¬ (4 : Int) < (n2 : Int) := by omega
    have HPF : Hid (putFR t os h = outsR os) := putF_outs HRA.out (by rw [HOL.out]; exact h4)
    obtain ⟨rc, hrc⟩ : ∃ x, x = (putR cs t os h m).1 := ⟨_, rfl⟩
    obtain ⟨rr, hrr⟩ : ∃ x, x = (putR cs t os h m).2 := ⟨_, rfl⟩
    rw [← hrc, ← hrr]
    have HRC : Hid (rc = (putR cs t os h m).1) := hrc
    have HRR : Hid (rr = (putR cs t os h m).2) := hrr
    obtain ⟨r1, hr1⟩ : ∃ r, r = outsR os := ⟨_, rfl⟩
    have HR1 : Hid (r1 = outsR os) := hr1
    obtain ⟨ht, hht'⟩ : ∃ k, k = hasT cs t := ⟨_, rfl⟩
    have HHT : Hid (ht = hasT cs t) := hht'
    have HOF : Hid (∀ W, Below w.heap.size w W → Calls Try.prog 29 #[.slice a n c, .int .i64 t] W fun e w' => e = .returned (.bool ht) ∧ w' = W) := fun W hW => by rw [HHT.out]; exact l4Of_any n c a cs t W hn (HC.out.below hW (Nat.le_refl _))
    clear hrc hrr hr1 hht'
    go_enter Try.func7, Try.ntmps7
    go_wp2_with (first | (go_at_call 25; (with_reducible refine hF.mono ?_); clear hF; rintro e w2 ⟨rfl, hb2⟩; have HT1 := keepb T1.out hb2; have HB2 : Hid (Below w.heap.size w w2) := HBX.out.trans (hb2.mono HBX.out.size); obtain ⟨y0, y1⟩ := cells2 HT1.out; have f0 := Joins.unfrozen_of_block HT1.out 0; have f1 := Joins.unfrozen_of_block HT1.out 1; clear hb2) | (go_at_call 26; (with_reducible refine (hin _).mono ?_); rintro e w' ⟨rfl, hw⟩; have hw2 := hw.symm; subst hw2; clear hw) | (go_at_call 27; (with_reducible refine (hht _).mono ?_); rintro e w' ⟨rfl, hw⟩; have hw2 := hw.symm; subst hw2; clear hw))
    clear y0 y1 f0 f1 hin hht
    go_loopw [12] (fun i wr => ∃ j : Nat, j ≤ n2 ∧ i = .int .i64 j ∧ Below w2.heap.size w2 wr ∧ Hid (r1 = outsR (os.drop j))) (fun i _ => n2 - (intOf i).toNat)
    case atStart => exact ⟨0, Nat.zero_le _, rfl, Below.refl _ _, HR1.out⟩
    case round =>
      obtain ⟨j, hj, rfl, hbel, HT⟩ := hrel
      have HB3 : Hid (Below w.heap.size w wr) := HB2.out.trans (hbel.mono HB2.out.size)
      have HT3 := keepb HT1.out hbel
      by_cases hlt : j < n2
      · rcases HO.out.2 with h0 | ⟨b, off, e0, l0, d0⟩
        · omega
        subst e0
        obtain ⟨o, ho⟩ : ∃ o, o = os.getD j O0 := ⟨_, rfl⟩
        obtain ⟨ka, kn, kc, p0, p1, p2, p3, p4, p5⟩ := d0 j hlt
        have hol := HK2.out j hlt
        rw [← ho] at p0 p2 p3 p5 hol
        have HNX : Hid (os.drop j = o :: os.drop (j + 1)) := drop_next HOL.out hlt ho
        obtain ⟨ov, ol, ox, oy⟩ := o
        simp only at p0 p2 p3 p5 hol
        obtain rfl := p5.1
        have x0 := (HB3.out.cell (p := ⟨b, off + j * 4, none⟩) l0).trans p0
        have x1 := (HB3.out.cell (p := ⟨b, off + j * 4 + 1, none⟩) l0).trans p1
        have x2 := (HB3.out.cell (p := ⟨b, off + j * 4 + 2, none⟩) l0).trans p2
        have x3 := (HB3.out.cell (p := ⟨b, off + j * 4 + 3, none⟩) l0).trans p3
        have hlw : b < wr.heap.size := Nat.lt_of_lt_of_le l0 HB3.out.size
        have hlo := l4Out_any b (off + j * 4) ol.length kc ka ov ol ox oy wr hol (p5.below HB3.out (Nat.le_refl _)) hlw x0 x1 x2 x3
        obtain ⟨cx, hcx⟩ : ∃ c, c = outR ov ol ox oy := ⟨_, rfl⟩
        rw [← hcx] at hlo
        have HCX : Hid (outR ov ol ox oy = cx) := hcx.symm
        have hki : (j : Int) < (n2 : Int) := by omega
        clear d0 ho p0 p1 p2 p3 p4 p5 hcx x0 x1 x2 x3 hlw hol
        by_cases hc0 : cx = 0
        · have HTN : Hid (r1 = outsR (os.drop (j + 1))) := by
            show _ = _
            rw [HT.out, HNX.out]
            exact outs_go (HCX.out.trans hc0)
          subst hc0
          go_wp2_with (first | (go_at_call 28; (with_reducible refine hlo.mono ?_); clear hlo; rintro e w4 ⟨rfl, hb4⟩))
          go_roundw
          case rel => exact ⟨j + 1, by omega, by go_num, hbel.trans (hb4.mono hbel.size), HTN⟩
          case measure => simp [intOf]; omega
        · have hr : putR cs t os h m = (cx, []) := putR_code HCD.out (puts_fault (HPF.out.trans (HR1.out.symm.trans (HT.out.trans (by rw [HNX.out]; exact outs_bad HCX.out hc0)))) hc0) hc0
          obtain rfl : cx = rc := by rw [HRC.out, hr]
          obtain rfl : rr = [] := by rw [HRR.out, hr]
          clear hr
          go_wp2_with (first | (go_at_call 28; (with_reducible refine hlo.mono ?_); clear hlo; rintro e w4 ⟨rfl, hb4⟩; have HT4 := keepb HT3.out hb4; have HB4 : Hid (Below w.heap.size w w4) := HB3.out.trans (hb4.mono HB3.out.size); obtain ⟨y0, y1⟩ := cells2 HT4.out; have f0 := Joins.unfrozen_of_block HT4.out 0; have f1 := Joins.unfrozen_of_block HT4.out 1; clear hb4))
          obtain ⟨_, j1⟩ := two_set HT4.out (.int .i64 cx) (.slice none 0 0)
          exact bodyPost_ret (v := .agg #[.int .i64 cx, .slice none 0 0]) (by simp [results, Try.results7, go_sem, j1]) rfl (out_code (Nat.le_refl _) HB4.out)
      · have HRZ : Hid (outsR os = 0) := by
          show _ = _
          rw [← HR1.out, HT.out, List.drop_eq_nil_of_le (by rw [HOL.out]; omega)]; rfl
        have hki : ¬ (j : Int) < (n2 : Int) := by omega
        obtain ⟨y0, y1⟩ := cells2 HT3.out
        have f0 := Joins.unfrozen_of_block HT3.out 0
        have f1 := Joins.unfrozen_of_block HT3.out 1
        have HRE : Hid (putsR cs.length (hasT cs t) t os h = if ht = true then 7 else if 40 < n + n2 then 2 else 0) := by
          show _ = _
          rw [puts_rest (HPF.out.trans HRZ.out), ← HHT.out, HCL.out, HOL.out]
        cases ht
        · by_cases h402 : 40 < n + n2
          · have hr : putR cs t os h m = (2, []) := putR_code HCD.out (HRE.out.trans (by rw [if_neg (by simp), if_pos h402])) (by simp)
            obtain rfl : rc = 2 := by rw [HRC.out, hr]
            obtain rfl : rr = [] := by rw [HRR.out, hr]
            have h40i : (40 : Int) < (n : Int) + (n2 : Int) := by omega
            clear hr
            go_wp2_with (first | (go_at_call 29; (with_reducible refine (HOF.out _ HB3.out).mono ?_); rintro e w' ⟨rfl, hw⟩; have hw2 := hw.symm; subst hw2; clear hw))
            obtain ⟨_, j1⟩ := two_set HT3.out (.int .i64 2) (.slice none 0 0)
            exact bodyPost_ret (v := .agg #[.int .i64 2, .slice none 0 0]) (by simp [results, Try.results7, go_sem, j1]) rfl (out_code (Nat.le_refl _) HB3.out)
          · have hr : putR cs t os h m = (0, addCs cs (newCs t h m os n2)) := by rw [putR_ok HCD.out (HRE.out.trans (by rw [if_neg (by simp), if_neg h402])), HOL.out]
            obtain rfl : rc = 0 := by rw [HRC.out, hr]
            have HRS : Hid (rr = addCs cs (newCs t h m os n2)) := by show _ = _; rw [HRR.out, hr]
            have HRL : Hid (rr.length = n + n2) := by show _ = _; rw [HRS.out, addCs_len, HCL.out]
            have h40i : ¬ (40 : Int) < (n : Int) + (n2 : Int) := by omega
            have HPU := l4Put_any n c n2 c2 a a2 cs t h m os wr h40 HOK.out (by omega) (outs_more HRZ.out) (HC.out.below HB3.out (Nat.le_refl _)) (HO.out.below HB3.out (Nat.le_refl _))
            clear hr
            go_wp2_with (first
              | (go_at_call 29; (with_reducible refine (HOF.out _ HB3.out).mono ?_); rintro e w' ⟨rfl, hw⟩; have hw2 := hw.symm; subst hw2; clear hw)
              | (go_at_call 30; (with_reducible refine HPU.mono ?_); clear HPU; rintro e w5 ⟨g5, c5, rfl, HO5, hb5⟩; have HO5' : Hid (∃ kv, COwn w5 wr.heap.size w5.heap.size (.slice (some ⟨g5, 0, none⟩) (n + n2) c5) (n + n2) (fun q => rr.getD q C0) kv) := (by rw [HRS.out]; exact HO5); have HT5 := keepb HT3.out hb5; have HB5 : Hid (Below w.heap.size w w5) := HB3.out.trans (hb5.mono HB3.out.size); clear y0 y1 f0 f1 HO5 hb5; obtain ⟨y0, y1⟩ := cells2 HT5.out; have f0 := Joins.unfrozen_of_block HT5.out 0; have f1 := Joins.unfrozen_of_block HT5.out 1))
            obtain ⟨_, j1⟩ := two_set HT5.out (.int .i64 0) (.slice (some ⟨g5, 0, none⟩) (n + n2) c5)
            exact bodyPost_ret (v := .agg #[.int .i64 0, .slice (some ⟨g5, 0, none⟩) (n + n2) c5]) (by simp [results, Try.results7, go_sem, j1]) rfl (out_coinsN HRL.out (Nat.le_refl _) (lt_of_block HT3.out) HB5.out HO5'.out)
        · have hr : putR cs t os h m = (7, []) := putR_code HCD.out (HRE.out.trans (by rw [if_pos rfl])) (by simp)
          obtain rfl : rc = 7 := by rw [HRC.out, hr]
          obtain rfl : rr = [] := by rw [HRR.out, hr]
          clear hr
          go_wp2_with (first | (go_at_call 29; (with_reducible refine (HOF.out _ HB3.out).mono ?_); rintro e w' ⟨rfl, hw⟩; have hw2 := hw.symm; subst hw2; clear hw))
          obtain ⟨_, j1⟩ := two_set HT3.out (.int .i64 7) (.slice none 0 0)
          exact bodyPost_ret (v := .agg #[.int .i64 7, .slice none 0 0]) (by simp [results, Try.results7, go_sem, j1]) rfl (out_code (Nat.le_refl _) HB3.out)
  · have hr : putR cs t os h m = (cd, []) := by unfold putR; rw [← hcd, if_pos h0]
    rw [hr]
    clear hr hcd hC hO
    go_enter Try.func7, Try.ntmps7
    go_wp2_with (first | (go_at_call 25; (with_reducible refine hF.mono ?_); clear hF; rintro e w2 ⟨rfl, hb2⟩; have HT1 := keepb T1.out hb2; have HB2 : Hid (Below w.heap.size w w2) := HBX.out.trans (hb2.mono HBX.out.size); obtain ⟨y0, y1⟩ := cells2 HT1.out; have f0 := Joins.unfrozen_of_block HT1.out 0; have f1 := Joins.unfrozen_of_block HT1.out 1; clear hb2))
    obtain ⟨_, j1⟩ := two_set HT1.out (.int .i64 cd) (.slice none 0 0)
    exact bodyPost_ret (v := .agg #[.int .i64 cd, .slice none 0 0]) (by simp [results, Try.results7, go_sem, j1]) rfl (out_code (Nat.le_refl _) HB2.out)

end Go.Proofs.Ytdfijlcjmllplaa
