/- The specification's PutCoins keeps its contract. The specification's SpendTx keeps its contract. A transaction is spent in the program's purse. The program's SpendTx keeps its contract. Outs of the call's own: their row and their keys' rows; marks are written into them. Refs of the call's own are marked. A transaction of the call's own: its refs' row and its outs; marks are written into it. What the laws on coins and a transaction share: results in their block, copies that are handed on. -/
import Derived.Test.YtngpegmfhhgkgaaGreatDoorDv
import Derived.Test.YtngpegmfhhgkgaaGreatDoorQm
import Derived.Test.YtngpegmfhhgkgaaGreatDoorQr
import Derived.Test.YtngpegmfhhgkgaaGreatDoorDs
import Derived.Test.YtngpegmfhhgkgaaGreatDoorLTxFault
import Derived.Test.YtngpegmfhhgkgaaGreatDoorCm
import Derived.Test.YtngpegmfhhgkgaaGreatDoorTxA
import Derived.Test.YtngpegmfhhgkgaaGreatDoorTxS
import Derived.Test.YtngpegmfhhgkgaaGreatDoorCh
import Derived.Test.YtngpegmfhhgkgaaGreatDoorCt
import Derived.Test.YtngpegmfhhgkgaaGreatDoorDi
import Derived.Deep.DeepCutAuto
namespace Go.Proofs.YtngpegmfhhgkgaaGreatDoor
open Go.RowKit Go.Maps Go.WideMaps

theorem out_coinsN {w W : World} {R lo N : Nat} {cs : List Co} {va : Option Addr} {vc : Nat} (hN : cs.length = N) (hR : w.heap.size ≤ R) (hlo : R < lo) (hb : Below w.heap.size w W) (hO : ∃ kv, COwn W lo W.heap.size (.slice va N vc) N (fun j => cs.getD j C0) kv) :
    OutCs w ((W.setCell ⟨R, 0, none⟩ (.int .i64 0)).setCell ⟨R, 1, none⟩ (.slice va N vc)) (.returned (.agg #[.int .i64 0, .slice va N vc])) 0 cs := by
  subst hN
  exact out_coins hR hlo hb hO
theorem outs_bad {o : Ou} {t : List Ou} {r : Int} (h : outR o.v o.l o.x o.y = r) (h0 : ¬ r = 0) : outsR (o :: t) = r := by
  unfold outR at h
  rw [outsR]
  by_cases h1 : inB o.v 1 1000000 = false
  · rw [if_pos h1] at h ⊢; exact h
  · rw [if_neg h1] at h ⊢; rw [h, if_pos h0]
theorem outs_go {o : Ou} {t : List Ou} (h : outR o.v o.l o.x o.y = 0) : outsR (o :: t) = outsR t := by
  unfold outR at h
  rw [outsR]
  by_cases h1 : inB o.v 1 1000000 = false
  · rw [if_pos h1] at h; cases h
  · rw [if_neg h1] at h ⊢; rw [h, if_neg (by simp)]
theorem putR_code {cs : List Co} {t h : Int} {m : Bool} {os : List Ou} {r : Int} (h0 : coinsR cs = 0) (hp : putsR cs.length (hasT cs t) t os h = r) (hr : ¬ r = 0) : putR cs t os h m = (r, []) := by
  unfold putR
  rw [if_neg (by simp [h0]), hp, if_pos hr]
theorem putR_ok {cs : List Co} {t h : Int} {m : Bool} {os : List Ou} (h0 : coinsR cs = 0) (hp : putsR cs.length (hasT cs t) t os h = 0) : putR cs t os h m = (0, addCs cs (newCs t h m os os.length)) := by
  unfold putR
  rw [if_neg (by simp [h0]), hp, if_neg (by simp)]
theorem puts_fault {n : Nat} {ti : Bool} {t h : Int} {os : List Ou} {r : Int} (hp : putFR t os h = r) (hr : ¬ r = 0) : putsR n ti t os h = r := by
  unfold putsR
  rw [hp, if_pos hr]
theorem puts_rest {n : Nat} {ti : Bool} {t h : Int} {os : List Ou} (hp : putFR t os h = 0) : putsR n ti t os h = if ti = true then 7 else if 40 < n + os.length then 2 else 0 := by
  unfold putsR
  rw [hp, if_neg (by simp)]
theorem putF_range {t h : Int} {os : List Ou} (hh : inB t 1 60 = false ∨ inB h 0 999 = false) : putFR t os h = 3 := by unfold putFR; rw [if_pos hh]
theorem putF_many {t h : Int} {os : List Ou} (hh : ¬ (inB t 1 60 = false ∨ inB h 0 999 = false)) (h4 : 4 < os.length) : putFR t os h = 2 := by unfold putFR; rw [if_neg hh, if_pos h4]
theorem putF_outs {t h : Int} {os : List Ou} (hh : ¬ (inB t 1 60 = false ∨ inB h 0 999 = false)) (h4 : ¬ 4 < os.length) : putFR t os h = outsR os := by unfold putFR; rw [if_neg hh, if_neg h4]

set_option maxRecDepth 20000 in
set_option maxHeartbeats 8000000 in
theorem sPutCoins_any (n c n2 c2 : Nat) (a a2 : Option Addr) (cs : List Co) (t h : Int) (m : Bool) (os : List Ou) (w : World) (hn : n ≤ 1048576) (hk : ∀ j, j < n → (cs.getD j C0).l.length ≤ 1048576) (hn2 : n2 ≤ 1048576) (hk2 : ∀ j, j < n2 → (os.getD j O0).l.length ≤ 1048576) (hC : CAt w a n cs) (hO : OAt w a2 n2 os) :
    Calls Tryz.prog 23 #[.slice a n c, .int .i64 t, .slice a2 n2 c2, .int .i64 h, .bool m] w fun e w' => OutCs w w' e (putR cs t os h m).1 (putR cs t os h m).2 := by
  have hbx : Below w.heap.size w (w.alloc (.cells #[.int .i64 0, .slice none 0 0] 31)) := below_box _
  have hF := l4Fault_any n c a cs (w.alloc (.cells #[.int .i64 0, .slice none 0 0] 31)) hn hk (hC.below hbx (Nat.le_refl _))
  have HBX : Hid (Below w.heap.size w (w.alloc (.cells #[.int .i64 0, .slice none 0 0] 31))) := hbx
  have T1 : Hid ((w.alloc (.cells #[.int .i64 0, .slice none 0 0] 31)).heap[w.heap.size]? = some (.cells #[.int .i64 0, .slice none 0 0] 31 (0, 0))) := heap_alloc_new _ _
  have HC : Hid (CAt w a n cs) := hC
  have HO : Hid (OAt w a2 n2 os) := hO
  have HCL : Hid (cs.length = n) := hC.1
  have HOL : Hid (os.length = n2) := hO.1
  have HK2 : Hid (∀ j, j < n2 → (os.getD j O0).l.length ≤ 1048576) := hk2
  obtain ⟨cd, hcd⟩ : ∃ r, r = coinsR cs := ⟨_, rfl⟩
  rw [← hcd] at hF
  clear hbx hk hk2
  by_cases h0 : cd = 0
  · subst h0
    obtain ⟨h40, hok, hri⟩ := coins_rise hcd.symm
    rw [hC.1] at h40
    have HCD : Hid (coinsR cs = 0) := hcd.symm
    have HOK : Hid (∀ c ∈ cs, coinR c = 0) := hok
    obtain ⟨kt, hkt⟩ : ∃ k, k = inB t 1 60 := ⟨_, rfl⟩
    obtain ⟨kh, hkh⟩ : ∃ k, k = inB h 0 999 := ⟨_, rfl⟩
    have hin : ∀ u, Calls Tryz.prog 43 #[.int .i64 t, .int .i64 1, .int .i64 60] u fun e w' => e = .returned (.bool kt) ∧ w' = u := fun u => by rw [hkt]; exact l1In_any _ _ _ u
    have hht : ∀ v, Calls Tryz.prog 44 #[.int .i64 h] v fun e w' => e = .returned (.bool kh) ∧ w' = v := fun v => by rw [hkh]; exact l2Height_any _ v
    have HKT : Hid (kt = inB t 1 60) := hkt
    have HKH : Hid (kh = inB h 0 999) := hkh
    clear hcd hC hO hok hri hkt hkh
    cases kt
    · rw [putR_code HCD.out (puts_fault (putF_range (.inl HKT.out.symm)) (by simp)) (by simp)]
      go_enter Tryz.func23, Tryz.ntmps23
      go_wp2_with (first | (go_at_call 38; (with_reducible refine hF.mono ?_); clear hF; rintro e w2 ⟨rfl, hb2⟩; have HT1 := keepb T1.out hb2; have HB2 : Hid (Below w.heap.size w w2) := HBX.out.trans (hb2.mono HBX.out.size); obtain ⟨y0, y1⟩ := cells2 HT1.out; have f0 := Joins.unfrozen_of_block HT1.out 0; have f1 := Joins.unfrozen_of_block HT1.out 1; clear hb2) | (go_at_call 43; (with_reducible refine (hin _).mono ?_); rintro e w' ⟨rfl, hw⟩; have hw2 := hw.symm; subst hw2; clear hw))
      obtain ⟨_, j1⟩ := two_set HT1.out (.int .i64 3) (.slice none 0 0)
      exact bodyPost_ret (v := .agg #[.int .i64 3, .slice none 0 0]) (by simp [results, Tryz.results23, go_sem, j1]) rfl (out_code (Nat.le_refl _) HB2.out)
    cases kh
    · rw [putR_code HCD.out (puts_fault (putF_range (.inr HKH.out.symm)) (by simp)) (by simp)]
      go_enter Tryz.func23, Tryz.ntmps23
      go_wp2_with (first | (go_at_call 38; (with_reducible refine hF.mono ?_); clear hF; rintro e w2 ⟨rfl, hb2⟩; have HT1 := keepb T1.out hb2; have HB2 : Hid (Below w.heap.size w w2) := HBX.out.trans (hb2.mono HBX.out.size); obtain ⟨y0, y1⟩ := cells2 HT1.out; have f0 := Joins.unfrozen_of_block HT1.out 0; have f1 := Joins.unfrozen_of_block HT1.out 1; clear hb2) | (go_at_call 43; (with_reducible refine (hin _).mono ?_); rintro e w' ⟨rfl, hw⟩; have hw2 := hw.symm; subst hw2; clear hw) | (go_at_call 44; (with_reducible refine (hht _).mono ?_); rintro e w' ⟨rfl, hw⟩; have hw2 := hw.symm; subst hw2; clear hw))
      obtain ⟨_, j1⟩ := two_set HT1.out (.int .i64 3) (.slice none 0 0)
      exact bodyPost_ret (v := .agg #[.int .i64 3, .slice none 0 0]) (by simp [results, Tryz.results23, go_sem, j1]) rfl (out_code (Nat.le_refl _) HB2.out)
    have HRA : Hid (¬ (inB t 1 60 = false ∨ inB h 0 999 = false)) := by
      rintro (q | q)
      · rw [← HKT.out] at q; cases q
      · rw [← HKH.out] at q; cases q
    by_cases h4 : 4 < n2
    · rw [putR_code HCD.out (puts_fault (putF_many HRA.out (by rw [HOL.out]; exact h4)) (by simp)) (by simp)]
      have h4i : (4 : Int) < (n2 : Int) := by omega
      go_enter Tryz.func23, Tryz.ntmps23
      go_wp2_with (first | (go_at_call 38; (with_reducible refine hF.mono ?_); clear hF; rintro e w2 ⟨rfl, hb2⟩; have HT1 := keepb T1.out hb2; have HB2 : Hid (Below w.heap.size w w2) := HBX.out.trans (hb2.mono HBX.out.size); obtain ⟨y0, y1⟩ := cells2 HT1.out; have f0 := Joins.unfrozen_of_block HT1.out 0; have f1 := Joins.unfrozen_of_block HT1.out 1; clear hb2) | (go_at_call 43; (with_reducible refine (hin _).mono ?_); rintro e w' ⟨rfl, hw⟩; have hw2 := hw.symm; subst hw2; clear hw) | (go_at_call 44; (with_reducible refine (hht _).mono ?_); rintro e w' ⟨rfl, hw⟩; have hw2 := hw.symm; subst hw2; clear hw))
      obtain ⟨_, j1⟩ := two_set HT1.out (.int .i64 2) (.slice none 0 0)
      exact bodyPost_ret (v := .agg #[.int .i64 2, .slice none 0 0]) (by simp [results, Tryz.results23, go_sem, j1]) rfl (out_code (Nat.le_refl _) HB2.out)
    have h4i : ¬ (4 : Int) < (n2 : Int) := by omega
    have HPF : Hid (putFR t os h = outsR os) := putF_outs HRA.out (by rw [HOL.out]; exact h4)
    obtain ⟨rc, hrc⟩ : ∃ x, x = (putR cs t os h m).1 := ⟨_, rfl⟩
    obtain ⟨rr, hrr⟩ : ∃ x, x = (putR cs t os h m).2 := ⟨_, rfl⟩
    rw [← hrc, ← hrr]
    have HRC : Hid (rc = (putR cs t os h m).1) := hrc
    have HRR : Hid (rr = (putR cs t os h m).2) := hrr
    obtain ⟨r1, hr1⟩ : ∃ r, r = outsR os := ⟨_, rfl⟩
    have HR1 : Hid (r1 = outsR os) := hr1
    obtain ⟨ht, hht'⟩ : ∃ k, k = hasT cs t := ⟨_, rfl⟩
    have HHT : Hid (ht = hasT cs t) := hht'
    have HOF : Hid (∀ W, Below w.heap.size w W → Calls Tryz.prog 21 #[.slice a n c, .int .i64 t] W fun e w' => e = .returned (.bool ht) ∧ w' = W) := fun W hW => by rw [HHT.out]; exact l4Of_any n c a cs t W hn (HC.out.below hW (Nat.le_refl _))
    clear hrc hrr hr1 hht'
    go_enter Tryz.func23, Tryz.ntmps23
    go_wp2_with (first | (go_at_call 38; (with_reducible refine hF.mono ?_); clear hF; rintro e w2 ⟨rfl, hb2⟩; have HT1 := keepb T1.out hb2; have HB2 : Hid (Below w.heap.size w w2) := HBX.out.trans (hb2.mono HBX.out.size); obtain ⟨y0, y1⟩ := cells2 HT1.out; have f0 := Joins.unfrozen_of_block HT1.out 0; have f1 := Joins.unfrozen_of_block HT1.out 1; clear hb2) | (go_at_call 43; (with_reducible refine (hin _).mono ?_); rintro e w' ⟨rfl, hw⟩; have hw2 := hw.symm; subst hw2; clear hw) | (go_at_call 44; (with_reducible refine (hht _).mono ?_); rintro e w' ⟨rfl, hw⟩; have hw2 := hw.symm; subst hw2; clear hw))
    clear y0 y1 f0 f1 hin hht
    go_loopw [12] (fun i wr => ∃ j : Nat, j ≤ n2 ∧ i = .int .i64 j ∧ Below w2.heap.size w2 wr ∧ Hid (r1 = outsR (os.drop j))) (fun i _ => n2 - (intOf i).toNat)
    case atStart => exact ⟨0, Nat.zero_le _, rfl, Below.refl _ _, HR1.out⟩
    case round =>
      obtain ⟨j, hj, rfl, hbel, HT⟩ := hrel
      have HB3 : Hid (Below w.heap.size w wr) := HB2.out.trans (hbel.mono HB2.out.size)
      have HT3 := keepb HT1.out hbel
      by_cases hlt : j < n2
      · rcases HO.out.2 with h0 | ⟨b, off, e0, l0, d0⟩
        · omega
        subst e0
        obtain ⟨o, ho⟩ : ∃ o, o = os.getD j O0 := ⟨_, rfl⟩
        obtain ⟨ka, kn, kc, p0, p1, p2, p3, p4, p5⟩ := d0 j hlt
        have hol := HK2.out j hlt
        rw [← ho] at p0 p2 p3 p5 hol
        have HNX : Hid (os.drop j = o :: os.drop (j + 1)) := drop_next HOL.out hlt ho
        obtain ⟨ov, ol, ox, oy⟩ := o
        simp only at p0 p2 p3 p5 hol
        obtain rfl := p5.1
        have x0 := (HB3.out.cell (p := ⟨b, off + j * 4, none⟩) l0).trans p0
        have x1 := (HB3.out.cell (p := ⟨b, off + j * 4 + 1, none⟩) l0).trans p1
        have x2 := (HB3.out.cell (p := ⟨b, off + j * 4 + 2, none⟩) l0).trans p2
        have x3 := (HB3.out.cell (p := ⟨b, off + j * 4 + 3, none⟩) l0).trans p3
        have hlw : b < wr.heap.size := Nat.lt_of_lt_of_le l0 HB3.out.size
        have hlo := l4Out_any b (off + j * 4) ol.length kc ka ov ol ox oy wr hol (p5.below HB3.out (Nat.le_refl _)) hlw x0 x1 x2 x3
        obtain ⟨cx, hcx⟩ : ∃ c, c = outR ov ol ox oy := ⟨_, rfl⟩
        rw [← hcx] at hlo
        have HCX : Hid (outR ov ol ox oy = cx) := hcx.symm
        have hki : (j : Int) < (n2 : Int) := by omega
        clear d0 ho p0 p1 p2 p3 p4 p5 hcx x0 x1 x2 x3 hlw hol
        by_cases hc0 : cx = 0
        · have HTN : Hid (r1 = outsR (os.drop (j + 1))) := by
            show _ = _
            rw [HT.out, HNX.out]
            exact outs_go (HCX.out.trans hc0)
          subst hc0
          go_wp2_with (first | (go_at_call 45; (with_reducible refine hlo.mono ?_); clear hlo; rintro e w4 ⟨rfl, hb4⟩))
          go_roundw
          case rel => exact ⟨j + 1, by omega, by go_num, hbel.trans (hb4.mono hbel.size), HTN⟩
          case measure => simp [intOf]; omega
        · have hr : putR cs t os h m = (cx, []) := putR_code HCD.out (puts_fault (HPF.out.trans (HR1.out.symm.trans (HT.out.trans (by rw [HNX.out]; exact outs_bad HCX.out hc0)))) hc0) hc0
          obtain rfl : cx = rc := by rw [HRC.out, hr]
          obtain rfl : rr = [] := by rw [HRR.out, hr]
          clear hr
          go_wp2_with (first | (go_at_call 45; (with_reducible refine hlo.mono ?_); clear hlo; rintro e w4 ⟨rfl, hb4⟩; have HT4 := keepb HT3.out hb4; have HB4 : Hid (Below w.heap.size w w4) := HB3.out.trans (hb4.mono HB3.out.size); obtain ⟨y0, y1⟩ := cells2 HT4.out; have f0 := Joins.unfrozen_of_block HT4.out 0; have f1 := Joins.unfrozen_of_block HT4.out 1; clear hb4))
          obtain ⟨_, j1⟩ := two_set HT4.out (.int .i64 cx) (.slice none 0 0)
          exact bodyPost_ret (v := .agg #[.int .i64 cx, .slice none 0 0]) (by simp [results, Tryz.results23, go_sem, j1]) rfl (out_code (Nat.le_refl _) HB4.out)
      · have HRZ : Hid (outsR os = 0) := by
          show _ = _
          rw [← HR1.out, HT.out, List.drop_eq_nil_of_le (by rw [HOL.out]; omega)]; rfl
        have hki : ¬ (j : Int) < (n2 : Int) := by omega
        obtain ⟨y0, y1⟩ := cells2 HT3.out
        have f0 := Joins.unfrozen_of_block HT3.out 0
        have f1 := Joins.unfrozen_of_block HT3.out 1
        have HRE : Hid (putsR cs.length (hasT cs t) t os h = if ht = true then 7 else if 40 < n + n2 then 2 else 0) := by
          show _ = _
          rw [puts_rest (HPF.out.trans HRZ.out), ← HHT.out, HCL.out, HOL.out]
        cases ht
        · by_cases h402 : 40 < n + n2
          · have hr : putR cs t os h m = (2, []) := putR_code HCD.out (HRE.out.trans (by rw [if_neg (by simp), if_pos h402])) (by simp)
            obtain rfl : rc = 2 := by rw [HRC.out, hr]
            obtain rfl : rr = [] := by rw [HRR.out, hr]
            have h40i : (40 : Int) < (n : Int) + (n2 : Int) := by omega
            clear hr
            go_wp2_with (first | (go_at_call 21; (with_reducible refine (HOF.out _ HB3.out).mono ?_); rintro e w' ⟨rfl, hw⟩; have hw2 := hw.symm; subst hw2; clear hw))
            obtain ⟨_, j1⟩ := two_set HT3.out (.int .i64 2) (.slice none 0 0)
            exact bodyPost_ret (v := .agg #[.int .i64 2, .slice none 0 0]) (by simp [results, Tryz.results23, go_sem, j1]) rfl (out_code (Nat.le_refl _) HB3.out)
          · have hr : putR cs t os h m = (0, addCs cs (newCs t h m os n2)) := by rw [putR_ok HCD.out (HRE.out.trans (by rw [if_neg (by simp), if_neg h402])), HOL.out]
            obtain rfl : rc = 0 := by rw [HRC.out, hr]
            have HRS : Hid (rr = addCs cs (newCs t h m os n2)) := by show _ = _; rw [HRR.out, hr]
            have HRL : Hid (rr.length = n + n2) := by show _ = _; rw [HRS.out, addCs_len, HCL.out]
            have h40i : ¬ (40 : Int) < (n : Int) + (n2 : Int) := by omega
            have HPU := l4Put_any n c n2 c2 a a2 cs t h m os wr h40 HOK.out (by omega) (outs_more HRZ.out) (HC.out.below HB3.out (Nat.le_refl _)) (HO.out.below HB3.out (Nat.le_refl _))
            clear hr
            go_wp2_with (first
              | (go_at_call 21; (with_reducible refine (HOF.out _ HB3.out).mono ?_); rintro e w' ⟨rfl, hw⟩; have hw2 := hw.symm; subst hw2; clear hw)
              | (go_at_call 46; (with_reducible refine HPU.mono ?_); clear HPU; rintro e w5 ⟨g5, c5, rfl, HO5, hb5⟩; have HO5' : Hid (∃ kv, COwn w5 wr.heap.size w5.heap.size (.slice (some ⟨g5, 0, none⟩) (n + n2) c5) (n + n2) (fun q => rr.getD q C0) kv) := (by rw [HRS.out]; exact HO5); have HT5 := keepb HT3.out hb5; have HB5 : Hid (Below w.heap.size w w5) := HB3.out.trans (hb5.mono HB3.out.size); clear y0 y1 f0 f1 HO5 hb5; obtain ⟨y0, y1⟩ := cells2 HT5.out; have f0 := Joins.unfrozen_of_block HT5.out 0; have f1 := Joins.unfrozen_of_block HT5.out 1))
            obtain ⟨_, j1⟩ := two_set HT5.out (.int .i64 0) (.slice (some ⟨g5, 0, none⟩) (n + n2) c5)
            exact bodyPost_ret (v := .agg #[.int .i64 0, .slice (some ⟨g5, 0, none⟩) (n + n2) c5]) (by simp [results, Tryz.results23, go_sem, j1]) rfl (out_coinsN HRL.out (Nat.le_refl _) (lt_of_block HT3.out) HB5.out HO5'.out)
        · have hr : putR cs t os h m = (7, []) := putR_code HCD.out (HRE.out.trans (by rw [if_pos rfl])) (by simp)
          obtain rfl : rc = 7 := by rw [HRC.out, hr]
          obtain rfl : rr = [] := by rw [HRR.out, hr]
          clear hr
          go_wp2_with (first | (go_at_call 21; (with_reducible refine (HOF.out _ HB3.out).mono ?_); rintro e w' ⟨rfl, hw⟩; have hw2 := hw.symm; subst hw2; clear hw))
          obtain ⟨_, j1⟩ := two_set HT3.out (.int .i64 7) (.slice none 0 0)
          exact bodyPost_ret (v := .agg #[.int .i64 7, .slice none 0 0]) (by simp [results, Tryz.results23, go_sem, j1]) rfl (out_code (Nat.le_refl _) HB3.out)
  · have hr : putR cs t os h m = (cd, []) := by unfold putR; rw [← hcd, if_pos h0]
    rw [hr]
    clear hr hcd hC hO
    go_enter Tryz.func23, Tryz.ntmps23
    go_wp2_with (first | (go_at_call 38; (with_reducible refine hF.mono ?_); clear hF; rintro e w2 ⟨rfl, hb2⟩; have HT1 := keepb T1.out hb2; have HB2 : Hid (Below w.heap.size w w2) := HBX.out.trans (hb2.mono HBX.out.size); obtain ⟨y0, y1⟩ := cells2 HT1.out; have f0 := Joins.unfrozen_of_block HT1.out 0; have f1 := Joins.unfrozen_of_block HT1.out 1; clear hb2))
    obtain ⟨_, j1⟩ := two_set HT1.out (.int .i64 cd) (.slice none 0 0)
    exact bodyPost_ret (v := .agg #[.int .i64 cd, .slice none 0 0]) (by simp [results, Tryz.results23, go_sem, j1]) rfl (out_code (Nat.le_refl _) HB2.out)

end Go.Proofs.YtngpegmfhhgkgaaGreatDoor

namespace Go.Proofs.YtngpegmfhhgkgaaGreatDoor
open Go.RowKit Go.Maps Go.WideMaps

/-- A code and coins of their own, in the result's block. -/
theorem out_both {w W : World} {R lo : Nat} {cd : Int} {cs : List Co} {va : Option Addr} {vc : Nat} (hR : w.heap.size ≤ R) (hlo : R < lo) (hb : Below w.heap.size w W) (hO : ∃ kv, COwn W lo W.heap.size (.slice va cs.length vc) cs.length (fun j => cs.getD j C0) kv) :
    OutCs w ((W.setCell ⟨R, 0, none⟩ (.int .i64 cd)).setCell ⟨R, 1, none⟩ (.slice va cs.length vc)) (.returned (.agg #[.int .i64 cd, .slice va cs.length vc])) cd cs := by
  obtain ⟨kv, hO⟩ := hO
  have nv : (Value.slice va cs.length vc).ownBlock ≠ some R := fun e => by
    obtain ⟨xs, h1, _⟩ := hO.row
    have := (h1.lt _ e).1
    omega
  have nk : ∀ j, j < cs.length → (kv j).ownBlock ≠ some R := fun j hj e => by have := ((hO.keys j hj).1.lt _ e).1; omega
  exact ⟨_, kv, rfl, ((hO.set2 nv nk 0 (.int .i64 cd)).set2 nv nk 1 (.slice va cs.length vc)).lower (by omega) (by simp), (hb.setCell (p := ⟨R, 0, none⟩) hR _).setCell (p := ⟨R, 1, none⟩) hR _⟩
theorem spentR_none {cs : List Co} {k f : Int} {rs : List (Int × Int)} {os : List Ou} (h : (spentR cs k f rs os).1 ≠ 0) : (spentR cs k f rs os).2 = [] := by
  unfold spentR at h ⊢
  by_cases h1 : coinsR cs ≠ 0
  · rw [if_pos h1]
  rw [if_neg h1] at h ⊢
  by_cases h2 : txR k f rs os ≠ 0
  · rw [if_pos h2]
  rw [if_neg h2] at h ⊢
  by_cases h3 : rs.all (hasC cs) = true
  · rw [if_pos h3] at h; exact absurd rfl h
  · rw [if_neg h3]
theorem spentR_facts {cs : List Co} {k f : Int} {rs : List (Int × Int)} {os : List Ou} (h : (spentR cs k f rs os).1 = 0) : coinsR cs = 0 ∧ txR k f rs os = 0 ∧ rs.all (hasC cs) = true := by
  unfold spentR at h
  by_cases h1 : coinsR cs ≠ 0
  · rw [if_pos h1] at h; exact absurd h h1
  rw [if_neg h1] at h
  by_cases h2 : txR k f rs os ≠ 0
  · rw [if_pos h2] at h; exact absurd h h2
  rw [if_neg h2] at h
  by_cases h3 : rs.all (hasC cs) = true
  · exact ⟨by simpa using h1, by simpa using h2, h3⟩
  · rw [if_neg h3] at h; cases h

set_option maxRecDepth 20000 in
set_option maxHeartbeats 4000000 in
theorem sSpendTx_any (lo hi : Nat) (kv : Nat → Value) (nc cc : Nat) (ca : Option Addr) (cs : List Co) (n c m d : Nat) (ia oa : Option Addr) (k f : Int) (rs : List (Int × Int)) (os : List Ou) (id h : Int) (w : World) (hnc : nc ≤ 1048576) (hkc : ∀ j, j < nc → (cs.getD j C0).l.length ≤ 1048576)
    (hn : n ≤ 1048576) (hm : m ≤ 1048576) (hc1 : n ≤ c) (hc2 : c ≤ maxLen) (hk : ∀ j, j < m → (os.getD j O0).l.length ≤ 1048576) (hlc : cs.length = nc) (hO : COwn w lo hi (.slice ca nc cc) nc (fun j => cs.getD j C0) kv) (hlo : lo ≤ w.heap.size) (hT : TxAt w ia n oa m rs os) :
    Calls Tryz.prog 6 #[.slice ca nc cc, .agg #[.int .i64 k, .int .i64 f, .slice ia n c, .slice oa m d], .int .i64 id, .int .i64 h] w fun e w' => OutCs w w' e (spendR cs k f rs os id h).1 (spendR cs k f rs os id h).2 := by
  have HW0 : Hid (UBx w ((w.alloc (.cells #[.int .i64 k, .int .i64 f, .slice ia n c, .slice oa m d] 37)).alloc (.cells #[.int .i64 0, .slice none 0 0] 31)) k f ia n c oa m d) := UBx.start
  obtain ⟨y0, y1⟩ := cells2 HW0.out.res
  have f0 := Joins.unfrozen_of_block HW0.out.res 0
  have f1 := Joins.unfrozen_of_block HW0.out.res 1
  obtain ⟨p0, p1, p2, p3, _⟩ := cells4 HW0.out.tx
  have hC : CAt w ca nc cs := own_at2 hO hlc hkc
  obtain ⟨cd, hcd⟩ : ∃ x, x = (spentR cs k f rs os).1 := ⟨_, rfl⟩
  obtain ⟨ts, hts⟩ : ∃ x, x = (spentR cs k f rs os).2 := ⟨_, rfl⟩
  have hS1 : Calls Tryz.prog 20 #[.slice ca nc cc, .agg #[.int .i64 k, .int .i64 f, .slice ia n c, .slice oa m d]] ((w.alloc (.cells #[.int .i64 k, .int .i64 f, .slice ia n c, .slice oa m d] 37)).alloc (.cells #[.int .i64 0, .slice none 0 0] 31)) fun e w' => ∃ xa xc, e = .returned (.agg #[.int .i64 cd, .slice xa ts.length xc]) ∧ Hid (∃ kv, COwn w' ((w.alloc (.cells #[.int .i64 k, .int .i64 f, .slice ia n c, .slice oa m d] 37)).alloc (.cells #[.int .i64 0, .slice none 0 0] 31)).heap.size w'.heap.size (.slice xa ts.length xc) ts.length (fun j => ts.getD j C0) kv) ∧ Below ((w.alloc (.cells #[.int .i64 k, .int .i64 f, .slice ia n c, .slice oa m d] 37)).alloc (.cells #[.int .i64 0, .slice none 0 0] 31)).heap.size ((w.alloc (.cells #[.int .i64 k, .int .i64 f, .slice ia n c, .slice oa m d] 37)).alloc (.cells #[.int .i64 0, .slice none 0 0] 31)) w' := (sSpentBy_any nc cc lo hi ca cs kv n c m d ia oa k f rs os ((w.alloc (.cells #[.int .i64 k, .int .i64 f, .slice ia n c, .slice oa m d] 37)).alloc (.cells #[.int .i64 0, .slice none 0 0] 31)) hnc hkc hn hm hc1 hc2 hk hlc (hO.below HW0.out.bel) (Nat.le_trans hlo HW0.out.bel.size) (hT.below HW0.out.bel (Nat.le_refl _))).mono fun e w' ⟨v, kv', e1, hO', hb⟩ => by
    rw [← hcd] at e1
    rw [← hts] at hO'
    obtain ⟨va, vc, hv⟩ := own_slice3 ⟨kv', hO'⟩
    subst hv
    exact ⟨va, vc, e1, ⟨kv', hO'⟩, hb⟩
  have HOF : ∀ v, UBx w v k f ia n c oa m d → Calls Tryz.prog 21 #[.slice ca nc cc, .int .i64 id] v fun e w' => e = .returned (.bool (hasT cs id)) ∧ w' = v := fun v hv => l4Of_any nc cc ca cs id v hnc (hC.below hv.bel (Nat.le_refl _))
  unfold spendR
  rw [← hcd]
  by_cases h0 : cd = 0
  · rw [if_neg (by simp [h0])]
    obtain ⟨g1, g2, g3⟩ := spentR_facts (hcd.symm.trans h0)
    subst h0
    obtain ⟨hb, hhb⟩ : ∃ b, b = hasT cs id := ⟨_, rfl⟩
    rw [← hhb] at HOF ⊢
    cases hb
    · rw [if_neg (by simp)]
      obtain ⟨hc40, hcg, hcr⟩ := coins_rise g1
      obtain ⟨hrb, hrd, hr4, ho4⟩ := tx_facts g2
      rw [hlc] at hc40
      rw [hT.r.1] at hr4
      obtain ⟨zs, hzs⟩ : ∃ z, z = outC2 cs rs := ⟨_, rfl⟩
      have hzl : zs.length ≤ 40 := by rw [hzs, ← hlc] at *; exact Nat.le_trans (List.length_filter_le _ _) hc40
      have hzg : ∀ j, j < zs.length → (zs.getD j C0).l.length ≤ 1048576 := fun j hj => by
        have := getC_mem hj
        rw [hzs] at this
        have := (coin_more (hcg _ (List.mem_filter.1 this).1)).2.2.2
        rw [hzs]
        omega
      have HTK : ∀ v, UBx w v k f ia n c oa m d → Calls Tryz.prog 22 #[.slice ca nc cc, .slice ia n c] v fun e w' => ∃ ra rc, e = .returned (.tuple #[.slice ra zs.length rc, .bool true]) ∧ Hid (CAt w' ra zs.length zs) ∧ Below v.heap.size v w' := fun v hv =>
        (l4Take_any nc cc n c ca ia cs rs v hc40 hcg hcr hr4 (hC.below hv.bel (Nat.le_refl _)) (hT.r.below hv.bel (Nat.le_refl _))).mono fun e w' q => by
          rw [go_out hrd (List.all_eq_true.1 g3), ← hzs] at q
          rcases q.2 with ⟨ts', e1, va, vc, e2, kv', e3⟩ | ⟨e1, _⟩
          · have := (Prod.mk.inj e1).2
            subst this
            exact ⟨va, vc, e2, own_at2 e3 rfl hzg, q.1⟩
          · cases (Prod.mk.inj e1).1
      obtain ⟨u, hu⟩ : ∃ u, u = (putR zs id os h false).1 := ⟨_, rfl⟩
      obtain ⟨qs, hqs⟩ : ∃ u, u = (putR zs id os h false).2 := ⟨_, rfl⟩
      have HPT : ∀ v ra rc, UBx w v k f ia n c oa m d → CAt v ra zs.length zs → Calls Tryz.prog 23 #[.slice ra zs.length rc, .int .i64 id, .slice oa m d, .int .i64 h, .bool false] v fun e w' => ∃ va vc, e = .returned (.agg #[.int .i64 u, .slice va qs.length vc]) ∧ Hid (∃ kv, COwn w' v.heap.size w'.heap.size (.slice va qs.length vc) qs.length (fun j => qs.getD j C0) kv) ∧ Below v.heap.size v w' := fun v ra rc hv hc =>
        (sPutCoins_any zs.length rc m d ra oa zs id h false os v (by omega) hzg hm hk hc (hT.o.below hv.bel (Nat.le_refl _))).mono fun e w' ⟨v', kv', e1, hO', hb⟩ => by
          rw [← hu] at e1
          rw [← hqs] at hO'
          obtain ⟨va, vc, hv⟩ := own_slice3 ⟨kv', hO'⟩
          subst hv
          exact ⟨va, vc, e1, ⟨kv', hO'⟩, hb⟩
      rw [← hzs, ← hu, ← hqs]
      clear hcd hts hT hk hC hkc hO hu hqs hzs hzg hhb g1 g2 g3 hcg hcr hrb hrd
      go_enter Tryz.func6, Tryz.ntmps6
      go_wp2_with (first
          | (go_at_call 20; (with_reducible refine hS1.mono ?_); clear hS1; rintro e w2 ⟨xa, xc, rfl, HO2, hb⟩; have HW2 : Hid (UBx w (w2.alloc (.cells #[.int .i64 0, .slice xa ts.length xc] 31)) k f ia n c oa m d) := (HW0.out.step hb).step (below_box _); clear hb; obtain ⟨q0, q1⟩ := cells2 (heap_alloc_new w2 (.cells #[.int .i64 0, .slice xa ts.length xc] 31)); clear y0 y1 f0 f1; obtain ⟨y0, y1⟩ := cells2 HW2.out.res; have f0 := Joins.unfrozen_of_block HW2.out.res 0; have f1 := Joins.unfrozen_of_block HW2.out.res 1; clear p0 p1 p2 p3; obtain ⟨p0, p1, p2, p3, _⟩ := cells4 HW2.out.tx; have hOf := HOF (w2.alloc (.cells #[.int .i64 0, .slice xa ts.length xc] 31)) HW2.out)
          | (go_at_call 21; (with_reducible refine hOf.mono ?_); clear hOf; rintro e w3 ⟨rfl, hw3⟩; have hw4 := hw3.symm; subst hw4; have hTk := HTK (w2.alloc (.cells #[.int .i64 0, .slice xa ts.length xc] 31)) HW2.out)
          | (go_at_call 22; (with_reducible refine hTk.mono ?_); clear hTk; rintro e w4 ⟨ra, rc, rfl, HCR, hb⟩; have HW4 : Hid (UBx w w4 k f ia n c oa m d) := HW2.out.step hb; clear hb; clear p0 p1 p2 p3; obtain ⟨p0, p1, p2, p3, _⟩ := cells4 HW4.out.tx; have hPt := HPT w4 ra rc HW4.out HCR.out)
          | (go_at_call 23; (with_reducible refine hPt.mono ?_); clear hPt; rintro e w5 ⟨va, vc, rfl, HO5, hb⟩; have HW5 : Hid (UBx w w5 k f ia n c oa m d) := HW4.out.step hb; clear hb; clear y0 y1 f0 f1 p0 p1 p2 p3; obtain ⟨y0, y1⟩ := cells2 HW5.out.res; have f0 := Joins.unfrozen_of_block HW5.out.res 0; have f1 := Joins.unfrozen_of_block HW5.out.res 1))
      have hbg := HW4.out.big
      obtain ⟨_, j1⟩ := two_set HW5.out.res (.int .i64 u) (.slice va qs.length vc)
      exact bodyPost_ret (v := .agg #[.int .i64 u, .slice va qs.length vc]) (by simp [results, Tryz.results6, go_sem, j1]) rfl (out_both (lo := w4.heap.size) (by omega) (by omega) HW5.out.bel HO5.out)
    · rw [if_pos rfl]
      have HTK : ∀ v, UBx w v k f ia n c oa m d → True := fun _ _ => trivial
      clear hcd hts hT hk hC hkc hO hhb g1 g2 g3
      go_enter Tryz.func6, Tryz.ntmps6
      go_wp2_with (first
          | (go_at_call 20; (with_reducible refine hS1.mono ?_); clear hS1; rintro e w2 ⟨xa, xc, rfl, HO2, hb⟩; have HW2 : Hid (UBx w (w2.alloc (.cells #[.int .i64 0, .slice xa ts.length xc] 31)) k f ia n c oa m d) := (HW0.out.step hb).step (below_box _); clear hb; obtain ⟨q0, q1⟩ := cells2 (heap_alloc_new w2 (.cells #[.int .i64 0, .slice xa ts.length xc] 31)); clear y0 y1 f0 f1; obtain ⟨y0, y1⟩ := cells2 HW2.out.res; have f0 := Joins.unfrozen_of_block HW2.out.res 0; have f1 := Joins.unfrozen_of_block HW2.out.res 1; clear p0 p1 p2 p3; obtain ⟨p0, p1, p2, p3, _⟩ := cells4 HW2.out.tx; have hOf := HOF (w2.alloc (.cells #[.int .i64 0, .slice xa ts.length xc] 31)) HW2.out)
          | (go_at_call 21; (with_reducible refine hOf.mono ?_); clear hOf; rintro e w3 ⟨rfl, hw3⟩; have hw4 := hw3.symm; subst hw4; have hTk := HTK (w2.alloc (.cells #[.int .i64 0, .slice xa ts.length xc] 31)) HW2.out))
      obtain ⟨_, j1⟩ := two_set HW2.out.res (.int .i64 7) (.slice none 0 0)
      exact bodyPost_ret (v := .agg #[.int .i64 7, .slice none 0 0]) (by simp [results, Tryz.results6, go_sem, j1]) rfl (out_code (by omega) HW2.out.bel)
  · rw [if_pos h0]
    have hn0 : ts = [] := by rw [hts]; exact spentR_none (by rw [← hcd]; exact h0)
    subst hn0
    clear hcd hts hT hk hC hkc hO
    go_enter Tryz.func6, Tryz.ntmps6
    go_wp2_with (first
          | (go_at_call 20; (with_reducible refine hS1.mono ?_); clear hS1; rintro e w2 ⟨xa, xc, rfl, HO2, hb⟩; have HW2 : Hid (UBx w (w2.alloc (.cells #[.int .i64 cd, .slice xa 0 xc] 31)) k f ia n c oa m d) := (HW0.out.step hb).step (below_box _); clear hb; obtain ⟨q0, q1⟩ := cells2 (heap_alloc_new w2 (.cells #[.int .i64 cd, .slice xa 0 xc] 31)); clear y0 y1 f0 f1; obtain ⟨y0, y1⟩ := cells2 HW2.out.res; have f0 := Joins.unfrozen_of_block HW2.out.res 0; have f1 := Joins.unfrozen_of_block HW2.out.res 1; clear p0 p1 p2 p3; obtain ⟨p0, p1, p2, p3, _⟩ := cells4 HW2.out.tx; have hOf := HOF (w2.alloc (.cells #[.int .i64 cd, .slice xa 0 xc] 31)) HW2.out))
    obtain ⟨_, j1⟩ := two_set HW2.out.res (.int .i64 cd) (.slice xa 0 xc)
    have HO3 : Hid (∃ kv, COwn (w2.alloc (.cells #[.int .i64 cd, .slice xa 0 xc] 31)) ((w.alloc (.cells #[.int .i64 k, .int .i64 f, .slice ia n c, .slice oa m d] 37)).alloc (.cells #[.int .i64 0, .slice none 0 0] 31)).heap.size (w2.alloc (.cells #[.int .i64 cd, .slice xa 0 xc] 31)).heap.size (.slice xa ([] : List Co).length xc) ([] : List Co).length (fun j => ([] : List Co).getD j C0) kv) := own_step (ts := []) HO2 (below_box _)
    exact bodyPost_ret (v := .agg #[.int .i64 cd, .slice xa 0 xc]) (by simp [results, Tryz.results6, go_sem, j1]) rfl (out_both (cs := []) (lo := ((w.alloc (.cells #[.int .i64 k, .int .i64 f, .slice ia n c, .slice oa m d] 37)).alloc (.cells #[.int .i64 0, .slice none 0 0] 31)).heap.size) (by omega) (by rw [(blocks2 w _ _).2.2]; omega) HW2.out.bel HO3.out)

end Go.Proofs.YtngpegmfhhgkgaaGreatDoor

namespace Go.Proofs.YtngpegmfhhgkgaaGreatDoor
open Go.RowKit Go.Maps Go.WideMaps

theorem GAt.turn {w w' : World} {B n : Nat} {a : Option Addr} {l : List (Int × Int)} (h : GAt w a n l) (hB : IsMap w B) (hc : Chg w w' B (B + 1)) : GAt w' a n l := by
  obtain ⟨es, cl, hm⟩ := hB
  obtain ⟨hn, h | ⟨b, off, rfl, hlt, hk⟩⟩ := h
  · exact ⟨hn, .inl h⟩
  · exact ⟨hn, .inr ⟨b, off, rfl, Nat.lt_of_lt_of_le hlt hc.size, fun j hj => ⟨chg_cell hc hm (hk j hj).1, chg_cell hc hm (hk j hj).2⟩⟩⟩
theorem OAt.turn {w w' : World} {B n : Nat} {a : Option Addr} {l : List Ou} (h : OAt w a n l) (hB : IsMap w B) (hc : Chg w w' B (B + 1)) : OAt w' a n l := by
  obtain ⟨es, cl, hm⟩ := hB
  obtain ⟨hn, h | ⟨b, off, rfl, hlt, hk⟩⟩ := h
  · exact ⟨hn, .inl h⟩
  · refine ⟨hn, .inr ⟨b, off, rfl, Nat.lt_of_lt_of_le hlt hc.size, fun j hj => ?_⟩⟩
    obtain ⟨ka, kn, kc, h0, h1, h2, h3, h4, h5⟩ := hk j hj
    exact ⟨ka, kn, kc, chg_cell hc hm h0, chg_cell hc hm h1, chg_cell hc hm h2, chg_cell hc hm h3, h4, chg_ints hc hm h5⟩
theorem hasT_mem {a b : List Co} (h : ∀ c, c ∈ a ↔ c ∈ b) (t : Int) : hasT a t = hasT b t := by
  rw [Bool.eq_iff_iff]
  unfold hasT
  rw [List.any_eq_true, List.any_eq_true]
  constructor
  · rintro ⟨c, h1, h2⟩; exact ⟨c, (h c).1 h1, h2⟩
  · rintro ⟨c, h1, h2⟩; exact ⟨c, (h c).2 h1, h2⟩

/-- What spend tells: a code. -/
def spendF (cs : List Co) (k f : Int) (rs : List (Int × Int)) (os : List Ou) (id h : Int) : Int :=
  if txR k f rs os ≠ 0 then txR k f rs os else if rs.all (hasC cs) = false then 4 else if hasT cs id = true then 7 else putsR (outC2 cs rs).length false id os h
theorem spendR_eq (cs : List Co) (k f : Int) (rs : List (Int × Int)) (os : List Ou) (id h : Int) :
    spendR cs k f rs os id h = if coinsR cs ≠ 0 then (coinsR cs, []) else if spendF cs k f rs os id h ≠ 0 then (spendF cs k f rs os id h, []) else (0, addCs (outC2 cs rs) (newCs id h false os os.length)) := by
  unfold spendR spentR spendF
  by_cases h1 : coinsR cs ≠ 0
  · simp only [if_pos h1]
  simp only [if_neg h1]
  by_cases h2 : txR k f rs os ≠ 0
  · simp only [if_pos h2]
  simp only [if_neg h2]
  cases h3 : rs.all (hasC cs)
  · rfl
  · cases h4 : hasT cs id
    · show putR (outC2 cs rs) id os h false = if putsR (outC2 cs rs).length false id os h ≠ 0 then (putsR (outC2 cs rs).length false id os h, []) else (0, addCs (outC2 cs rs) (newCs id h false os os.length))
      unfold putR
      rw [if_neg (by rw [rest_right (by simpa using h1)]; simp), rest_no h4]
    · rfl
theorem rest_split {cs : List Co} {rs : List (Int × Int)} (c : Co) : c ∈ cs ↔ c ∈ outC2 cs rs ∨ c ∈ inC cs rs := by
  unfold outC2 inC
  rw [List.mem_filter, List.mem_filter]
  constructor
  · intro h
    cases e : memB rs (c.p, c.q)
    · exact .inl ⟨h, by simp⟩
    · exact .inr ⟨h, rfl⟩
  · rintro (h | h)
    · exact h.1
    · exact h.1
theorem rest_apart {cs ps : List Co} {rs : List (Int × Int)} (h : RiseC cs) (hp : ps.Pairwise fun a b => (a.p, a.q) ≠ (b.p, b.q)) (hm : ∀ c, c ∈ outC2 cs rs ↔ c ∈ ps) : (ps ++ inC cs rs).Pairwise (fun a b => (a.p, a.q) ≠ (b.p, b.q)) := by
  rw [List.pairwise_append]
  refine ⟨hp, rise_ne (h.filter _), fun a ha b hb e => ?_⟩
  have h1 := (List.mem_filter.1 ((hm a).2 ha)).2
  have h2 := (List.mem_filter.1 hb).2
  rw [e, h2] at h1
  cases h1

/-- The coins that are spent are taken, one after another. -/
structure SkM (v wr : World) (lo B : Nat) (cs : List Co) (rs : List (Int × Int)) (j : Nat) (ps : List (Co × Value)) : Prop where
  pu : Pu wr lo B ps
  mem : ∀ c, c ∈ ps.map (·.1) ↔ c ∈ cs ∧ (c.p, c.q) ∉ rs.take j
  chg : Chg v wr B (B + 1)
theorem SkM.find {v wr : World} {lo B j n : Nat} {cs : List Co} {rs : List (Int × Int)} {ps : List (Co × Value)} {o : Int × Int} (h : SkM v wr lo B cs rs j ps) (hall : rs.all (hasC cs) = true) (hn : rs.length = n) (hlt : j < n) (ho : o = rs.getD j G0) (hd : rs.Nodup) : ∃ x, findP ps o = some x := by
  have h1 : hasC cs o = true := List.all_eq_true.1 hall o (ref_mem hn hlt ho)
  obtain ⟨c, hc, e⟩ := List.mem_map.1 (hasC_iff.1 h1)
  have e' : (c.p, c.q) = o := e
  obtain ⟨x, hx, rfl⟩ := List.mem_map.1 ((h.mem c).2 ⟨hc, by rw [e']; exact ref_fresh hn hlt ho hd⟩)
  have := find_mem h.pu.refs hx
  exact ⟨x, by rw [← e']; exact this⟩
theorem SkM.step {v wr w' : World} {lo B j n : Nat} {cs : List Co} {rs : List (Int × Int)} {ps : List (Co × Value)} {o : Int × Int} (h : SkM v wr lo B cs rs j ps) (hn : rs.length = n) (hlt : j < n) (ho : o = rs.getD j G0) (hp : Pu w' lo B (dropP ps o)) (hch : Chg wr w' B (B + 1)) : SkM v w' lo B cs rs (j + 1) (dropP ps o) := by
  refine ⟨hp, fun c => ?_, h.chg.trans hch⟩
  rw [drop_map, take_ref hn hlt ho]
  unfold dropC
  rw [List.mem_filter, h.mem c, List.mem_append, List.mem_singleton]
  constructor
  · rintro ⟨⟨a1, a2⟩, a3⟩
    refine ⟨a1, ?_⟩
    rintro (e | e)
    · exact a2 e
    · exact (of_decide_eq_true a3) e
  · rintro ⟨a1, a2⟩
    exact ⟨⟨a1, fun e => a2 (.inl e)⟩, decide_eq_true fun e => a2 (.inr e)⟩
theorem SkM.all {v wr : World} {lo B j : Nat} {cs : List Co} {rs : List (Int × Int)} {ps : List (Co × Value)} (h : SkM v wr lo B cs rs j ps) (hj : rs.length ≤ j) : ∀ c, c ∈ outC2 cs rs ↔ c ∈ ps.map (·.1) := fun c => by
  rw [h.mem c, List.take_of_length_le hj]
  unfold outC2
  rw [List.mem_filter]
  constructor
  · rintro ⟨a1, a2⟩; exact ⟨a1, fun e => by rw [memB_here.2 e] at a2; cases a2⟩
  · rintro ⟨a1, a2⟩
    refine ⟨a1, ?_⟩
    cases e : memB rs (c.p, c.q)
    · rfl
    · exact absurd (memB_here.1 e) a2
theorem pairs_ne {ps : List (Co × Value)} (h : ps.Pairwise fun x y => refOf x ≠ refOf y) : (ps.map (·.1)).Pairwise fun a b => (a.p, a.q) ≠ (b.p, b.q) := by
  rw [List.pairwise_map]
  exact h

set_option maxRecDepth 20000 in
set_option maxHeartbeats 4000000 in
theorem putAll_own (B lo n c lo1 hi1 : Nat) (a : Option Addr) (cs : List Co) (kv : Nat → Value) (ps0 : List (Co × Value)) (v : World) (hn : n ≤ 500) (hl0 : ps0.length ≤ 500) (hL : cs.length = n) (hO : COwn v lo1 hi1 (.slice a n c) n (fun j => cs.getD j C0) kv) (hok : ∀ c ∈ cs, coinR c = 0) (hap : (ps0.map (·.1) ++ cs).Pairwise (fun a b => (a.p, a.q) ≠ (b.p, b.q))) (hlo : lo ≤ v.heap.size) (hP : Pu v lo B ps0) :
    Calls Tryz.prog 50 #[.map (some B), .slice a n c] v fun e w' => e = .returned (.tuple #[]) ∧ Hid (∃ ps, Pu w' lo B ps ∧ ps.map (·.1) = ps0.map (·.1) ++ cs) ∧ Chg v w' B (B + 1) := by
  have HO : Hid (COwn v lo1 hi1 (.slice a n c) n (fun j => cs.getD j C0) kv) := hO
  have HN : Hid (cs.length = n) := hL
  have HOK : Hid (∀ c ∈ cs, coinR c = 0) := hok
  have HAP : Hid ((ps0.map (·.1) ++ cs).Pairwise (fun a b => (a.p, a.q) ≠ (b.p, b.q))) := hap
  have HPV : Hid (Pu v lo B ps0) := hP
  have HLB := hP.lt
  clear hO hok hap hP hL
  go_enter Tryz.func50, Tryz.ntmps50
  go_wp2
  go_loopw [8] (fun i wr => ∃ j : Nat, j ≤ n ∧ i = .int .i64 j ∧ Hid (∃ ps, Pu wr lo B ps ∧ ps.map (·.1) = ps0.map (·.1) ++ cs.take j) ∧ Hid (Chg v wr B (B + 1))) (fun i _ => n - (intOf i).toNat)
  case atStart => exact ⟨0, Nat.zero_le _, rfl, ⟨ps0, HPV.out, by simp⟩, Chg.refl _ _ _⟩
  case round =>
    obtain ⟨j, hj, rfl, HP, HCH⟩ := hrel
    by_cases hlt : j < n
    · have hO := HO.out.turn HPV.out.isMap HCH.out
      obtain ⟨g, ug, eg⟩ : ∃ g ug, (Value.slice a n c) = .slice (some ⟨g, 0, none⟩) n ug := by
        obtain ⟨xs, h1, _⟩ := hO.row
        rcases h1.2 with ⟨e1, e2⟩ | ⟨g, cp, cur, e1, _⟩
        · omega
        · exact ⟨g, cp, e1⟩
      cases eg
      obtain ⟨ps, hPu, hps⟩ := HP.out
      obtain ⟨o, ho⟩ : ∃ o, o = cs.getD j C0 := ⟨_, rfl⟩
      have hmem : o ∈ cs := by rw [ho]; exact getC_mem (by rw [HN.out]; exact hlt)
      obtain ⟨g1, g2, g3, g4⟩ := coin_more (HOK.out o hmem)
      have hrow := (hO.keys j hlt).1
      obtain ⟨kb, kc, hkv⟩ : ∃ kb kc, kv j = .slice (some ⟨kb, 0, none⟩) o.l.length kc := by
        rcases hrow.2 with ⟨_, e1⟩ | ⟨g, cp, cur, e1, _⟩
        · rw [← ho] at e1; omega
        · rw [← ho] at e1; exact ⟨g, cp, e1⟩
      rw [hkv, ← ho] at hrow
      obtain ⟨⟨x0, x1, x2, x3, x4, x5, x6, x7⟩, _⟩ := hO.cells hlt (show cs.getD j C0 = o from ho.symm) hkv
      have hfn := find_none HN.out hlt ho hps HAP.out
      have HNX : Hid (cs.take (j + 1) = cs.take j ++ [o]) := takeC_snoc (by rw [HN.out]; exact hlt) ho
      have hpl : ps.length = ps0.length + j := by
        have := congrArg List.length hps
        rw [List.length_map, List.length_append, List.length_map, List.length_take] at this
        have := HN.out
        omega
      obtain ⟨op, oq, ov, ol, ox, oy, oh, om⟩ := o
      simp only at x0 x1 x2 x3 x4 x5 x6 x7 hrow g1 g2 g3 g4 hfn
      have hbx : Below wr.heap.size wr (wr.alloc (.cells #[.int .i64 op, .int .i64 oq, .int .i64 ov, .slice (some ⟨kb, 0, none⟩) ol.length kc, .int .i64 ox, .int .i64 oy, .int .i64 oh, .bool om] 68)) := below_box _
      have hvs := HCH.out.size
      have hput := put_any B lo kb 0 kc ps op oq ov ol ox oy oh om (wr.alloc (.cells #[.int .i64 op, .int .i64 oq, .int .i64 ov, .slice (some ⟨kb, 0, none⟩) ol.length kc, .int .i64 ox, .int .i64 oy, .int .i64 oh, .bool om] 68)) (hPu.below hbx) (Nat.le_trans hlo (Nat.le_trans hvs hbx.size)) (by omega) ((IAt.owned hrow rfl).below hbx (Nat.le_refl _)) (WalkArith.wf_i64 (by omega)) (WalkArith.wf_i64 (by omega)) hfn (by omega)
      have HPS : Hid (ps.map (·.1) = ps0.map (·.1) ++ cs.take j) := hps
      have HCX : Hid (Chg v (wr.alloc (.cells #[.int .i64 op, .int .i64 oq, .int .i64 ov, .slice (some ⟨kb, 0, none⟩) ol.length kc, .int .i64 ox, .int .i64 oy, .int .i64 oh, .bool om] 68)) B (B + 1)) := HCH.out.trans (Chg.of_below hbx _ _)
      obtain ⟨⟨t0, t1, t2, t3, t4, t5, t6, t7⟩, _⟩ := cells8 (heap_alloc_new wr (.cells #[.int .i64 op, .int .i64 oq, .int .i64 ov, .slice (some ⟨kb, 0, none⟩) ol.length kc, .int .i64 ox, .int .i64 oy, .int .i64 oh, .bool om] 68))
      clear ho hmem g1 g2 g3 g4 hfn hPu hps hbx hO hrow hkv
      have hki : (j : Int) < (n : Int) := by omega
      go_wp2_with (first
        | (go_at_call 75; (with_reducible refine hput.mono ?_); clear hput; rintro e w3 ⟨rfl, HPU, hch⟩; have HC3 : Hid (Chg v w3 B (B + 1)) := HCX.out.trans hch; clear hch))
      go_roundw
      case rel =>
        obtain ⟨u, hu⟩ := HPU.out
        exact ⟨j + 1, by omega, by go_num, ⟨_, hu, by rw [List.map_append, HPS.out, HNX.out, List.append_assoc]; rfl⟩, HC3.out⟩
      case measure => simp [intOf]; omega
    · have e1 : cs.take j = cs := List.take_of_length_le (by rw [HN.out]; omega)
      go_wp2
      go_end0
      obtain ⟨ps, h1, h2⟩ := HP.out
      exact ⟨rfl, ⟨ps, h1, by rw [h2, e1]⟩, HCH.out⟩

/-- What spend comes to. -/
def SpendO (w w' : World) (e : Ending) (lo B : Nat) (u : Int) (cs ts zs : List Co) : Prop :=
  Chg w w' B (B + 1) ∧ ((u ≠ 0 ∧ e = .returned (.tuple #[.slice none 0 0, .int .i64 u]) ∧ ∃ ps', Holds w' lo B ps' cs) ∨ (u = 0 ∧ ∃ va vc, e = .returned (.tuple #[.slice va ts.length vc, .int .i64 0]) ∧ (∃ lo1 kv, w.heap.size ≤ lo1 ∧ COwn w' lo1 w'.heap.size (.slice va ts.length vc) ts.length (fun j => ts.getD j C0) kv) ∧ ∃ ps', Holds w' lo B ps' zs))
theorem holds_put {w : World} {lo B : Nat} {ps ps' : List (Co × Value)} {cs : List Co} {id h : Int} {os : List Ou} (hr : RiseC cs) (hm : ∀ c, c ∈ cs ↔ c ∈ ps.map (·.1)) (hk : ∀ c ∈ cs, coinR c = 0) (h40 : cs.length + os.length ≤ 40) (hT : hasT cs id = false) (hou : ∀ o ∈ os, 1 ≤ o.l.length ∧ o.l.length ≤ 3) (hP : Pu w lo B ps') (hps : ps'.map (·.1) = ps.map (·.1) ++ newCs id h false os os.length) : Holds w lo B ps' (addCs cs (newCs id h false os os.length)) := by
  refine ⟨hP, addCs_rise hr (new_apart hr hT), fun c => ?_, fun c hc => ?_, ?_⟩
  · rw [addCs_mem, hps, List.mem_append, List.mem_append, hm c]
  · rw [addCs_mem, List.mem_append] at hc
    rcases hc with hc | hc
    · have := (coin_more (hk c hc)).2.2.2; omega
    · unfold newCs at hc
      obtain ⟨j, hj, rfl⟩ := List.mem_map.1 hc
      have hjl := List.mem_range.1 hj
      have := (hou (os.getD j O0) (by rw [List.getD, List.getElem?_eq_getElem hjl]; exact List.getElem_mem _)).2
      show (os.getD j O0).l.length ≤ 1048576
      omega
  · rw [addCs_count]
    simp [newCs]
    omega
theorem puts_outs2 {n : Nat} {ti : Bool} {t h : Int} {os : List Ou} (e : putsR n ti t os h = 0) : ∀ o ∈ os, 1 ≤ o.l.length ∧ o.l.length ≤ 3 := by
  unfold putsR at e
  by_cases h1 : putFR t os h ≠ 0
  · rw [if_pos h1] at e; exact absurd e h1
  · have h2 : putFR t os h = 0 := by simpa using h1
    unfold putFR at h2
    by_cases q1 : inB t 1 60 = false ∨ inB h 0 999 = false
    · rw [if_pos q1] at h2; cases h2
    · rw [if_neg q1] at h2
      by_cases q3 : 4 < os.length
      · rw [if_pos q3] at h2; cases h2
      · rw [if_neg q3] at h2
        exact outs_more h2

set_option maxRecDepth 20000 in
set_option maxHeartbeats 4000000 in
theorem spend_any (B lo : Nat) (ps : List (Co × Value)) (cs : List Co) (n c m d : Nat) (ia oa : Option Addr) (k f : Int) (rs : List (Int × Int)) (os : List Ou) (id h : Int) (w : World) (hg : w.cell? ⟨0, 0, none⟩ = some (.iface 167 (.agg #[.pointer (some ⟨1, 102, none⟩)]))) (hH : Holds w lo B ps cs) (hok : ∀ c ∈ cs, coinR c = 0) (h40 : cs.length ≤ 40) (hlo : lo ≤ w.heap.size)
    (hn : n ≤ 1048576) (hm : m ≤ 1048576) (hc1 : n ≤ c) (hc2 : c ≤ maxLen) (hk : ∀ j, j < m → (os.getD j O0).l.length ≤ 1048576) (hT : TxAt w ia n oa m rs os) :
    Calls Tryz.prog 28 #[.map (some B), .agg #[.int .i64 k, .int .i64 f, .slice ia n c, .slice oa m d], .int .i64 id, .int .i64 h] w fun e w' => SpendO w w' e lo B (spendF cs k f rs os id h) cs (inC cs rs) (addCs (outC2 cs rs) (newCs id h false os os.length)) := by
  have HB0 : Hid (TBx w (w.alloc (.cells #[.int .i64 k, .int .i64 f, .slice ia n c, .slice oa m d] 37)) k f ia n c oa m d 37) := TBx.start
  have hF := iTxFault_any n c m d ia oa k f rs os (w.alloc (.cells #[.int .i64 k, .int .i64 f, .slice ia n c, .slice oa m d] 37)) hn hm hc1 hc2 hk (hT.below HB0.out.bel (Nat.le_refl _))
  obtain ⟨p0, p1, p2, p3, _⟩ := cells4 HB0.out.box
  have HHO : Hid (Holds w lo B ps cs) := hH
  have hBl := hH.pu.lt
  unfold spendF
  by_cases h2 : txR k f rs os = 0
  · simp only [h2, ne_eq, not_true_eq_false, if_false]
    rw [h2] at hF
    obtain ⟨hrb, hrd, hr4, ho4⟩ := tx_facts h2
    rw [hT.r.1] at hr4
    have hsb : ∀ v, Below w.heap.size w v → Calls Tryz.prog 52 #[.map (some B), .agg #[.int .i64 k, .int .i64 f, .slice ia n c, .slice oa m d]] v fun e w' => SpB v w' e (rs.all (hasC cs)) (inC cs rs) := fun v hv =>
      spentBy_any B lo ps cs n c m d ia oa k f rs v (hH.below hv) (fun c hc => (coin_more (hok c hc)).2.2.1) (by omega) hrb hrd (hT.r.below hv (Nat.le_refl _))
    obtain ⟨ts, hts⟩ : ∃ x, x = inC cs rs := ⟨_, rfl⟩
    obtain ⟨jb, hjb⟩ : ∃ b, b = rs.all (hasC cs) := ⟨_, rfl⟩
    rw [← hts, ← hjb] at hsb
    rw [← hjb]
    cases jb
    · rw [if_pos rfl, ← hts]
      have HSP : ∀ v, Below w.heap.size w v → Calls Tryz.prog 52 #[.map (some B), .agg #[.int .i64 k, .int .i64 f, .slice ia n c, .slice oa m d]] v fun e w' => Below v.heap.size v w' ∧ e = .returned (.tuple #[.slice none 0 0, .iface 130 (.agg #[.string ⟨#[97, 32, 99, 111, 105, 110]⟩, .int .i64 4])]) := fun v hv => (hsb v hv).mono fun e w' q => by
        rcases q.2 with ⟨_, q1⟩ | ⟨q1, _⟩
        · exact ⟨q.1, q1⟩
        · cases q1
      have HMC : ∀ v, TBx w v k f ia n c oa m d 37 → Calls Tryz.prog 53 #[.iface 130 (.agg #[.string ⟨#[97, 32, 99, 111, 105, 110]⟩, .int .i64 4])] v fun e w' => e = .returned (.int .i64 4) ∧ Below v.heap.size v w' := fun v hv => missing_hit _ _ v ((hv.bel.cell (p := ⟨0, 0, none⟩) (block_lt_of_cell hg)).trans hg)
      clear hsb hts hjb hg hT hk hok hH h2 hrb hrd
      go_enter Tryz.func28, Tryz.ntmps28
      go_wp2_with (first
        | (go_at_call 51; (with_reducible refine hF.mono ?_); clear hF; rintro e w2 ⟨rfl, hb2⟩; have HW2 : Hid (TBx w w2 k f ia n c oa m d 37) := HB0.out.step hb2; clear hb2 p0 p1 p2 p3; obtain ⟨p0, p1, p2, p3, _⟩ := cells4 HW2.out.box; have hsp := HSP w2 HW2.out.bel)
        | (go_at_call 52; (with_reducible refine hsp.mono ?_); clear hsp; rintro e w3 ⟨hb3, rfl⟩; have HW3 : Hid (TBx w w3 k f ia n c oa m d 37) := HW2.out.step hb3; clear hb3; have hmc := HMC w3 HW3.out)
        | (go_at_call 53; (with_reducible refine hmc.mono ?_); clear hmc; rintro e w4 ⟨rfl, hb4⟩; have HW4 : Hid (TBx w w4 k f ia n c oa m d 37) := HW3.out.step hb4; clear hb4))
      refine bodyPost_ret (v := .tuple #[.slice none 0 0, .int .i64 4]) (by simp [results, Tryz.results28, go_sem]) rfl ?_
      exact ⟨Chg.of_below HW4.out.bel _ _, .inl ⟨by decide, rfl, _, HHO.out.below HW4.out.bel⟩⟩
    · rw [if_neg (by simp), ← hts]
      have HSP : ∀ v, Below w.heap.size w v → Calls Tryz.prog 52 #[.map (some B), .agg #[.int .i64 k, .int .i64 f, .slice ia n c, .slice oa m d]] v fun e w' => Below v.heap.size v w' ∧ ∃ va vc, e = .returned (.tuple #[.slice va ts.length vc, .nilIface]) ∧ Hid (∃ kv, COwn w' v.heap.size w'.heap.size (.slice va ts.length vc) ts.length (fun j => ts.getD j C0) kv) := fun v hv => (hsb v hv).mono fun e w' q => by
        rcases q.2 with ⟨q1, _⟩ | ⟨_, va, vc, q1, q2⟩
        · cases q1
        · exact ⟨q.1, va, vc, q1, q2⟩
      have hti : txIn ps id = hasT cs id := by rw [← hasT_map]; exact (hasT_mem hH.mem id).symm
      obtain ⟨hb, hhb⟩ : ∃ b, b = hasT cs id := ⟨_, rfl⟩
      have HHT : ∀ v, Below w.heap.size w v → Calls Tryz.prog 54 #[.map (some B), .int .i64 id] v fun e w' => e = .returned (.bool hb) ∧ Below v.heap.size v w' := fun v hv => by
        have := hasTx_any B lo id ps v (hH.pu.below hv)
        rw [hti, ← hhb] at this
        exact this
      rw [← hhb]
      cases hb
      · rw [if_neg (by simp)]
        have HNO : Hid (hasT cs id = false) := hhb.symm
        have HG : Hid (TxAt w ia n oa m rs os) := hT
        have HN : Hid (rs.length = n) := hT.r.1
        have HK : Hid (∀ j, j < m → (os.getD j O0).l.length ≤ 1048576) := hk
        have HRB : Hid (∀ r ∈ rs, refB r = true) := hrb
        have HRD : Hid (rs.Nodup) := hrd
        have HAL : Hid (rs.all (hasC cs) = true) := hjb.symm
        have HTS : Hid (ts = inC cs rs) := hts
        have HOK : Hid (∀ c ∈ cs, coinR c = 0) := hok
        have hT4 : ts.length ≤ 40 := by rw [hts]; exact Nat.le_trans (List.length_filter_le _ _) h40
        obtain ⟨pc, hpc⟩ : ∃ x, x = putsR (outC2 cs rs).length false id os h := ⟨_, rfl⟩
        have HPC : Hid (putsR (outC2 cs rs).length false id os h = pc) := hpc.symm
        rw [← hpc]
        clear hsb hts hjb hg hT hk hok hH h2 hrb hrd hti hhb
        by_cases h0 : pc = 0
        · subst h0
          clear hpc
          go_enter Tryz.func28, Tryz.ntmps28
          go_wp2_with (first
            | (go_at_call 51; (with_reducible refine hF.mono ?_); clear hF; rintro e w2 ⟨rfl, hb2⟩; have HW2 : Hid (TBx w w2 k f ia n c oa m d 37) := HB0.out.step hb2; clear hb2 p0 p1 p2 p3; obtain ⟨p0, p1, p2, p3, _⟩ := cells4 HW2.out.box; have hsp := HSP w2 HW2.out.bel)
            | (go_at_call 52; (with_reducible refine hsp.mono ?_); clear hsp; rintro e w3 ⟨hb3, va, vc, rfl, HO3⟩; have HW3 : Hid (TBx w w3 k f ia n c oa m d 37) := HW2.out.step hb3; clear hb3; have hht := HHT w3 HW3.out.bel)
            | (go_at_call 54; (with_reducible refine hht.mono ?_); clear hht; rintro e w4 ⟨rfl, hb4⟩; have HW4 : Hid (TBx w w4 k f ia n c oa m d 37) := HW3.out.step hb4; have HO4 := own_step HO3 hb4; clear hb4 p0 p1 p2 p3; obtain ⟨p0, p1, p2, p3, _⟩ := cells4 HW4.out.box))
          have HP4 : Hid (Pu w4 lo B ps) := HHO.out.pu.below HW4.out.bel
          have HG4 : Hid (TxAt w4 ia n oa m rs os) := HG.out.below HW4.out.bel (Nat.le_refl _)
          have hs4 := HW4.out.bel.size
          have hs2 := HW2.out.bel.size
          go_loopw [37] (fun i wr => ∃ j : Nat, j ≤ n ∧ i = .int .i64 j ∧ Hid (∃ us, SkM w4 wr lo B cs rs j us)) (fun i _ => n - (intOf i).toNat)
          case atStart => exact ⟨0, Nat.zero_le _, rfl, ps, HP4.out, fun c => by rw [← HHO.out.mem c]; simp, Chg.refl _ _ _⟩
          case round =>
            obtain ⟨j, hj, rfl, HU⟩ := hrel
            obtain ⟨us, hU⟩ := HU.out
            have hws := hU.chg.size
            clear p0 p1 p2 p3
            by_cases hlt : j < n
            · rcases (HG4.out.r.turn HP4.out.isMap hU.chg).2 with h0 | ⟨b, off, e0, l0, d0⟩
              · omega
              subst e0
              obtain ⟨o, ho⟩ : ∃ o, o = rs.getD j G0 := ⟨_, rfl⟩
              obtain ⟨x0, x1⟩ := d0 j hlt
              rw [← ho] at x0 x1
              have hwf := ref_wf (HRB.out _ (ref_mem HN.out hlt ho))
              obtain ⟨x, hx⟩ := hU.find HAL.out HN.out hlt ho HRD.out
              have HUT : Hid (SkM w4 wr lo B cs rs j us) := hU
              have HO1 : Hid (o = rs.getD j G0) := ho
              obtain ⟨op, oq⟩ := o
              simp only at x0 x1 hwf
              have hbx5 : Below wr.heap.size wr (wr.alloc (.cells #[.int .i64 op, .int .i64 oq] 63)) := below_box _
              have ht := take_any B lo op oq us x (wr.alloc (.cells #[.int .i64 op, .int .i64 oq] 63)) (hU.pu.below hbx5) hx hwf.1 hwf.2
              have HC5 : Hid (Chg wr (wr.alloc (.cells #[.int .i64 op, .int .i64 oq] 63)) B (B + 1)) := Chg.of_below hbx5 _ _
              obtain ⟨t0, t1⟩ := cells2 (heap_alloc_new wr (.cells #[.int .i64 op, .int .i64 oq] 63))
              have hki : (j : Int) < (n : Int) := by omega
              clear hU hx hwf ho hbx5 HU d0
              go_wp2_with (first
                | (go_at_call 55; (with_reducible refine ht.mono ?_); clear ht; rintro e w6 ⟨rfl, HPU, HCH⟩))
              go_roundw
              case rel => exact ⟨j + 1, by omega, by go_num, _, HUT.out.step HN.out hlt HO1.out HPU.out (HC5.out.trans HCH.out)⟩
              case measure => simp [intOf]; omega
            · have hmem := hU.all (by rw [HN.out]; omega)
              have hri : RiseC (outC2 cs rs) := HHO.out.rise.filter _
              have hol : (outC2 cs rs).length ≤ 40 := Nat.le_trans (List.length_filter_le _ _) h40
              have hul := len_mem hU.pu.refs hri hmem
              have hut : txIn us id = false := by rw [← hasT_map, ← hasT_mem hmem id]; exact rest_no HNO.out
              have hpo0 := putOuts_any B lo id h false m d oa os us wr hU.pu (by omega) (by omega) hm HK.out (HG4.out.o.turn HP4.out.isMap hU.chg)
              have HMEM : Hid (∀ c, c ∈ outC2 cs rs ↔ c ∈ us.map (·.1)) := hmem
              have HUW : Hid (SkM w4 wr lo B cs rs j us) := hU
              have HBXW : Hid (wr.heap[w.heap.size]? = some (.cells #[.int .i64 k, .int .i64 f, .slice ia n c, .slice oa m d] 37 (0, 0))) := hU.chg.keep HW4.out.box (by omega)
              obtain ⟨p0, p1, p2, p3, _⟩ := cells4 HBXW.out
              have hki : ¬ (j : Int) < (n : Int) := by omega
              obtain ⟨kv, hO4⟩ := HO4.out
              have HOW : Hid (COwn wr w2.heap.size w4.heap.size (.slice va ts.length vc) ts.length (fun j => ts.getD j C0) kv) := hO4.turn HP4.out.isMap hU.chg
              have hpo : Calls Tryz.prog 56 #[.map (some B), .int .i64 id, .slice oa m d, .int .i64 h, .bool false] wr fun e w' => e = .returned (.int .i64 0) ∧ Hid (Chg wr w' B (B + 1)) ∧ Hid (∃ ps', Holds w' lo B ps' (addCs (outC2 cs rs) (newCs id h false os os.length))) := hpo0.mono fun e w' q => by
                obtain ⟨q1, q2, q3, _⟩ := q
                rw [hul, hut, HPC.out] at q1 q3
                obtain ⟨ps', r1, r2⟩ := q3 rfl
                exact ⟨q1, q2, ps', holds_put hri HMEM.out (fun c hc => HOK.out c (List.mem_filter.1 hc).1) (puts_taken HPC.out).2 (rest_no HNO.out) (puts_outs2 HPC.out) r1 r2⟩
              clear hpo0 hmem hri hol hul hut hU HU hO4
              go_wp2_with (first
                | (go_at_call 56; (with_reducible refine hpo.mono ?_); clear hpo; rintro e w7 ⟨rfl, HCH, HHD⟩))
              refine bodyPost_ret (v := .tuple #[.slice va ts.length vc, .int .i64 0]) (by simp [results, Tryz.results28, go_sem]) rfl ?_
              exact ⟨(Chg.of_below HW4.out.bel _ _).trans (HUW.out.chg.trans HCH.out), .inr ⟨rfl, va, vc, rfl, ⟨w2.heap.size, kv, hs2, (HOW.out.turn HUW.out.pu.isMap HCH.out).mono (by have := HCH.out.size; omega)⟩, HHD.out⟩⟩
        · clear hpc
          go_enter Tryz.func28, Tryz.ntmps28
          go_wp2_with (first
            | (go_at_call 51; (with_reducible refine hF.mono ?_); clear hF; rintro e w2 ⟨rfl, hb2⟩; have HW2 : Hid (TBx w w2 k f ia n c oa m d 37) := HB0.out.step hb2; clear hb2 p0 p1 p2 p3; obtain ⟨p0, p1, p2, p3, _⟩ := cells4 HW2.out.box; have hsp := HSP w2 HW2.out.bel)
            | (go_at_call 52; (with_reducible refine hsp.mono ?_); clear hsp; rintro e w3 ⟨hb3, va, vc, rfl, HO3⟩; have HW3 : Hid (TBx w w3 k f ia n c oa m d 37) := HW2.out.step hb3; clear hb3; have hht := HHT w3 HW3.out.bel)
            | (go_at_call 54; (with_reducible refine hht.mono ?_); clear hht; rintro e w4 ⟨rfl, hb4⟩; have HW4 : Hid (TBx w w4 k f ia n c oa m d 37) := HW3.out.step hb4; have HO4 := own_step HO3 hb4; clear hb4 p0 p1 p2 p3; obtain ⟨p0, p1, p2, p3, _⟩ := cells4 HW4.out.box))
          have HP4 : Hid (Pu w4 lo B ps) := HHO.out.pu.below HW4.out.bel
          have HG4 : Hid (TxAt w4 ia n oa m rs os) := HG.out.below HW4.out.bel (Nat.le_refl _)
          have hs4 := HW4.out.bel.size
          have hs2 := HW2.out.bel.size
          go_loopw [37] (fun i wr => ∃ j : Nat, j ≤ n ∧ i = .int .i64 j ∧ Hid (∃ us, SkM w4 wr lo B cs rs j us)) (fun i _ => n - (intOf i).toNat)
          case atStart => exact ⟨0, Nat.zero_le _, rfl, ps, HP4.out, fun c => by rw [← HHO.out.mem c]; simp, Chg.refl _ _ _⟩
          case round =>
            obtain ⟨j, hj, rfl, HU⟩ := hrel
            obtain ⟨us, hU⟩ := HU.out
            have hws := hU.chg.size
            clear p0 p1 p2 p3
            by_cases hlt : j < n
            · rcases (HG4.out.r.turn HP4.out.isMap hU.chg).2 with h0 | ⟨b, off, e0, l0, d0⟩
              · omega
              subst e0
              obtain ⟨o, ho⟩ : ∃ o, o = rs.getD j G0 := ⟨_, rfl⟩
              obtain ⟨x0, x1⟩ := d0 j hlt
              rw [← ho] at x0 x1
              have hwf := ref_wf (HRB.out _ (ref_mem HN.out hlt ho))
              obtain ⟨x, hx⟩ := hU.find HAL.out HN.out hlt ho HRD.out
              have HUT : Hid (SkM w4 wr lo B cs rs j us) := hU
              have HO1 : Hid (o = rs.getD j G0) := ho
              obtain ⟨op, oq⟩ := o
              simp only at x0 x1 hwf
              have hbx5 : Below wr.heap.size wr (wr.alloc (.cells #[.int .i64 op, .int .i64 oq] 63)) := below_box _
              have ht := take_any B lo op oq us x (wr.alloc (.cells #[.int .i64 op, .int .i64 oq] 63)) (hU.pu.below hbx5) hx hwf.1 hwf.2
              have HC5 : Hid (Chg wr (wr.alloc (.cells #[.int .i64 op, .int .i64 oq] 63)) B (B + 1)) := Chg.of_below hbx5 _ _
              obtain ⟨t0, t1⟩ := cells2 (heap_alloc_new wr (.cells #[.int .i64 op, .int .i64 oq] 63))
              have hki : (j : Int) < (n : Int) := by omega
              clear hU hx hwf ho hbx5 HU d0
              go_wp2_with (first
                | (go_at_call 55; (with_reducible refine ht.mono ?_); clear ht; rintro e w6 ⟨rfl, HPU, HCH⟩))
              go_roundw
              case rel => exact ⟨j + 1, by omega, by go_num, _, HUT.out.step HN.out hlt HO1.out HPU.out (HC5.out.trans HCH.out)⟩
              case measure => simp [intOf]; omega
            · have hmem := hU.all (by rw [HN.out]; omega)
              have hri : RiseC (outC2 cs rs) := HHO.out.rise.filter _
              have hol : (outC2 cs rs).length ≤ 40 := Nat.le_trans (List.length_filter_le _ _) h40
              have hul := len_mem hU.pu.refs hri hmem
              have hut : txIn us id = false := by rw [← hasT_map, ← hasT_mem hmem id]; exact rest_no HNO.out
              have hpo0 := putOuts_any B lo id h false m d oa os us wr hU.pu (by omega) (by omega) hm HK.out (HG4.out.o.turn HP4.out.isMap hU.chg)
              have HMEM : Hid (∀ c, c ∈ outC2 cs rs ↔ c ∈ us.map (·.1)) := hmem
              have HUW : Hid (SkM w4 wr lo B cs rs j us) := hU
              have HBXW : Hid (wr.heap[w.heap.size]? = some (.cells #[.int .i64 k, .int .i64 f, .slice ia n c, .slice oa m d] 37 (0, 0))) := hU.chg.keep HW4.out.box (by omega)
              obtain ⟨p0, p1, p2, p3, _⟩ := cells4 HBXW.out
              have hki : ¬ (j : Int) < (n : Int) := by omega
              obtain ⟨kv, hO4⟩ := HO4.out
              have HOW : Hid (COwn wr w2.heap.size w4.heap.size (.slice va ts.length vc) ts.length (fun j => ts.getD j C0) kv) := hO4.turn HP4.out.isMap hU.chg
              have hpo : Calls Tryz.prog 56 #[.map (some B), .int .i64 id, .slice oa m d, .int .i64 h, .bool false] wr fun e w' => e = .returned (.int .i64 pc) ∧ Hid (Below wr.heap.size wr w') := hpo0.mono fun e w' q => by
                obtain ⟨q1, _, _, q4⟩ := q
                rw [hul, hut, HPC.out] at q1 q4
                exact ⟨q1, q4 h0⟩
              have HPA : ∀ v, Below wr.heap.size wr v → Calls Tryz.prog 50 #[.map (some B), .slice va ts.length vc] v fun e w' => e = .returned (.tuple #[]) ∧ Hid (Chg v w' B (B + 1)) ∧ Hid (∃ ps', Holds w' lo B ps' cs) := fun v hv =>
                (putAll_own B lo ts.length vc w2.heap.size w4.heap.size va ts kv us v (by omega) (by omega) rfl (HOW.out.below hv) (fun c hc => HOK.out c (by rw [HTS.out] at hc; exact (List.mem_filter.1 hc).1)) (by rw [HTS.out]; exact rest_apart HHO.out.rise (pairs_ne HUW.out.pu.refs) HMEM.out) (by have := hv.size; omega) (HUW.out.pu.below hv)).mono fun e w' ⟨e1, H2, h3⟩ => by
                  obtain ⟨ps', r1, r2⟩ := H2.out
                  refine ⟨e1, h3, ps', r1, HHO.out.rise, fun c => ?_, HHO.out.good, HHO.out.few⟩
                  rw [r2, List.mem_append, ← HMEM.out c, HTS.out]
                  exact rest_split c
              clear hpo0 hmem hri hol hul hut hU HU hO4
              go_wp2_with (first
                | (go_at_call 56; (with_reducible refine hpo.mono ?_); clear hpo; rintro e w7 ⟨rfl, HB7⟩; have hpa := HPA w7 HB7.out; clear p0 p1 p2 p3)
                | (go_at_call 50; (with_reducible refine hpa.mono ?_); clear hpa; rintro e w8 ⟨rfl, HCH, HHD⟩))
              refine bodyPost_ret (v := .tuple #[.slice none 0 0, .int .i64 pc]) (by simp [results, Tryz.results28, go_sem]) rfl ?_
              exact ⟨(Chg.of_below HW4.out.bel _ _).trans (HUW.out.chg.trans ((Chg.of_below HB7.out _ _).trans HCH.out)), .inl ⟨h0, rfl, HHD.out⟩⟩
      · rw [if_pos rfl]
        clear hsb hts hjb hg hT hk hok hH h2 hrb hrd hti hhb
        go_enter Tryz.func28, Tryz.ntmps28
        go_wp2_with (first
          | (go_at_call 51; (with_reducible refine hF.mono ?_); clear hF; rintro e w2 ⟨rfl, hb2⟩; have HW2 : Hid (TBx w w2 k f ia n c oa m d 37) := HB0.out.step hb2; clear hb2 p0 p1 p2 p3; obtain ⟨p0, p1, p2, p3, _⟩ := cells4 HW2.out.box; have hsp := HSP w2 HW2.out.bel)
          | (go_at_call 52; (with_reducible refine hsp.mono ?_); clear hsp; rintro e w3 ⟨hb3, va, vc, rfl, HO3⟩; have HW3 : Hid (TBx w w3 k f ia n c oa m d 37) := HW2.out.step hb3; clear hb3; have hht := HHT w3 HW3.out.bel)
          | (go_at_call 54; (with_reducible refine hht.mono ?_); clear hht; rintro e w4 ⟨rfl, hb4⟩; have HW4 : Hid (TBx w w4 k f ia n c oa m d 37) := HW3.out.step hb4; clear hb4))
        refine bodyPost_ret (v := .tuple #[.slice none 0 0, .int .i64 7]) (by simp [results, Tryz.results28, go_sem]) rfl ?_
        exact ⟨Chg.of_below HW4.out.bel _ _, .inl ⟨by decide, rfl, _, HHO.out.below HW4.out.bel⟩⟩
  · simp only [ne_eq, h2, not_false_eq_true, if_true]
    obtain ⟨cd, hcd⟩ : ∃ r, r = txR k f rs os := ⟨_, rfl⟩
    rw [← hcd] at h2 hF ⊢
    clear hcd hg hT hk hok hH
    go_enter Tryz.func28, Tryz.ntmps28
    go_wp2_with (first
      | (go_at_call 51; (with_reducible refine hF.mono ?_); clear hF; rintro e w2 ⟨rfl, hb2⟩; have HW2 : Hid (TBx w w2 k f ia n c oa m d 37) := HB0.out.step hb2; clear hb2 p0 p1 p2 p3))
    refine bodyPost_ret (v := .tuple #[.slice none 0 0, .int .i64 cd]) (by simp [results, Tryz.results28, go_sem]) rfl ?_
    exact ⟨Chg.of_below HW2.out.bel _ _, .inl ⟨h2, rfl, _, HHO.out.below HW2.out.bel⟩⟩

end Go.Proofs.YtngpegmfhhgkgaaGreatDoor

namespace Go.Proofs.YtngpegmfhhgkgaaGreatDoor
open Go.RowKit Go.Maps Go.WideMaps

set_option maxRecDepth 20000 in
set_option maxHeartbeats 4000000 in
theorem iSpendTx_any (nc cc : Nat) (ca : Option Addr) (cs : List Co) (n c m d : Nat) (ia oa : Option Addr) (k f : Int) (rs : List (Int × Int)) (os : List Ou) (id h : Int) (w : World) (hg : w.cell? ⟨0, 0, none⟩ = some (.iface 167 (.agg #[.pointer (some ⟨1, 102, none⟩)]))) (hnc : nc ≤ 1048576) (hkc : ∀ j, j < nc → (cs.getD j C0).l.length ≤ 1048576)
    (hn : n ≤ 1048576) (hm : m ≤ 1048576) (hc1 : n ≤ c) (hc2 : c ≤ maxLen) (hk : ∀ j, j < m → (os.getD j O0).l.length ≤ 1048576) (hC : CAt w ca nc cs) (hT : TxAt w ia n oa m rs os) :
    Calls Tryz.prog 9 #[.slice ca nc cc, .agg #[.int .i64 k, .int .i64 f, .slice ia n c, .slice oa m d], .int .i64 id, .int .i64 h] w fun e w' => OutCs w w' e (spendR cs k f rs os id h).1 (spendR cs k f rs os id h).2 := by
  have HW0 : Hid (UBx w ((w.alloc (.cells #[.int .i64 k, .int .i64 f, .slice ia n c, .slice oa m d] 37)).alloc (.cells #[.int .i64 0, .slice none 0 0] 31)) k f ia n c oa m d) := UBx.start
  have HSZ : Hid (((w.alloc (.cells #[.int .i64 k, .int .i64 f, .slice ia n c, .slice oa m d] 37)).alloc (.cells #[.int .i64 0, .slice none 0 0] 31)).heap.size = w.heap.size + 1 + 1) := (blocks2 w _ _).2.2
  have hF := fillPurse_any nc cc ca cs ((w.alloc (.cells #[.int .i64 k, .int .i64 f, .slice ia n c, .slice oa m d] 37)).alloc (.cells #[.int .i64 0, .slice none 0 0] 31)) hnc hkc (hC.below HW0.out.bel (Nat.le_refl _))
  rw [spendR_eq]
  by_cases h0 : coinsR cs = 0
  · have hF1 : Calls Tryz.prog 27 #[.slice ca nc cc] ((w.alloc (.cells #[.int .i64 k, .int .i64 f, .slice ia n c, .slice oa m d] 37)).alloc (.cells #[.int .i64 0, .slice none 0 0] 31)) fun e w' => Below ((w.alloc (.cells #[.int .i64 k, .int .i64 f, .slice ia n c, .slice oa m d] 37)).alloc (.cells #[.int .i64 0, .slice none 0 0] 31)).heap.size ((w.alloc (.cells #[.int .i64 k, .int .i64 f, .slice ia n c, .slice oa m d] 37)).alloc (.cells #[.int .i64 0, .slice none 0 0] 31)) w' ∧ ∃ B, e = .returned (.tuple #[.map (some B), .int .i64 0]) ∧ Hid (FilledP w' (w.heap.size + 1 + 1) B cs) := hF.mono fun e w' h => by
      rcases h.2 with h1 | ⟨_, B, ps, h1, h2, h3⟩
      · exact absurd h0 h1.1
      · rw [HSZ.out] at h2
        exact ⟨h.1, B, h1, ps, h2, h3, h0⟩
    clear hF
    rw [if_neg (by simp [h0])]
    have hsp : ∀ v B, UBx w v k f ia n c oa m d → FilledP v (w.heap.size + 1 + 1) B cs → Calls Tryz.prog 28 #[.map (some B), .agg #[.int .i64 k, .int .i64 f, .slice ia n c, .slice oa m d], .int .i64 id, .int .i64 h] v fun e w' => w.heap.size + 1 + 1 ≤ B ∧ SpendO v w' e (w.heap.size + 1 + 1) B (spendF cs k f rs os id h) cs (inC cs rs) (addCs (outC2 cs rs) (newCs id h false os os.length)) := fun v B hv ⟨ps, a1, a2, a3⟩ =>
      (spend_any B (w.heap.size + 1 + 1) ps cs n c m d ia oa k f rs os id h v ((hv.bel.cell (p := ⟨0, 0, none⟩) (block_lt_of_cell hg)).trans hg) (holds_of a1 a2 a3) (coins_rise h0).2.1 (coins_rise h0).1 hv.big hn hm hc1 hc2 hk (hT.below hv.bel (Nat.le_refl _))).mono fun e w' q => ⟨a1.base, q⟩
    obtain ⟨u, hu⟩ : ∃ u, u = spendF cs k f rs os id h := ⟨_, rfl⟩
    obtain ⟨zs, hzs⟩ : ∃ z, z = addCs (outC2 cs rs) (newCs id h false os os.length) := ⟨_, rfl⟩
    obtain ⟨ts, hts⟩ : ∃ z, z = inC cs rs := ⟨_, rfl⟩
    rw [← hu, ← hzs, ← hts] at hsp
    rw [← hu, ← hzs]
    by_cases h1 : u = 0
    · rw [if_neg (by simp [h1])]
      have HSP : ∀ v B, UBx w v k f ia n c oa m d → FilledP v (w.heap.size + 1 + 1) B cs → Calls Tryz.prog 28 #[.map (some B), .agg #[.int .i64 k, .int .i64 f, .slice ia n c, .slice oa m d], .int .i64 id, .int .i64 h] v fun e w' => (∃ va vc, e = .returned (.tuple #[.slice va ts.length vc, .int .i64 0])) ∧ Hid (w.heap.size + 1 + 1 ≤ B ∧ Chg v w' B (B + 1)) ∧ Hid (∃ ps', Holds w' (w.heap.size + 1 + 1) B ps' zs) := fun v B hv hp => (hsp v B hv hp).mono fun e w' ⟨q0, q1, q2⟩ => by
        rcases q2 with ⟨q3, _⟩ | ⟨_, va, vc, q4, _, q6⟩
        · exact absurd h1 q3
        · exact ⟨⟨va, vc, q4⟩, ⟨q0, q1⟩, q6⟩
      have HCO : ∀ v B, UBx w v k f ia n c oa m d → (∃ ps', Holds v (w.heap.size + 1 + 1) B ps' zs) → Calls Tryz.prog 29 #[.map (some B)] v fun e w' => ∃ r, e = .returned r ∧ Hid ((∃ kv, COwn w' (w.heap.size + 1 + 1) w'.heap.size r zs.length (fun j => zs.getD j C0) kv) ∧ Below v.heap.size v w') := fun v B hv ⟨ps', a⟩ =>
        coins_any B (w.heap.size + 1 + 1) ps' zs v a.pu hv.big (by have := a.len; have := a.few; omega) a.rise a.mem
      clear hu hzs hts hsp hT hk hC hkc h0 hg
      go_enter Tryz.func9, Tryz.ntmps9
      go_wp2_with (first
        | (go_at_call 27; (with_reducible refine hF1.mono ?_); clear hF1; rintro e w2 ⟨hb2, B, rfl, HPU⟩; have HW2 : Hid (UBx w w2 k f ia n c oa m d) := HW0.out.step hb2; clear hb2; obtain ⟨p0, p1, p2, p3, _⟩ := cells4 HW2.out.tx; have hs := HSP w2 B HW2.out HPU.out)
        | (go_at_call 28; (with_reducible refine hs.mono ?_); clear hs; rintro e w4 ⟨⟨xa, xc, rfl⟩, HCH, HHD⟩; have HW4 : Hid (UBx w w4 k f ia n c oa m d) := HW2.out.turn HCH.out.1 HCH.out.2; clear p0 p1 p2 p3; have hco := HCO w4 B HW4.out HHD.out)
        | (go_at_call 29; (with_reducible refine hco.mono ?_); clear hco; rintro e w5 ⟨v, rfl, HS⟩; obtain ⟨va, vc, hv⟩ := own_slice3 HS.out.1; subst hv; have HW5 : Hid (UBx w w5 k f ia n c oa m d) := HW4.out.step HS.out.2; obtain ⟨y0, y1⟩ := cells2 HW5.out.res; have f0 := Joins.unfrozen_of_block HW5.out.res 0; have f1 := Joins.unfrozen_of_block HW5.out.res 1))
      obtain ⟨_, j1⟩ := two_set HW5.out.res (.int .i64 0) (.slice va zs.length vc)
      exact bodyPost_ret (v := .agg #[.int .i64 0, .slice va zs.length vc]) (by simp [results, Tryz.results9, go_sem, j1]) rfl (out_coins (lo := w.heap.size + 1 + 1) (by omega) (by omega) HW5.out.bel HS.out.1)
    · rw [if_pos h1]
      have HSP : ∀ v B, UBx w v k f ia n c oa m d → FilledP v (w.heap.size + 1 + 1) B cs → Calls Tryz.prog 28 #[.map (some B), .agg #[.int .i64 k, .int .i64 f, .slice ia n c, .slice oa m d], .int .i64 id, .int .i64 h] v fun e w' => e = .returned (.tuple #[.slice none 0 0, .int .i64 u]) ∧ Hid (w.heap.size + 1 + 1 ≤ B ∧ Chg v w' B (B + 1)) := fun v B hv hp => (hsp v B hv hp).mono fun e w' ⟨q0, q1, q2⟩ => by
        rcases q2 with ⟨_, q4, _⟩ | ⟨q3, _⟩
        · exact ⟨q4, q0, q1⟩
        · exact absurd q3 h1
      clear hu hzs hts hsp hT hk hC hkc h0 hg
      go_enter Tryz.func9, Tryz.ntmps9
      go_wp2_with (first
        | (go_at_call 27; (with_reducible refine hF1.mono ?_); clear hF1; rintro e w2 ⟨hb2, B, rfl, HPU⟩; have HW2 : Hid (UBx w w2 k f ia n c oa m d) := HW0.out.step hb2; clear hb2; obtain ⟨p0, p1, p2, p3, _⟩ := cells4 HW2.out.tx; have hs := HSP w2 B HW2.out HPU.out)
        | (go_at_call 28; (with_reducible refine hs.mono ?_); clear hs; rintro e w4 ⟨rfl, HCH⟩; have HW4 : Hid (UBx w w4 k f ia n c oa m d) := HW2.out.turn HCH.out.1 HCH.out.2; clear p0 p1 p2 p3; obtain ⟨y0, y1⟩ := cells2 HW4.out.res; have f0 := Joins.unfrozen_of_block HW4.out.res 0; have f1 := Joins.unfrozen_of_block HW4.out.res 1))
      obtain ⟨_, j1⟩ := two_set HW4.out.res (.int .i64 u) (.slice none 0 0)
      exact bodyPost_ret (v := .agg #[.int .i64 u, .slice none 0 0]) (by simp [results, Tryz.results9, go_sem, j1]) rfl (out_code (by omega) HW4.out.bel)
  · rw [if_pos h0]
    obtain ⟨cd, hcd⟩ : ∃ r, r = coinsR cs := ⟨_, rfl⟩
    have hF1 : Calls Tryz.prog 27 #[.slice ca nc cc] ((w.alloc (.cells #[.int .i64 k, .int .i64 f, .slice ia n c, .slice oa m d] 37)).alloc (.cells #[.int .i64 0, .slice none 0 0] 31)) fun e w' => Below ((w.alloc (.cells #[.int .i64 k, .int .i64 f, .slice ia n c, .slice oa m d] 37)).alloc (.cells #[.int .i64 0, .slice none 0 0] 31)).heap.size ((w.alloc (.cells #[.int .i64 k, .int .i64 f, .slice ia n c, .slice oa m d] 37)).alloc (.cells #[.int .i64 0, .slice none 0 0] 31)) w' ∧ e = .returned (.tuple #[.map none, .int .i64 cd]) := hF.mono fun e w' h => by
      rcases h.2 with h1 | h1
      · rw [hcd]; exact ⟨h.1, h1.2⟩
      · exact absurd h1.1 h0
    rw [← hcd] at h0 ⊢
    clear hF hcd hg hT hk hC hkc
    go_enter Tryz.func9, Tryz.ntmps9
    go_wp2_with (first
      | (go_at_call 27; (with_reducible refine hF1.mono ?_); clear hF1; rintro e w2 ⟨hb2, rfl⟩; have HW2 : Hid (UBx w w2 k f ia n c oa m d) := HW0.out.step hb2; obtain ⟨y0, y1⟩ := cells2 HW2.out.res; have f0 := Joins.unfrozen_of_block HW2.out.res 0; have f1 := Joins.unfrozen_of_block HW2.out.res 1; clear hb2))
    obtain ⟨_, j1⟩ := two_set HW2.out.res (.int .i64 cd) (.slice none 0 0)
    exact bodyPost_ret (v := .agg #[.int .i64 cd, .slice none 0 0]) (by simp [results, Tryz.results9, go_sem, j1]) rfl (out_code (by omega) HW2.out.bel)

end Go.Proofs.YtngpegmfhhgkgaaGreatDoor

namespace Go.Proofs.YtngpegmfhhgkgaaGreatDoor
open Go.RowKit Go.Maps Go.WideMaps

def CellsO (xs : List Value) (j : Nat) (o : Ou) (u : Value) : Prop :=
  xs[j * 4]? = some (.int .i64 o.v) ∧ xs[j * 4 + 1]? = some u ∧ xs[j * 4 + 2]? = some (.int .i64 o.x) ∧ xs[j * 4 + 3]? = some (.int .i64 o.y)
structure OOwn (w : World) (lo hi : Nat) (v : Value) (n : Nat) (f : Nat → Ou) (kv : Nat → Value) : Prop where
  row : ∃ xs, w.ownsRow lo 66 4 v n xs ∧ ∀ j, j < n → CellsO xs j (f j) (kv j)
  top : ∀ b, v.ownBlock = some b → b < hi
  keys : ∀ j, j < n → w.ownsRow lo 2 1 (kv j) (f j).l.length (ints (f j).l) ∧ ∀ b, (kv j).ownBlock = some b → b < hi
  apart : ∀ i j, i < j → j < n → ∀ b, (kv i).ownBlock = some b → (kv j).ownBlock ≠ some b
theorem OOwn.below {w w' : World} {lo hi n : Nat} {v : Value} {f : Nat → Ou} {kv : Nat → Value} (h : OOwn w lo hi v n f kv) (hb : Below w.heap.size w w') : OOwn w' lo hi v n f kv := by
  obtain ⟨xs, h1, h2⟩ := h.row
  exact ⟨⟨xs, h1.kept (grown_of_below hb) (by cases Value.ownBlock v <;> simp), h2⟩, h.top, fun j hj => ⟨(h.keys j hj).1.kept (grown_of_below hb) (by cases Value.ownBlock (kv j) <;> simp), (h.keys j hj).2⟩, h.apart⟩
theorem OOwn.chg {w w' : World} {lo hi n lo' hi' : Nat} {v : Value} {f : Nat → Ou} {kv : Nat → Value} (h : OOwn w lo hi v n f kv) (hc : Chg w w' lo' hi') (hd : hi ≤ lo' ∨ hi' ≤ lo) : OOwn w' lo hi v n f kv := by
  obtain ⟨xs, h1, h2⟩ := h.row
  refine ⟨⟨xs, hc.row h1 fun k hk => ?_, h2⟩, h.top, fun j hj => ⟨hc.row (h.keys j hj).1 fun k hk => ?_, (h.keys j hj).2⟩, h.apart⟩
  · have a := h.top k hk
    have b := (h1.lt k hk).1
    omega
  · have a := (h.keys j hj).2 k hk
    have b := ((h.keys j hj).1.lt k hk).1
    omega
theorem OOwn.at {w : World} {lo hi n g c : Nat} {os : List Ou} {kv : Nat → Value} (h : OOwn w lo hi (.slice (some ⟨g, 0, none⟩) n c) n (fun j => os.getD j O0) kv) (hn : os.length = n) (hl : ∀ j, j < n → (os.getD j O0).l.length ≤ 1048576) : OAt w (some ⟨g, 0, none⟩) n os := by
  obtain ⟨xs, h1, h2⟩ := h.row
  have hxl := h1.1
  refine ⟨hn, .inr ⟨g, 0, rfl, (h1.lt g rfl).2, fun j hj => ?_⟩⟩
  obtain ⟨e0, e1, e2, e3⟩ := h2 j hj
  have hk := (h.keys j hj).1
  obtain ⟨ka, kc, hkv⟩ : ∃ ka kc, kv j = .slice ka (os.getD j O0).l.length kc := by
    rcases hk.2 with ⟨q, q0⟩ | ⟨gg, cap, cur, q, _⟩
    · exact ⟨none, 0, by rw [q, q0]⟩
    · exact ⟨_, cap, q⟩
  rw [hkv] at e1 hk
  refine ⟨ka, (os.getD j O0).l.length, kc, ?_, ?_, ?_, ?_, by have := hl j hj; unfold maxLen; omega, IAt.owned hk rfl⟩
  · rw [Nat.zero_add, h1.cellAt (j * 4) (by omega), e0]
  · rw [Nat.zero_add, h1.cellAt (j * 4 + 1) (by omega), e1]
  · rw [Nat.zero_add, h1.cellAt (j * 4 + 2) (by omega), e2]
  · rw [Nat.zero_add, h1.cellAt (j * 4 + 3) (by omega), e3]

/-- A row of outs of its own under way in block B: k of them are there. -/
def RowP (wr : World) (B n k : Nat) (os : List Ou) : Prop :=
  ∃ xs, ∃ kv : Nat → Value, wr.ownsRow B 66 4 (.slice (some ⟨B, 0, none⟩) n n) n xs ∧ (∀ j, j < k → CellsO xs j (os.getD j O0) (kv j) ∧ wr.ownsRow (B + 1) 2 1 (kv j) (os.getD j O0).l.length (ints (os.getD j O0).l)) ∧
    ∀ i j, i < j → j < k → ∀ b, Value.ownBlock (kv i) = some b → Value.ownBlock (kv j) ≠ some b

set_option maxHeartbeats 1000000 in
theorem toP_round {wr w2 : World} {B n k : Nat} {os : List Ou} {v x y : Int} {l : List Int} {g c : Nat} (ho : (⟨v, l, x, y⟩ : Ou) = os.getD k O0) (hlt : k < n) (hR : RowP wr B n k os) (hb : Below wr.heap.size wr w2) (hk : w2.ownsRow wr.heap.size 2 1 (.slice (some ⟨g, 0, none⟩) l.length c) l.length (ints l)) (hBl : B < wr.heap.size) :
    ∃ u0 u1 u2 u3, (w2.cell? ⟨B, k * 4, none⟩ = some u0 ∧ w2.cell? ⟨B, k * 4 + 1, none⟩ = some u1 ∧ w2.cell? ⟨B, k * 4 + 2, none⟩ = some u2 ∧ w2.cell? ⟨B, k * 4 + 3, none⟩ = some u3) ∧ (w2.frozen? ⟨B, k * 4, none⟩ = false ∧ w2.frozen? ⟨B, k * 4 + 1, none⟩ = false ∧ w2.frozen? ⟨B, k * 4 + 2, none⟩ = false ∧ w2.frozen? ⟨B, k * 4 + 3, none⟩ = false) ∧
      Hid (RowP ((((w2.setCell ⟨B, k * 4, none⟩ (.int .i64 v)).setCell ⟨B, k * 4 + 1, none⟩ (.slice (some ⟨g, 0, none⟩) l.length c)).setCell ⟨B, k * 4 + 2, none⟩ (.int .i64 x)).setCell ⟨B, k * 4 + 3, none⟩ (.int .i64 y)) B n (k + 1) os) := by
  obtain ⟨xs, kv, hown0, hxs, hap⟩ := hR
  have hown := hown0.kept (w' := w2) (row := none) ⟨hb.os, hb.tape, hb.output, hb.size, fun k hk _ => hb.block k hk⟩ (by simp [Value.ownBlock])
  have hxl := hown.1
  have r1 := (hown.stored (k * 4) (.int .i64 v)).1
  have r2 := (r1.stored (k * 4 + 1) (.slice (some ⟨g, 0, none⟩) l.length c)).1
  have r3 := (r2.stored (k * 4 + 2) (.int .i64 x)).1
  have r4 := (r3.stored (k * 4 + 3) (.int .i64 y)).1
  have hgl := (hk.lt g rfl).1
  have st : ∀ (W : World) (i : Nat) (u : Value) {z : Value} {d : Nat} {zs : List Value}, W.ownsRow (B + 1) 2 1 z d zs → (W.setCell ⟨B, i, none⟩ u).ownsRow (B + 1) 2 1 z d zs := fun W i u z d zs hW => ownsRow_setCell_below hW (a := ⟨B, i, none⟩) (show B < B + 1 by omega) u
  refine ⟨_, _, _, _, ⟨(hown.cellAt (k * 4) (by omega)).trans (List.getElem?_eq_getElem (by omega)), (hown.cellAt (k * 4 + 1) (by omega)).trans (List.getElem?_eq_getElem (by omega)), (hown.cellAt (k * 4 + 2) (by omega)).trans (List.getElem?_eq_getElem (by omega)), (hown.cellAt (k * 4 + 3) (by omega)).trans (List.getElem?_eq_getElem (by omega))⟩, ⟨hown.frozenAt _, hown.frozenAt _, hown.frozenAt _, hown.frozenAt _⟩, _, fun i => if i = k then .slice (some ⟨g, 0, none⟩) l.length c else kv i, r4, fun j hj => ?_, fun i j hij hj b hbi => ?_⟩
  · by_cases e : k = j
    · subst e
      rw [← ho]
      refine ⟨⟨?_, ?_, ?_, ?_⟩, ?_⟩
      · rw [List.getElem?_set_ne (by omega), List.getElem?_set_ne (by omega), List.getElem?_set_ne (by omega), List.getElem?_set_self (by omega)]
      · rw [List.getElem?_set_ne (by omega), List.getElem?_set_ne (by omega), List.getElem?_set_self (by simp; omega)]; simp
      · rw [List.getElem?_set_ne (by omega), List.getElem?_set_self (by simp; omega)]
      · rw [List.getElem?_set_self (by simp; omega)]
      · simp only [if_true]
        exact st _ _ _ (st _ _ _ (st _ _ _ (st _ _ _ (Joins.ownsRow_le hk (by omega)))))
    · obtain ⟨⟨e0, e1, e2, e3⟩, hr⟩ := hxs j (by omega)
      dsimp only
      rw [if_neg (Ne.symm e)]
      refine ⟨⟨?_, ?_, ?_, ?_⟩, ?_⟩
      · rw [List.getElem?_set_ne (by omega), List.getElem?_set_ne (by omega), List.getElem?_set_ne (by omega), List.getElem?_set_ne (by omega)]; exact e0
      · rw [List.getElem?_set_ne (by omega), List.getElem?_set_ne (by omega), List.getElem?_set_ne (by omega), List.getElem?_set_ne (by omega)]; exact e1
      · rw [List.getElem?_set_ne (by omega), List.getElem?_set_ne (by omega), List.getElem?_set_ne (by omega), List.getElem?_set_ne (by omega)]; exact e2
      · rw [List.getElem?_set_ne (by omega), List.getElem?_set_ne (by omega), List.getElem?_set_ne (by omega), List.getElem?_set_ne (by omega)]; exact e3
      · exact st _ _ _ (st _ _ _ (st _ _ _ (st _ _ _ (hr.kept (grown_of_below hb) (by cases Value.ownBlock (kv j) <;> simp)))))
  · have hik : i ≠ k := by omega
    dsimp only at hbi ⊢
    rw [if_neg hik] at hbi
    by_cases e : j = k
    · rw [if_pos e]
      have h1 := ((hxs i (by omega)).2.lt b hbi).2
      intro e2
      have : g = b := by simpa [Value.ownBlock] using e2
      omega
    · rw [if_neg e]
      exact hap i j hij (by omega) b hbi
theorem RowP.own {w : World} {B n : Nat} {os : List Ou} (h : RowP w B n n os) : ∃ kv, OOwn w B w.heap.size (.slice (some ⟨B, 0, none⟩) n n) n (fun j => os.getD j O0) kv := by
  obtain ⟨xs, kv, h1, h2, h3⟩ := h
  exact ⟨kv, ⟨xs, h1, fun j hj => (h2 j hj).1⟩, fun b hb => (h1.lt b hb).2, fun j hj => ⟨Joins.ownsRow_le (h2 j hj).2 (by omega), fun b hb => ((h2 j hj).2.lt b hb).2⟩, h3⟩

set_option maxHeartbeats 1000000 in
theorem toOsO_any (a : Option Addr) (n cap : Nat) (os : List Ou) (w : World) (hl : n ≤ 1048576) (hk : ∀ j, j < n → (os.getD j O0).l.length ≤ 1048576) (hs : OAt w a n os) :
    Calls Tryz.prog 26 #[.slice a n cap] w fun e w' => ∃ g c kv, e = .returned (.slice (some ⟨g, 0, none⟩) n c) ∧ OOwn w' w.heap.size w'.heap.size (.slice (some ⟨g, 0, none⟩) n c) n (fun j => os.getD j O0) kv ∧ Below w.heap.size w w' := by
  have HSS : Hid (OAt w a n os) := hs
  have HKL : Hid (∀ j, j < n → (os.getD j O0).l.length ≤ 1048576) := hk
  clear hs hk
  obtain ⟨i0, hi, hz0, hz1, hz2⟩ := info_parts Tryz.infoOut
  have hml : n ≤ maxLen := by unfold maxLen; omega
  go_enter Tryz.func26, Tryz.ntmps26
  go_wp2_with (first | (at_make; refine wpList_make_full _ rfl _ _ 35 rfl w.heap.size 66 i0 (.agg #[.int .i64 0, .slice none 0 0, .int .i64 0, .int .i64 0]) 4 Tryz.underlying35 hi hz0 hz1 _ _ _ _ n rfl rfl (by omega) (by omega) (by rw [hz2]; omega) hml (Nat.le_refl _) ?_; intro w1 ho1 hg1))
  have hb1 : Below w.heap.size w w1 := (Below.refl _ _).grown hg1 (Nat.le_refl _) (fun k h => by cases h)
  have hB1 : w.heap.size < w1.heap.size := (ho1.lt _ rfl).2
  go_loopw [4] (fun i wr => ∃ k : Nat, k ≤ n ∧ i = .int .i64 k ∧ Below w.heap.size w wr ∧ w.heap.size < wr.heap.size ∧ Hid (RowP wr w.heap.size n k os)) (fun i _ => n - (intOf i).toNat)
  case atStart => exact ⟨0, Nat.zero_le _, rfl, hb1, hB1, _, fun _ => .slice none 0 0, ho1, fun j hj => (by omega), fun i j _ hj => (by omega)⟩
  case round =>
    obtain ⟨k, hk, rfl, hbel, hBw, HX⟩ := hrel
    clear ho1 hg1 hb1 hB1
    by_cases hlt : k < n
    · rcases HSS.out.2 with h0 | ⟨b, off, ha, hb, hc⟩
      · omega
      subst ha
      obtain ⟨o, ho⟩ : ∃ o, o = os.getD k O0 := ⟨_, rfl⟩
      obtain ⟨ka, kn, kc, c0, c1, c2, c3, c4, c5⟩ := hc k hlt
      have c6 := HKL.out k hlt
      rw [← ho] at c0 c2 c3 c5 c6
      obtain ⟨ov, ol, ox, oy⟩ := o
      have HS : Hid ((⟨ov, ol, ox, oy⟩ : Ou) = os.getD k O0) := ho
      obtain rfl := c5.1
      have x0 := (hbel.cell (p := ⟨b, off + k * 4, none⟩) hb).trans c0
      have x1 := (hbel.cell (p := ⟨b, off + k * 4 + 1, none⟩) hb).trans c1
      have x2 := (hbel.cell (p := ⟨b, off + k * 4 + 2, none⟩) hb).trans c2
      have x3 := (hbel.cell (p := ⟨b, off + k * 4 + 3, none⟩) hb).trans c3
      have hto := toOut_any ov ka ol.length kc ol ox oy wr c6 (c5.below hbel (Nat.le_refl _))
      simp only at x0 x2 x3
      clear hc ho c0 c1 c2 c3 c4 c5 c6
      go_wp2_with (first | (go_at_call 48; refine hto.mono ?_; rintro e w2 ⟨g, c, rfl, hk2, hb2⟩; obtain ⟨u0, u1, u2, u3, ⟨y0, y1, y2, y3⟩, ⟨f0, f1, f2, f3⟩, HX2⟩ := toP_round HS.out hlt HX.out hb2 hk2 hBw; have HB2 : Hid (Below w.heap.size w w2) := hbel.trans (hb2.mono hbel.size); have hBw2 := Nat.lt_of_lt_of_le hBw hb2.size; clear hk2 hb2))
      go_roundw
      case rel => exact ⟨k + 1, by omega, by go_num, (((HB2.out.setCell (Nat.le_refl _) _).setCell (Nat.le_refl _) _).setCell (Nat.le_refl _) _).setCell (Nat.le_refl _) _, by simpa using hBw2, HX2⟩
      case measure => simp [intOf]; omega
    · obtain rfl : k = n := by omega
      go_wp2
      go_ret
      obtain ⟨kv, hO⟩ := HX.out.own
      exact ⟨_, _, kv, rfl, hO, hbel⟩

/-- What is wanted of outs that are marked: where their keys lie. -/
structure MOwn (w : World) (lo hi g n cap : Nat) (ln : Nat → Nat) (kv : Nat → Value) : Prop where
  row : ∃ xs, w.ownsRow lo 66 4 (.slice (some ⟨g, 0, none⟩) n cap) n xs ∧ ∀ j, j < n → xs[j * 4 + 1]? = some (kv j)
  top : g < hi
  keys : ∀ j, j < n → (∃ zs, w.ownsRow lo 2 1 (kv j) (ln j) zs) ∧ ∀ b, (kv j).ownBlock = some b → b < hi
  apart : ∀ i j, i < j → j < n → ∀ b, (kv i).ownBlock = some b → (kv j).ownBlock ≠ some b
theorem OOwn.marks {w : World} {lo hi g n cap : Nat} {f : Nat → Ou} {kv : Nat → Value} (h : OOwn w lo hi (.slice (some ⟨g, 0, none⟩) n cap) n f kv) : MOwn w lo hi g n cap (fun j => (f j).l.length) kv := by
  obtain ⟨xs, h1, h2⟩ := h.row
  exact ⟨⟨xs, h1, fun j hj => (h2 j hj).2.1⟩, h.top g rfl, fun j hj => ⟨⟨_, (h.keys j hj).1⟩, (h.keys j hj).2⟩, h.apart⟩
theorem MOwn.set {w : World} {lo hi g n cap i : Nat} {ln : Nat → Nat} {kv : Nat → Value} (h : MOwn w lo hi g n cap ln kv) (him : i % 4 ≠ 1) (u : Value) : MOwn (w.setCell ⟨g, i, none⟩ u) lo hi g n cap ln kv := by
  obtain ⟨xs, h1, h2⟩ := h.row
  have r1 := h1.stored i u
  refine ⟨⟨_, r1.1, fun j hj => ?_⟩, h.top, fun j hj => ?_, h.apart⟩
  · rw [List.getElem?_set_ne (by omega)]; exact h2 j hj
  · obtain ⟨⟨zs, hz⟩, hb⟩ := h.keys j hj
    refine ⟨⟨zs, hz.kept r1.2 ?_⟩, hb⟩
    cases e : (kv j).ownBlock with
    | none => exact .inl rfl
    | some b => exact .inr fun e2 => rows_apart (by decide) h1 hz b e2.symm e
theorem MOwn.cell {w : World} {lo hi g n cap i : Nat} {ln : Nat → Nat} {kv : Nat → Value} (h : MOwn w lo hi g n cap ln kv) (hin : i < n * 4) : ∃ u, w.cell? ⟨g, i, none⟩ = some u ∧ w.frozen? ⟨g, i, none⟩ = false := by
  obtain ⟨xs, h1, _⟩ := h.row
  have hxl := h1.1
  exact ⟨_, (h1.cellAt i (by omega)).trans (List.getElem?_eq_getElem (by omega)), h1.frozenAt i⟩
theorem MOwn.key {w : World} {lo hi g n cap j : Nat} {ln : Nat → Nat} {kv : Nat → Value} (h : MOwn w lo hi g n cap ln kv) (hj : j < n) : ∃ ka kc, kv j = .slice ka (ln j) kc ∧ w.cell? ⟨g, j * 4 + 1, none⟩ = some (.slice ka (ln j) kc) := by
  obtain ⟨xs, h1, h2⟩ := h.row
  have hxl := h1.1
  obtain ⟨⟨zs, hk⟩, _⟩ := h.keys j hj
  obtain ⟨ka, kc, hkv⟩ : ∃ ka kc, kv j = .slice ka (ln j) kc := by
    rcases hk.2 with ⟨q, q0⟩ | ⟨gg, cap, cur, q, _⟩
    · exact ⟨none, 0, by rw [q, q0]⟩
    · exact ⟨_, cap, q⟩
  exact ⟨ka, kc, hkv, by rw [h1.cellAt (j * 4 + 1) (by omega), h2 j hj, hkv]⟩
theorem MOwn.walk {w : World} {lo hi g n cap j : Nat} {ln : Nat → Nat} {kv : Nat → Value} {u : Value} (h : MOwn w lo hi g n cap ln kv) (hj : j < n) (hu : kv j = u) (K : Nat) (hK : K + ln j ≤ 4611686018427387904) (z : Int) (hz : z = (K : Nat)) :
    Calls Tryz.prog 33 #[u, .int .i64 z] w fun e w' => e = .returned (.int .i64 (K + ln j : Nat)) ∧ Hid (MOwn w' lo hi g n cap ln kv) ∧ Hid (Chg w w' lo hi) := by
  subst hz hu
  obtain ⟨xs, h1, h2⟩ := h.row
  obtain ⟨⟨zs, hk⟩, hkb⟩ := h.keys j hj
  refine (markK_any (kv j) (ln j) lo K zs w hK hk).mono fun e w' ⟨q1, q2, q3⟩ => ⟨q1, ?_, Chg.of_grown q3 (fun k e => ⟨(hk.lt k e).1, hkb k e⟩)⟩
  refine ⟨⟨xs, h1.kept q3 ?_, h2⟩, h.top, fun i hi => ?_, h.apart⟩
  · exact .inr fun e => rows_apart (by decide) h1 hk g rfl e.symm
  · by_cases e : i = j
    · subst e; exact ⟨⟨_, q2⟩, hkb⟩
    · obtain ⟨⟨ys, hy⟩, hyb⟩ := h.keys i hi
      refine ⟨⟨ys, hy.kept q3 ?_⟩, hyb⟩
      cases e2 : (kv i).ownBlock with
      | none => exact .inl rfl
      | some b =>
        refine .inr fun e3 => ?_
        rcases Nat.lt_or_ge i j with h3 | h3
        · exact h.apart i j h3 hj b e2 e3.symm
        · exact h.apart j i (by omega) hi b e3.symm e2

set_option maxHeartbeats 2000000 in
theorem markOs_any (n g cap lo hi k : Nat) (ln : Nat → Nat) (kv : Nat → Value) (w : World) (hk : k ≤ 100000000000000) (hn : n ≤ 1048576) (hl : ∀ j, j < n → ln j ≤ 1048576) (hlo : lo ≤ g) (ho : MOwn w lo hi g n cap ln kv) :
    Calls Tryz.prog 35 #[.slice (some ⟨g, 0, none⟩) n cap, .int .i64 k] w fun e w' => ∃ K : Nat, e = .returned (.int .i64 K) ∧ K ≤ 1000000000000000 ∧ Chg w w' lo hi := by
  have HO : Hid (MOwn w lo hi g n cap ln kv) := ho
  have HL : Hid (∀ j, j < n → ln j ≤ 1048576) := hl
  have HG : Hid (lo ≤ g ∧ g < hi) := ⟨hlo, ho.top⟩
  clear ho hl
  go_enter Tryz.func35, Tryz.ntmps35
  go_wp2
  go_loopw [1, 5] (fun a i wr => ∃ j K : Nat, j ≤ n ∧ i = .int .i64 j ∧ a = .int .i64 K ∧ K ≤ k + j * 1048579 ∧ Hid (Chg w wr lo hi) ∧ Hid (MOwn wr lo hi g n cap ln kv)) (fun _ i _ => n - (intOf i).toNat)
  case atStart => exact ⟨0, k, Nat.zero_le _, rfl, rfl, by omega, Chg.refl _ _ _, HO.out⟩
  case round =>
    obtain ⟨j, K, hj, rfl, rfl, hKb, HC, HX⟩ := hrel
    by_cases hlt : j < n
    · obtain ⟨v0, c0, f0⟩ := HX.out.cell (i := j * 4) (by omega)
      have HX1 : ∀ u, Hid (MOwn (wr.setCell ⟨g, j * 4, none⟩ u) lo hi g n cap ln kv) := fun u => HX.out.set (i := j * 4) (by omega) u
      obtain ⟨ka, kc, hkv, c1⟩ := (HX1 (.int .i64 (K : Int))).out.key hlt
      have hlj := HL.out j hlt
      obtain ⟨L, hL⟩ : ∃ L, L = ln j := ⟨_, rfl⟩
      have hw := (HX1 (.int .i64 (K : Int))).out.walk hlt hkv (K + 1) (by omega) ((K : Int) + 1) (by omega)
      rw [← hL] at hw c1 hlj
      have hki : (j : Int) < (n : Int) := by omega
      have HCC : Hid (Chg w (wr.setCell ⟨g, j * 4, none⟩ (.int .i64 (K : Int))) lo hi) := HC.out.setCell HG.out _
      clear hkv HX hL
      go_wp2_with (first
        | (go_at_call 33; (with_reducible refine hw.mono ?_); clear hw; rintro e w2 ⟨rfl, HX2, HC2⟩; obtain ⟨v2, c2, f2⟩ := HX2.out.cell (i := j * 4 + 2) (by omega); obtain ⟨v3, c3, f3⟩ := HX2.out.cell (i := j * 4 + 3) (by omega); have HX3 : Hid (∀ u u', MOwn ((w2.setCell ⟨g, j * 4 + 2, none⟩ u).setCell ⟨g, j * 4 + 3, none⟩ u') lo hi g n cap ln kv) := (fun u u' => (HX2.out.set (i := j * 4 + 2) (by omega) u).set (i := j * 4 + 3) (by omega) u'); have HC3 : Hid (∀ u u', Chg w ((w2.setCell ⟨g, j * 4 + 2, none⟩ u).setCell ⟨g, j * 4 + 3, none⟩ u') lo hi) := (fun u u' => ((HCC.out.trans HC2.out).setCell HG.out u).setCell HG.out u'); clear c0 f0 c1))
      go_roundw
      case rel => exact ⟨j + 1, K + 1 + L + 1 + 1, by omega, by go_num, by go_num, by omega, HC3.out _ _, HX3.out _ _⟩
      case measure => simp [intOf]; omega
    · go_wp2
      go_ret
      exact ⟨K, rfl, by omega, HC.out⟩

end Go.Proofs.YtngpegmfhhgkgaaGreatDoor

namespace Go.Proofs.YtngpegmfhhgkgaaGreatDoor
open Go.RowKit Go.Maps Go.WideMaps

theorem ref_set {wr : World} {base g n cap j : Nat} {xs : List Value} (h : wr.ownsRow base 63 2 (.slice (some ⟨g, 0, none⟩) n cap) n xs) (u0 u1 : Value) :
    ∃ ys, ((wr.setCell ⟨g, j * 2, none⟩ u0).setCell ⟨g, j * 2 + 1, none⟩ u1).ownsRow base 63 2 (.slice (some ⟨g, 0, none⟩) n cap) n ys :=
  ⟨_, ((h.stored (j * 2) u0).1.stored (j * 2 + 1) u1).1⟩
set_option maxHeartbeats 1000000 in
theorem markRf_any (n g cap base k hi : Nat) (xs : List Value) (w : World) (hk : k ≤ 4611686018427387904) (hn : n ≤ 1048576) (ho : w.ownsRow base 63 2 (.slice (some ⟨g, 0, none⟩) n cap) n xs) (hg : base ≤ g ∧ g < hi) :
    Calls Tryz.prog 34 #[.slice (some ⟨g, 0, none⟩) n cap, .int .i64 k] w fun e w' => e = .returned (.int .i64 (k + 2 * n : Nat)) ∧ Chg w w' base hi := by
  have HO : Hid (∃ xs, w.ownsRow base 63 2 (.slice (some ⟨g, 0, none⟩) n cap) n xs) := ⟨xs, ho⟩
  clear ho
  go_enter Tryz.func34, Tryz.ntmps34
  go_wp2
  go_loopw [1, 5] (fun a i wr => ∃ j : Nat, j ≤ n ∧ i = .int .i64 j ∧ a = .int .i64 (k + 2 * j : Nat) ∧ Hid (Chg w wr base hi) ∧ Hid (∃ xs, wr.ownsRow base 63 2 (.slice (some ⟨g, 0, none⟩) n cap) n xs)) (fun _ i _ => n - (intOf i).toNat)
  case atStart => exact ⟨0, Nat.zero_le _, rfl, rfl, Chg.refl _ _ _, HO.out⟩
  case round =>
    obtain ⟨j, hj, rfl, rfl, HC, HX⟩ := hrel
    by_cases hlt : j < n
    · obtain ⟨xs, hx⟩ := HX.out
      have hl := hx.1
      have c0 : wr.cell? ⟨g, j * 2, none⟩ = some (xs[j * 2]'(by omega)) := (hx.cellAt (j * 2) (by omega)).trans (List.getElem?_eq_getElem (by omega))
      have c1 : wr.cell? ⟨g, j * 2 + 1, none⟩ = some (xs[j * 2 + 1]'(by omega)) := (hx.cellAt (j * 2 + 1) (by omega)).trans (List.getElem?_eq_getElem (by omega))
      have f0 := hx.frozenAt (j * 2)
      have f1 := hx.frozenAt (j * 2 + 1)
      generalize xs[j * 2]'(by omega) = v0 at c0
      generalize xs[j * 2 + 1]'(by omega) = v1 at c1
      have HR : Hid (∀ u0 u1 : Value, Chg w ((wr.setCell ⟨g, j * 2, none⟩ u0).setCell ⟨g, j * 2 + 1, none⟩ u1) base hi ∧ ∃ ys, ((wr.setCell ⟨g, j * 2, none⟩ u0).setCell ⟨g, j * 2 + 1, none⟩ u1).ownsRow base 63 2 (.slice (some ⟨g, 0, none⟩) n cap) n ys) := fun u0 u1 => ⟨(HC.out.setCell hg u0).setCell hg u1, ref_set hx u0 u1⟩
      clear hx hl
      go_wp2
      go_roundw
      case rel => exact ⟨j + 1, by omega, by go_num, by go_num, (HR.out _ _).1, (HR.out _ _).2⟩
      case measure => simp [intOf]; omega
    · have hjn : j = n := by omega
      subst hjn
      go_wp2
      go_ret
      exact ⟨rfl, HC.out⟩

end Go.Proofs.YtngpegmfhhgkgaaGreatDoor

namespace Go.Proofs.YtngpegmfhhgkgaaGreatDoor
open Go.RowKit Go.Maps Go.WideMaps

structure TOwn (w : World) (lo mid hi n m g0 c0 g1 c1 : Nat) (rs : List (Int × Int)) (os : List Ou) (kv : Nat → Value) : Prop where
  r : w.ownsRow lo 63 2 (.slice (some ⟨g0, 0, none⟩) n c0) n (gcells rs)
  rt : g0 < mid
  o : OOwn w mid hi (.slice (some ⟨g1, 0, none⟩) m c1) m (fun j => os.getD j O0) kv
  lm : lo ≤ mid
  mh : mid ≤ hi
section
variable {w w' : World} {lo mid hi n m g0 c0 g1 c1 : Nat} {rs : List (Int × Int)} {os : List Ou} {kv : Nat → Value}
theorem TOwn.chg (h : TOwn w lo mid hi n m g0 c0 g1 c1 rs os kv) {lo' hi' : Nat} (hc : Chg w w' lo' hi') (hd : hi ≤ lo' ∨ hi' ≤ lo) : TOwn w' lo mid hi n m g0 c0 g1 c1 rs os kv := by
  have h1 := h.lm
  have h2 := h.mh
  have h3 := h.rt
  refine ⟨hc.row h.r fun k hk => ?_, h.rt, h.o.chg hc (by omega), h1, h2⟩
  have a := (h.r.lt k hk).1
  have e : g0 = k := by simpa [Value.ownBlock] using hk
  omega
theorem TOwn.below (h : TOwn w lo mid hi n m g0 c0 g1 c1 rs os kv) (hb : Below w.heap.size w w') : TOwn w' lo mid hi n m g0 c0 g1 c1 rs os kv := h.chg (Chg.of_below hb hi hi) (.inl (Nat.le_refl _))
theorem TOwn.at (h : TOwn w lo mid hi n m g0 c0 g1 c1 rs os kv) (hn : rs.length = n) (hm : os.length = m) (hl : ∀ j, j < m → (os.getD j O0).l.length ≤ 1048576) : TxAt w (some ⟨g0, 0, none⟩) n (some ⟨g1, 0, none⟩) m rs os := ⟨GAt.owned h.r hn, h.o.at hm hl⟩
theorem TOwn.caps (h : TOwn w lo mid hi n m g0 c0 g1 c1 rs os kv) : n ≤ c0 ∧ c0 ≤ maxLen := by
  rcases id h.r.2 with ⟨e, _⟩ | ⟨g', c', cur, e, _, _, k1, k2, _⟩
  · cases e
  · simp at e
    obtain ⟨rfl, rfl⟩ := e
    exact ⟨k1, k2⟩
theorem Chg.wide {lo' hi' : Nat} (h : Chg w w' lo hi) (h1 : lo' ≤ lo) (h2 : hi ≤ hi') : Chg w w' lo' hi' := ⟨h.os, h.tape, h.output, h.size, fun b hb hd => h.block b hb (by omega)⟩
end

set_option maxRecDepth 20000 in
set_option maxHeartbeats 2000000 in
theorem toTxO_any (k f : Int) (ia oa : Option Addr) (n m c d : Nat) (rs : List (Int × Int)) (os : List Ou) (w : World) (hn : n ≤ 1048576) (hm : m ≤ 1048576) (hk : ∀ j, j < m → (os.getD j O0).l.length ≤ 1048576) (h : TxAt w ia n oa m rs os) :
    Calls Tryz.prog 8 #[.agg #[.int .i64 k, .int .i64 f, .slice ia n c, .slice oa m d]] w fun e w' => ∃ g0 c0 g1 c1 mid kv, e = .returned (.agg #[.int .i64 k, .int .i64 f, .slice (some ⟨g0, 0, none⟩) n c0, .slice (some ⟨g1, 0, none⟩) m c1]) ∧ TOwn w' w.heap.size mid w'.heap.size n m g0 c0 g1 c1 rs os kv ∧ Below w.heap.size w w' := by
  obtain ⟨t0, t1, t2, t3⟩ := three_blocks w (.cells #[.int .i64 k, .int .i64 f, .slice ia n c, .slice oa m d] 26) (.cells #[.int .i64 0, .int .i64 0, .slice none 0 0, .slice none 0 0] 37) (.cells #[.int .i64 k, .int .i64 f, .slice none 0 0, .slice none 0 0] 37)
  have hT1 : TxB3 w (((w.alloc (.cells #[.int .i64 k, .int .i64 f, .slice ia n c, .slice oa m d] 26)).alloc (.cells #[.int .i64 0, .int .i64 0, .slice none 0 0, .slice none 0 0] 37)).alloc (.cells #[.int .i64 k, .int .i64 f, .slice none 0 0, .slice none 0 0] 37)) (.int .i64 k) (.int .i64 f) (.slice ia n c) (.slice oa m d) (.int .i64 k) (.int .i64 f) (.slice none 0 0) (.slice none 0 0) := ⟨t0, t1, t2, below_box3 _ _ _⟩
  have hS := toRf_any ia n c rs (((w.alloc (.cells #[.int .i64 k, .int .i64 f, .slice ia n c, .slice oa m d] 26)).alloc (.cells #[.int .i64 0, .int .i64 0, .slice none 0 0, .slice none 0 0] 37)).alloc (.cells #[.int .i64 k, .int .i64 f, .slice none 0 0, .slice none 0 0] 37)) hn (h.r.below hT1.bel (Nat.le_refl _))
  have HT1 := show Hid (TxB3 w (((w.alloc (.cells #[.int .i64 k, .int .i64 f, .slice ia n c, .slice oa m d] 26)).alloc (.cells #[.int .i64 0, .int .i64 0, .slice none 0 0, .slice none 0 0] 37)).alloc (.cells #[.int .i64 k, .int .i64 f, .slice none 0 0, .slice none 0 0] 37)) (.int .i64 k) (.int .i64 f) (.slice ia n c) (.slice oa m d) (.int .i64 k) (.int .i64 f) (.slice none 0 0) (.slice none 0 0)) from hT1
  have HSZ := show Hid ((((w.alloc (.cells #[.int .i64 k, .int .i64 f, .slice ia n c, .slice oa m d] 26)).alloc (.cells #[.int .i64 0, .int .i64 0, .slice none 0 0, .slice none 0 0] 37)).alloc (.cells #[.int .i64 k, .int .i64 f, .slice none 0 0, .slice none 0 0] 37)).heap.size = w.heap.size + 1 + 1 + 1) from t3
  have HO : Hid (OAt w oa m os) := h.o
  have HK : Hid (∀ j, j < m → (os.getD j O0).l.length ≤ 1048576) := hk
  obtain ⟨s0, s1, s2, s3, _⟩ := cells4 hT1.p
  clear t0 t1 t2 t3 hT1 h hk
  go_enter Tryz.func8, Tryz.ntmps8
  go_wp2_with (first
    | (go_at_call 25; refine hS.mono ?_; rintro e w2 ⟨g0, k0, rfl, ho0, hb2⟩; rw [HSZ.out] at ho0; have HT2 : Hid (TxB3 w w2 (.int .i64 k) (.int .i64 f) (.slice ia n c) (.slice oa m d) (.int .i64 k) (.int .i64 f) (.slice none 0 0) (.slice none 0 0)) := HT1.out.step hb2; have HT3 : Hid (TxB3 w (w2.setCell ⟨w.heap.size + 1 + 1, 2, none⟩ (.slice (some ⟨g0, 0, none⟩) n k0)) (.int .i64 k) (.int .i64 f) (.slice ia n c) (.slice oa m d) (.int .i64 k) (.int .i64 f) (.slice (some ⟨g0, 0, none⟩) n k0) (.slice none 0 0)) := HT2.out.set (i := 2) rfl; have HROW : Hid ((w2.setCell ⟨w.heap.size + 1 + 1, 2, none⟩ (.slice (some ⟨g0, 0, none⟩) n k0)).ownsRow (w.heap.size + 1 + 1 + 1) 63 2 (.slice (some ⟨g0, 0, none⟩) n k0) n (gcells rs)) := ownsRow_setCell_below ho0 (a := ⟨w.heap.size + 1 + 1, 2, none⟩) (show w.heap.size + 1 + 1 < _ by omega) _; obtain ⟨u0, u1, u2, u3, _⟩ := cells4 HT2.out.p; obtain ⟨v0, v1, v2, v3, v4, v5, v6, v7⟩ := cells4 HT2.out.o; obtain ⟨x0, x1, x2, x3, _⟩ := cells4 HT3.out.p; have hSO := toOsO_any oa m d os _ hm HK.out (HO.out.below HT3.out.bel (Nat.le_refl _)); clear ho0 hb2)
    | (go_at_call 26; refine hSO.mono ?_; rintro e w3 ⟨g1, k1, kv, rfl, hn3, hb3⟩; have HT4 : Hid (TxB3 w w3 (.int .i64 k) (.int .i64 f) (.slice ia n c) (.slice oa m d) (.int .i64 k) (.int .i64 f) (.slice (some ⟨g0, 0, none⟩) n k0) (.slice none 0 0)) := HT3.out.step hb3; have HTO : Hid (TOwn w3 (w.heap.size + 1 + 1 + 1) (w2.setCell ⟨w.heap.size + 1 + 1, 2, none⟩ (.slice (some ⟨g0, 0, none⟩) n k0)).heap.size w3.heap.size n m g0 k0 g1 k1 rs os kv) := ⟨HROW.out.kept (grown_of_below hb3) (by simp [Value.ownBlock]), (HROW.out.lt g0 rfl).2, hn3, HT3.out.lt, hb3.size⟩; obtain ⟨a0, a1, a2, a3, a4, a5, a6, a7⟩ := cells4 HT4.out.o; obtain ⟨b0, b1, b2, b3, b4, b5, b6, b7⟩ := cells4 HT4.out.r; have HT5 : Hid (TxB3 w (w3.setCell ⟨w.heap.size + 1 + 1, 3, none⟩ (.slice (some ⟨g1, 0, none⟩) m k1)) (.int .i64 k) (.int .i64 f) (.slice ia n c) (.slice oa m d) (.int .i64 k) (.int .i64 f) (.slice (some ⟨g0, 0, none⟩) n k0) (.slice (some ⟨g1, 0, none⟩) m k1)) := HT4.out.set (i := 3) rfl; clear hn3 hb3))
  obtain ⟨j0, j1, j2, j3⟩ := four_set HT5.out.r (.int .i64 k) (.int .i64 f) (.slice (some ⟨g0, 0, none⟩) n k0) (.slice (some ⟨g1, 0, none⟩) m k1)
  refine bodyPost_ret (v := .agg #[.int .i64 k, .int .i64 f, .slice (some ⟨g0, 0, none⟩) n k0, .slice (some ⟨g1, 0, none⟩) m k1]) (by simp [results, Tryz.results8, go_sem, j0, j1, j2, j3]) rfl ⟨g0, k0, g1, k1, (w2.setCell ⟨w.heap.size + 1 + 1, 2, none⟩ (.slice (some ⟨g0, 0, none⟩) n k0)).heap.size, kv, rfl, ?_, ?_⟩
  · have c0 := (Chg.refl w3 w.heap.size (w.heap.size + 1 + 1 + 1)).setCell (g := w.heap.size + 1 + 1) (t := 3) (by omega) (.slice (some ⟨g1, 0, none⟩) m k1)
    have c1 := c0.setCell (g := w.heap.size + 1) (t := 0) (by omega) (.int .i64 k)
    have c2 := c1.setCell (g := w.heap.size + 1) (t := 1) (by omega) (.int .i64 f)
    have c3 := c2.setCell (g := w.heap.size + 1) (t := 2) (by omega) (.slice (some ⟨g0, 0, none⟩) n k0)
    have c4 := c3.setCell (g := w.heap.size + 1) (t := 3) (by omega) (.slice (some ⟨g1, 0, none⟩) m k1)
    have h5 := HTO.out.chg c4 (.inr (Nat.le_refl _))
    have h6 := HTO.out.lm
    refine ⟨Joins.ownsRow_le h5.r (by omega), h5.rt, ?_, by omega, by simpa using h5.mh⟩
    simpa using h5.o
  · exact below_res4 HT5.out.bel _ _ _ _

set_option maxRecDepth 20000 in
set_option maxHeartbeats 2000000 in
theorem markTx_any (k f : Int) (n m c0 c1 g0 g1 lo mid hi K : Nat) (rs : List (Int × Int)) (os : List Ou) (kv : Nat → Value) (w : World) (hK : K ≤ 10000000000000) (hn : n ≤ 1048576) (hm : m ≤ 1048576) (hl : ∀ j, j < m → (os.getD j O0).l.length ≤ 1048576) (hhi : hi ≤ w.heap.size) (h : TOwn w lo mid hi n m g0 c0 g1 c1 rs os kv) :
    Calls Tryz.prog 14 #[.agg #[.int .i64 k, .int .i64 f, .slice (some ⟨g0, 0, none⟩) n c0, .slice (some ⟨g1, 0, none⟩) m c1], .int .i64 (K : Nat)] w fun e w' => ∃ K2 : Nat, e = .returned (.int .i64 (K2 : Nat)) ∧ K2 ≤ 1000000000000000 ∧ Chg w w' lo hi := by
  have HX : Hid ((w.alloc (.cells #[.int .i64 k, .int .i64 f, .slice (some ⟨g0, 0, none⟩) n c0, .slice (some ⟨g1, 0, none⟩) m c1] 37)).heap[w.heap.size]? = some (.cells #[.int .i64 k, .int .i64 f, .slice (some ⟨g0, 0, none⟩) n c0, .slice (some ⟨g1, 0, none⟩) m c1] 37 (0, 0))) := heap_alloc_new _ _
  have h1 := h.below (below_box (.cells #[.int .i64 k, .int .i64 f, .slice (some ⟨g0, 0, none⟩) n c0, .slice (some ⟨g1, 0, none⟩) m c1] 37))
  have hR := markRf_any n g0 c0 lo K mid _ (w.alloc (.cells #[.int .i64 k, .int .i64 f, .slice (some ⟨g0, 0, none⟩) n c0, .slice (some ⟨g1, 0, none⟩) m c1] 37)) (by omega) hn h1.r ⟨(h1.r.lt g0 rfl).1, h1.rt⟩
  have HO : Hid (OOwn (w.alloc (.cells #[.int .i64 k, .int .i64 f, .slice (some ⟨g0, 0, none⟩) n c0, .slice (some ⟨g1, 0, none⟩) m c1] 37)) mid hi (.slice (some ⟨g1, 0, none⟩) m c1) m (fun j => os.getD j O0) kv) := h1.o
  have HL : Hid (∀ j, j < m → (os.getD j O0).l.length ≤ 1048576) := hl
  have hlm := h.lm
  have hmh := h.mh
  obtain ⟨K1, hK1⟩ : ∃ K1, K1 = K + 2 * n := ⟨_, rfl⟩
  rw [← hK1] at hR
  have hK2 : K1 ≤ 100000000000000 := by omega
  clear h h1 hl hK1
  go_enter Tryz.func14, Tryz.ntmps14
  go_wp2_with (first
    | (go_at_call 34; (with_reducible refine hR.mono ?_); clear hR; rintro e w2 ⟨rfl, hch⟩; have HC2 : Hid (Chg w w2 lo hi) := (Chg.of_below (below_box _) lo hi).trans (hch.wide (Nat.le_refl _) hmh); have HX2 : Hid (w2.heap[w.heap.size]? = some (.cells #[.int .i64 k, .int .i64 f, .slice (some ⟨g0, 0, none⟩) n c0, .slice (some ⟨g1, 0, none⟩) m c1] 37 (0, 0))) := hch.keep HX.out (.inr (by omega)); have hO2 := HO.out.chg hch (.inr (Nat.le_refl _)); have hg1 : mid ≤ g1 := (by obtain ⟨xs, h1, _⟩ := hO2.row; exact (h1.lt g1 rfl).1); have hM := markOs_any m g1 c1 mid hi K1 (fun j => (os.getD j O0).l.length) kv w2 hK2 hm HL.out hg1 hO2.marks; obtain ⟨p0, p1, p2, p3, _⟩ := cells4 HX2.out; clear hch hO2 hg1)
    | (go_at_call 35; (with_reducible refine hM.mono ?_); clear hM; rintro e w3 ⟨Kz, rfl, hKz, hch⟩; have HC3 : Hid (Chg w w3 lo hi) := HC2.out.trans (hch.wide hlm (Nat.le_refl _)); clear hch))
  go_ret
  exact ⟨Kz, rfl, hKz, HC3.out⟩

end Go.Proofs.YtngpegmfhhgkgaaGreatDoor

namespace Go.Proofs.YtngpegmfhhgkgaaGreatDoor
open Go.RowKit Go.Maps Go.WideMaps

/-- A result of coins in block R: its code, its coins in memory of their own. -/
def SRc (w1 wc : World) (R : Nat) (cd : Int) (res : List Co) : Prop :=
  w1.heap.size ≤ R ∧ Below w1.heap.size w1 wc ∧ ∃ va vc, wc.heap[R]? = some (.cells #[.int .i64 cd, .slice va res.length vc] 31 (0, 0)) ∧ CAt wc va res.length res
/-- The result's block, still empty. -/
structure ZAt (W u : World) (R : Nat) : Prop where
  lo : W.heap.size ≤ R
  blk : u.heap[R]? = some (.cells #[.int .i64 0, .slice none 0 0] 31 (0, 0))
theorem hidZ {W u u' : World} {R : Nat} (h : Hid (ZAt W u R)) (hb : Below u.heap.size u u') : Hid (ZAt W u' R) := ⟨h.out.lo, (keepb h.out.blk hb).out⟩
theorem zat_new {W u : World} (h : Hid (Below W.heap.size W u)) : Hid (ZAt W (u.alloc (.cells #[.int .i64 0, .slice none 0 0] 31)) u.heap.size) := ⟨h.out.size, heap_alloc_new _ _⟩
theorem zlt {W u : World} {R : Nat} (h : Hid (ZAt W u R)) : Hid (R < u.heap.size) := lt_of_block h.out.blk
theorem zne {W u : World} {R b : Nat} (hb : b < W.heap.size) (h : Hid (ZAt W u R)) : Hid (b ≠ R) := by have := h.out.lo; show b ≠ R; omega
theorem src_set {w1 uC : World} {R lo : Nat} {cd : Int} {res : List Co} {va : Option Addr} {vc : Nat} (hk : ∀ j, j < res.length → (res.getD j C0).l.length ≤ 1048576) (HOC : Hid (∃ kv, COwn uC lo uC.heap.size (.slice va res.length vc) res.length (fun j => res.getD j C0) kv)) (HCC : Hid (Below w1.heap.size w1 uC)) (HZ : Hid (ZAt w1 uC R)) (hR2 : Hid (R < lo)) :
    Hid (SRc w1 ((uC.setCell ⟨R, 0, none⟩ (.int .i64 cd)).setCell ⟨R, 1, none⟩ (.slice va res.length vc)) R cd res) := by
  have b1 := Joins.block_setCell (i := 0) HZ.out.blk (.int .i64 cd)
  have b2 := Joins.block_setCell (i := 1) b1 (.slice va res.length vc)
  have hR := hR2.out
  obtain ⟨kv, hO⟩ := HOC.out
  have nv : (Value.slice va res.length vc).ownBlock ≠ some R := fun e => by
    obtain ⟨xs, h1, _⟩ := hO.row
    have := (h1.lt _ e).1
    omega
  have nk : ∀ j, j < res.length → (kv j).ownBlock ≠ some R := fun j hj e => by have := ((hO.keys j hj).1.lt _ e).1; omega
  exact ⟨HZ.out.lo, (HCC.out.setCell (p := ⟨R, 0, none⟩) HZ.out.lo _).setCell (p := ⟨R, 1, none⟩) HZ.out.lo _, va, vc, b2, own_at2 ((hO.set2 nv nk 0 (.int .i64 cd)).set2 nv nk 1 (.slice va res.length vc)) rfl hk⟩
theorem src_new {w1 uC : World} {lo : Nat} {cd : Int} {res : List Co} {va : Option Addr} {vc : Nat} (hk : ∀ j, j < res.length → (res.getD j C0).l.length ≤ 1048576) (HOC : Hid (∃ kv, COwn uC lo uC.heap.size (.slice va res.length vc) res.length (fun j => res.getD j C0) kv)) (HCC : Hid (Below w1.heap.size w1 uC)) :
    Hid (SRc w1 (uC.alloc (.cells #[.int .i64 cd, .slice va res.length vc] 31)) uC.heap.size cd res) := by
  obtain ⟨kv, hO⟩ := HOC.out
  exact ⟨HCC.out.size, HCC.out.trans ((below_box _).mono HCC.out.size), va, vc, heap_alloc_new _ _, own_at2 (hO.below (below_box _)) rfl hk⟩
theorem keepU {W : World} {b i R : Nat} {v u u' : Value} (h : W.cell? ⟨b, i, none⟩ = some v) (hne : b ≠ R) : ((W.setCell ⟨R, 0, none⟩ u).setCell ⟨R, 1, none⟩ u').cell? ⟨b, i, none⟩ = some v :=
  (World.cell?_of_block ((Below.heap_setCell _ ⟨R, 1, none⟩ u' b hne).trans (Below.heap_setCell _ ⟨R, 0, none⟩ u b hne))).trans h
theorem keepU4 {W : World} {b R : Nat} {v0 v1 v2 v3 u u' : Value} (h : W.cell? ⟨b, 0, none⟩ = some v0 ∧ W.cell? ⟨b, 1, none⟩ = some v1 ∧ W.cell? ⟨b, 2, none⟩ = some v2 ∧ W.cell? ⟨b, 3, none⟩ = some v3) (hne : b ≠ R) :
    ((W.setCell ⟨R, 0, none⟩ u).setCell ⟨R, 1, none⟩ u').cell? ⟨b, 0, none⟩ = some v0 ∧ ((W.setCell ⟨R, 0, none⟩ u).setCell ⟨R, 1, none⟩ u').cell? ⟨b, 1, none⟩ = some v1 ∧ ((W.setCell ⟨R, 0, none⟩ u).setCell ⟨R, 1, none⟩ u').cell? ⟨b, 2, none⟩ = some v2 ∧ ((W.setCell ⟨R, 0, none⟩ u).setCell ⟨R, 1, none⟩ u').cell? ⟨b, 3, none⟩ = some v3 :=
  ⟨keepU h.1 hne, keepU h.2.1 hne, keepU h.2.2.1 hne, keepU h.2.2.2 hne⟩
theorem cellsU {B : Nat} {w w' : World} {b : Nat} {v0 v1 v2 v3 : Value} (hb : Below B w w') (hl : b < B) (h : w.cell? ⟨b, 0, none⟩ = some v0 ∧ w.cell? ⟨b, 1, none⟩ = some v1 ∧ w.cell? ⟨b, 2, none⟩ = some v2 ∧ w.cell? ⟨b, 3, none⟩ = some v3) :
    w'.cell? ⟨b, 0, none⟩ = some v0 ∧ w'.cell? ⟨b, 1, none⟩ = some v1 ∧ w'.cell? ⟨b, 2, none⟩ = some v2 ∧ w'.cell? ⟨b, 3, none⟩ = some v3 :=
  ⟨(hb.cell (p := ⟨b, 0, none⟩) hl).trans h.1, (hb.cell (p := ⟨b, 1, none⟩) hl).trans h.2.1, (hb.cell (p := ⟨b, 2, none⟩) hl).trans h.2.2.1, (hb.cell (p := ⟨b, 3, none⟩) hl).trans h.2.2.2⟩
theorem keepF {w w' : World} {b : Nat} {v0 v1 v2 v3 : Value} (hl : b < w.heap.size) (hb : Below w.heap.size w w') (h : w.cell? ⟨b, 0, none⟩ = some v0 ∧ w.cell? ⟨b, 1, none⟩ = some v1 ∧ w.cell? ⟨b, 2, none⟩ = some v2 ∧ w.cell? ⟨b, 3, none⟩ = some v3) :
    w'.cell? ⟨b, 0, none⟩ = some v0 ∧ w'.cell? ⟨b, 1, none⟩ = some v1 ∧ w'.cell? ⟨b, 2, none⟩ = some v2 ∧ w'.cell? ⟨b, 3, none⟩ = some v3 := cellsU hb hl h

/-- A copy of a transaction that can be read; copies of coins; all that UndoTx is given. -/
def TCU (W : World) (n2 m2 g0 c0 g1 : Nat) (rs : List (Int × Int)) (os : List Ou) : Prop := TxAt W (some ⟨g0, 0, none⟩) n2 (some ⟨g1, 0, none⟩) m2 rs os ∧ n2 ≤ c0 ∧ c0 ≤ maxLen
theorem hidTU {W W' : World} {n2 m2 g0 c0 g1 : Nat} {rs : List (Int × Int)} {os : List Ou} (h : Hid (TCU W n2 m2 g0 c0 g1 rs os)) (hb : Below W.heap.size W W') : Hid (TCU W' n2 m2 g0 c0 g1 rs os) := ⟨h.out.1.below hb (Nat.le_refl _), h.out.2⟩
def PU (u : World) (g n cc : Nat) (cs : List Co) : Prop := ∃ lo hi kv, COwn u lo hi (.slice (some ⟨g, 0, none⟩) n cc) n (fun j => cs.getD j C0) kv ∧ lo ≤ hi ∧ hi ≤ u.heap.size
theorem hidPU {u u' : World} {g n cc : Nat} {cs : List Co} (h : Hid (PU u g n cc cs)) (hb : Below u.heap.size u u') : Hid (PU u' g n cc cs) := by
  obtain ⟨lo, hi, kv, h1, h2, h3⟩ := h.out
  exact ⟨lo, hi, kv, h1.below hb, h2, Nat.le_trans h3 hb.size⟩
theorem mkU1 {w : World} {f : Nat} {v : Value} {K K1 : Nat} {Q : World → Prop} (hK : K = K1) (h : Calls Tryz.prog f #[v, .int .i64 ((1 : Nat) : Int)] w fun e w' => e = .returned (.int .i64 (K : Nat)) ∧ Q w') : Calls Tryz.prog f #[v, .int .i64 1] w fun e w' => e = .returned (.int .i64 (K1 : Nat)) ∧ Q w' := by subst hK; exact h

end Go.Proofs.YtngpegmfhhgkgaaGreatDoor
