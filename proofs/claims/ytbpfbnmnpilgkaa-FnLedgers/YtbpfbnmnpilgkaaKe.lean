/- The law on ledgers answers true, whatever is drawn, and writes nothing that was there. -/
import Derived.Test.YtbpfbnmnpilgkaaKc
import Derived.Test.YtbpfbnmnpilgkaaKd
import Derived.Test.YtbpfbnmnpilgkaaNtO
import Derived.Lib.QuietBelow
namespace Go.Proofs.Ytbpfbnmnpilgkaa
open Go.RowKit Go.Maps Go.WideMaps Go.Sort

theorem lwBigK_any (cn cc : Nat) (ca : Option Addr) (w : World) : Calls Try.prog 4 #[.slice ca cn cc] w fun e w' => e = .returned (.bool (decide ((1048576 : Int) < (cn : Int)))) ∧ w' = w := by
  go_enter Try.func4, Try.ntmps4
  go_wp2
  go_ret
  exact ⟨rfl, rfl⟩
theorem fieldL0 (a b c d : Value) (W : World) : (Instr.field 31 (.agg #[a, b, c, d]) 0).run Try.prog W = .ok a W := by kernel_rfl
theorem fieldI1 (a b : Value) (W : World) : (Instr.field 34 (.agg #[a, b]) 1).run Try.prog W = .ok b W := by kernel_rfl
theorem fieldT1 (a b : Value) (W : World) : (Instr.field 37 (.agg #[a, b]) 1).run Try.prog W = .ok b W := by kernel_rfl
theorem tgo_sizes : ∀ (l seen : List ByteArray), tgo seen l = 0 → ∀ s ∈ l, s.size ≤ 300
  | [], _, _, s, h => by cases h
  | y :: r, seen, h0, s, h => by
    rw [tgo] at h0
    split at h0
    · cases h0
    · rename_i h1
      split at h0
      · cases h0
      · rcases List.mem_cons.1 h with rfl | h
        · omega
        · exact tgo_sizes r _ h0 s h
theorem fine_of {s2 : List ByteArray} {gs : List (Int × Int)} {ss : List ByteArray} (h : flt s2 gs = 0) (hf : Fine ss gs) : Fine s2 gs := by
  refine ⟨fun j => ?_, hf.g⟩
  unfold maxLen
  by_cases hj : j < s2.length
  · have := tgo_sizes s2 [] (flt_parts h).2.2.1 s2[j] (List.getElem_mem hj)
    simp [List.getD, hj]
    omega
  · simp [List.getD, hj, E0]
theorem led_row {V : World} {b1 b2 n tc m gc : Nat} {ta ga : Option Addr} {ss : List ByteArray} {gs : List (Int × Int)} (hs : V.ownsRow b1 9 1 (.slice ta n tc) n (ss.map Value.string)) (hg : V.ownsRow b2 64 2 (.slice ga m gc) m (gcells gs)) : LedAt V ta n ga m ss gs := ⟨satO hs, gatO hg⟩

set_option maxRecDepth 20000 in
set_option maxHeartbeats 16000000 in
theorem lawLedgers (cn cc : Nat) (ca : Option Addr) (l0 : List Int) (w : World) (hB : BAt w ca cn l0) :
    Calls Try.prog 3 #[.slice ca cn cc] w fun e w' => e = .returned (.bool true) ∧ Below w.heap.size w w' := by
  have hbig := lwBigK_any cn cc ca w
  have hmix : Try.prog.follows .mixedOrders = true := by kernel_rfl
  by_cases hcn : 1048576 < cn
  · have hd : decide ((1048576 : Int) < (cn : Int)) = true := decide_eq_true (by omega)
    rw [hd] at hbig
    clear hB hd
    go_enter Try.func3, Try.ntmps3
    go_wp2_with (go_at_call 4; (with_reducible refine hbig.mono ?_); clear hbig; rintro e w1 ⟨rfl, hw⟩; have hw2 := hw.symm; subst hw2)
    go_ret
    exact ⟨rfl, Below.refl _ _⟩
  have hd : decide ((1048576 : Int) < (cn : Int)) = false := decide_eq_false (by omega)
  rw [hd] at hbig
  have hdr := drawNote_any cn cc ca l0 w (by omega) hB
  clear hB hd
  go_enter Try.func3, Try.ntmps3
  go_wp2_with (first
    | (go_at_call 4; (with_reducible refine hbig.mono ?_); clear hbig; rintro e w1 ⟨rfl, hw⟩; have hw2 := hw.symm; subst hw2)
    | (go_at_call 5; (with_reducible refine hdr.mono ?_); clear hdr; rintro e v1 ⟨ta, n, tc, ga, m, gc, ss, gs, x, rfl, HO1, HG1, HF1, hn61, hm121, hx301, HB1v⟩; have HB1 : Hid (Below w.heap.size w (v1.alloc (.cells #[.slice ta n tc, .slice ga m gc] 27))) := HB1v.out.trans ((below_box _).mono HB1v.out.size); have HX1 : Hid ((v1.alloc (.cells #[.slice ta n tc, .slice ga m gc] 27)).heap[v1.heap.size]? = some (.cells #[.slice ta n tc, .slice ga m gc] 27 (0, 0))) := heap_alloc_new _ _; have HL1 : Hid (LedAt (v1.alloc (.cells #[.slice ta n tc, .slice ga m gc] 27)) ta n ga m ss gs) := (led_row HO1.out HG1.out).below (below_box _) (Nat.le_refl _); obtain ⟨⟨c, i, s2, g2⟩, hr⟩ : ∃ r, r = noteR ss gs x := ⟨_, rfl⟩; have HRR : Hid (noteR ss gs x = ⟨c, i, s2, g2⟩) := hr.symm; have hnt := iNoteText_any n m tc gc ta ga ss gs x (v1.alloc (.cells #[.slice ta n tc, .slice ga m gc] 27)) (by unfold maxLen; omega) HF1.out HL1.out; rw [← hr] at hnt; clear hr)
    | (go_at_call 6; (with_reducible refine hnt.mono ?_); clear hnt; rintro e v2 ⟨hb2, a0, c0, a1, c1, rfl, ho2, hg2⟩; have hbx := hb2.trans ((below_box (.cells #[.int .i64 c, .int .i64 i, .slice a0 s2.length c0, .slice a1 g2.length c1] 31)).mono hb2.size); have HQ2 : Hid (Below (v1.alloc (.cells #[.slice ta n tc, .slice ga m gc] 27)).heap.size (v1.alloc (.cells #[.slice ta n tc, .slice ga m gc] 27)) (v2.alloc (.cells #[.int .i64 c, .int .i64 i, .slice a0 s2.length c0, .slice a1 g2.length c1] 31))) := hbx; have HB2 : Hid (Below w.heap.size w (v2.alloc (.cells #[.int .i64 c, .int .i64 i, .slice a0 s2.length c0, .slice a1 g2.length c1] 31))) := HB1.out.trans (hbx.mono HB1.out.size); have HX2 : Hid ((v2.alloc (.cells #[.int .i64 c, .int .i64 i, .slice a0 s2.length c0, .slice a1 g2.length c1] 31)).heap[v2.heap.size]? = some (.cells #[.int .i64 c, .int .i64 i, .slice a0 s2.length c0, .slice a1 g2.length c1] 31 (0, 0))) := heap_alloc_new _ _; have HL2 : Hid (LedAt (v2.alloc (.cells #[.int .i64 c, .int .i64 i, .slice a0 s2.length c0, .slice a1 g2.length c1] 31)) a0 s2.length a1 g2.length s2 g2) := (led_row ho2 hg2).below (below_box _) (Nat.le_refl _); clear hb2 ho2 hg2 hbx))
  · have X1 := keepb HX1.out HQ2.out
    obtain ⟨p0, p1⟩ := cells2 X1.out
    obtain ⟨q0, q1, q2, q3, _⟩ := cells4 HX2.out
    have hl1 := lt_of_block X1.out
    have hl2 := lt_of_block HX2.out
    have hfl := fieldL0
    have hsn : ∀ j, Calls Try.prog 7 #[.agg #[.slice ta n tc, .slice ga m gc], .string x] ((v2.alloc (.cells #[.int .i64 c, .int .i64 i, .slice a0 s2.length c0, .slice a1 g2.length c1] 31)).drewN j) fun e w' => ∃ b0 d0 b1 d1, e = .returned (.agg #[.int .i64 c, .int .i64 i, .slice b0 s2.length d0, .slice b1 g2.length d1]) ∧ Below (v2.alloc (.cells #[.int .i64 c, .int .i64 i, .slice a0 s2.length c0, .slice a1 g2.length c1] 31)).heap.size (v2.alloc (.cells #[.int .i64 c, .int .i64 i, .slice a0 s2.length c0, .slice a1 g2.length c1] 31)) w' := fun j => by
      have hb := Joins.below_draws (v2.alloc (.cells #[.int .i64 c, .int .i64 i, .slice a0 s2.length c0, .slice a1 g2.length c1] 31)).heap.size (v2.alloc (.cells #[.int .i64 c, .int .i64 i, .slice a0 s2.length c0, .slice a1 g2.length c1] 31)) j
      obtain ⟨t1, t2, t3⟩ := row_caps HO1.out
      obtain ⟨t4, t5, t6⟩ := row_caps HG1.out
      have := sNoteText_opt n m tc gc ta ga ss gs x ((v2.alloc (.cells #[.int .i64 c, .int .i64 i, .slice a0 s2.length c0, .slice a1 g2.length c1] 31)).drewN j) t1 t4 t2 t5 t3 t6 HF1.out ((HL1.out.below HQ2.out (Nat.le_refl _)).below hb (Nat.le_refl _))
      rw [HRR.out] at this
      exact this.mono fun _ _ ⟨h1, b0, d0, b1, d1, e, _, _⟩ => ⟨b0, d0, b1, d1, e, hb.trans (h1.mono hb.size)⟩
    go_region_held3 (fun w' => w'.cell? ⟨v1.heap.size, 0, none⟩ = some (.slice ta n tc) ∧ w'.cell? ⟨v1.heap.size, 1, none⟩ = some (.slice ga m gc) ∧ w'.cell? ⟨v2.heap.size, 0, none⟩ = some (.int .i64 c)) (go_keep)
      (first
        | (go_at_call 7; refine (hsn 1).mono ?_; rintro e u1 ⟨b0, d0, b1, d1, rfl, hb⟩; have z0 := (hb.cell (p := ⟨v1.heap.size, 0, none⟩) hl1).trans p0; have z1 := (hb.cell (p := ⟨v1.heap.size, 1, none⟩) hl1).trans p1; have z2 := (hb.cell (p := ⟨v2.heap.size, 0, none⟩) hl2).trans q0))
    go_wp2
    go_ret
    exact ⟨rfl, HB2.out.trans (hb.mono HB2.out.size)⟩
  have hc0 : c = 0 := by have hh := ‹(c != 0) = false›; simpa using hh
  obtain ⟨k, s3, e1, HNT⟩ := noted_of (ss := ss) (gs := gs) (x := x) (by rw [HRR.out]; exact hc0)
  rw [HRR.out] at e1
  obtain ⟨rfl, rfl, rfl, rfl⟩ : c = 0 ∧ i = (k : Int) ∧ s2 = s3 ∧ g2 = gs := by simpa using e1
  have HNo : Hid (Noted ss g2 x k s2) := HNT
  have HF2 : Hid (Fine s2 g2) := fine_of HNT.ok HF1.out
  obtain ⟨U, hU⟩ : ∃ U, U = (v2.alloc (.cells #[.int .i64 0, .int .i64 (k : Int), .slice a0 s2.length c0, .slice a1 g2.length c1] 31)) := ⟨_, rfl⟩
  rw [← hU] at HQ2 HB2 HX2 HL2 ⊢
  have X1 := keepb HX1.out HQ2.out
  have HLs : Hid (SAt U ta n ss) := (HL1.out.below HQ2.out (Nat.le_refl _)).s
  have HNl : Hid (ss.length = n) := HLs.out.1
  have hfi := fieldI1
  have hft := fieldT1
  clear hU e1 HNT hc0 HRR HQ2 HL1
  go_wp2
  go_loopw [6] (fun i wr => ∃ j : Nat, j ≤ n ∧ i = .int .i64 j ∧ Hid (Below U.heap.size U wr)) (fun i _ => n - (intOf i).toNat)
  case atStart => exact ⟨0, Nat.zero_le _, rfl, Below.refl _ _⟩
  case round =>
    obtain ⟨j, hj, rfl, HW⟩ := hrel
    obtain ⟨p0, p1⟩ := cells2 (keepb X1.out HW.out).out
    obtain ⟨q0, q1, q2, q3, _⟩ := cells4 (keepb HX2.out HW.out).out
    by_cases hlt : j < n
    · rcases HLs.out.2 with h0 | ⟨b, off, e0, lb, d0⟩
      · omega
      subst e0
      obtain ⟨sj, hsj⟩ : ∃ s, s = ss.getD j E0 := ⟨_, rfl⟩
      have x0 := (HW.out.cell (p := ⟨b, off + j, none⟩) lb).trans (d0 j hlt)
      rw [← hsj] at x0
      obtain ⟨ic, hic⟩ : ∃ z, z = (idR s2 g2 sj).1 := ⟨_, rfl⟩
      obtain ⟨nu, hnu⟩ : ∃ z : Nat, z = num s2 sj := ⟨_, rfl⟩
      have hsz : sj.size ≤ maxLen := by rw [hsj]; exact HF1.out.s j
      have cI : ∀ dd os, Calls Try.prog 8 #[.agg #[.slice a0 s2.length c0, .slice a1 g2.length c1], .string sj] (grow (redrawn wr dd) os) fun e w'' => e = .returned (.agg #[.int .i64 ic, .int .i64 (nu : Int)]) ∧ ∃ p : Regrown, w'' = grow (redrawn wr p.d) p.os := fun dd os => Calls.regrown_of (by
        have hb := below_regrown wr dd os
        have := iIdOf_any s2.length g2.length c0 c1 a0 a1 s2 g2 sj (grow (redrawn wr dd) os) hsz HF2.out ((HL2.out.below HW.out (Nat.le_refl _)).below hb (Nat.le_refl _))
        rw [idR_snd HNo.out.ok, ← hic, ← hnu] at this
        exact this)
      have cT : ∀ dd os, Calls Try.prog 9 #[.agg #[.slice a0 s2.length c0, .slice a1 g2.length c1], .int .i64 ((j : Int) + 1)] (grow (redrawn wr dd) os) fun e w'' => e = .returned (.agg #[.int .i64 0, .string sj]) ∧ ∃ p : Regrown, w'' = grow (redrawn wr p.d) p.os := fun dd os => Calls.regrown_of (by
        have hb := below_regrown wr dd os
        have := iTextOf_any s2.length g2.length c0 c1 a0 a1 s2 g2 ((j : Int) + 1) (grow (redrawn wr dd) os) HF2.out ((HL2.out.below HW.out (Nat.le_refl _)).below hb (Nat.le_refl _))
        rw [HNo.out.text (by rw [HNl.out]; exact hlt), ← hsj] at this
        exact this)
      have hown := HNo.out.own (y := sj)
      rw [← hnu] at hown
      have y0 := cell_regrown p0
      have y1 := cell_regrown p1
      have y3 := cell_regrown q1
      have y4 := cell_regrown q2
      have y5 := cell_regrown q3
      have y6 := cell_regrown x0
      have hwj := IntWalk.i64_in ((j : Int) + 1) (by omega)
      have hki : (j : Int) < (n : Int) := by omega
      have hss := str_yes (s := sj) (x := sj) rfl
      clear d0 hsj hic hnu
      by_cases hxe : sj = x
      · have hnk : nu = k := of_decide_eq_true (by rw [hown]; exact decide_eq_true hxe)
        subst hnk
        clear hown
        subst hxe
        go_wp2
        clear p0 p1 q0 q1 q2 q3 x0
        refine wp_region_quiet_below hmix (by kernel_rfl) ?_
        repeat (go_big_quiet_step (first | exact cI _ _ | exact cT _ _))
        refine wpQuiet_nil ?_
        intro _ hw'
        obtain ⟨⟨dq, osq⟩, hw''⟩ := hw'
        subst hw''
        have HW2 : Hid (Below U.heap.size U (grow (redrawn wr dq) osq)) := HW.out.trans ((below_regrown wr dq osq).mono HW.out.size)
        go_wp2
        go_roundw
        case rel => exact ⟨j + 1, by omega, by go_num, HW2⟩
        case measure => simp [intOf]; omega
      · have hnk : ¬ nu = k := of_decide_eq_false (by rw [hown]; exact decide_eq_false hxe)
        have hnb : ((nu : Int) == (k : Int)) = false := beq_eq_false_iff_ne.2 (by omega)
        have hsx := str_no hxe
        clear hown hnk hxe
        go_wp2
        clear p0 p1 q0 q1 q2 q3 x0
        refine wp_region_quiet_below hmix (by kernel_rfl) ?_
        repeat (go_big_quiet_step (first | exact cI _ _ | exact cT _ _))
        refine wpQuiet_nil ?_
        intro _ hw'
        obtain ⟨⟨dq, osq⟩, hw''⟩ := hw'
        subst hw''
        have HW2 : Hid (Below U.heap.size U (grow (redrawn wr dq) osq)) := HW.out.trans ((below_regrown wr dq osq).mono HW.out.size)
        go_wp2
        go_roundw
        case rel => exact ⟨j + 1, by omega, by go_num, HW2⟩
        case measure => simp [intOf]; omega
    · have hki : ¬ (j : Int) < (n : Int) := by omega
      have hnt := iNoteText_any s2.length g2.length c0 c1 a0 a1 s2 g2 x wr (by unfold maxLen; omega) HF2.out (HL2.out.below HW.out (Nat.le_refl _))
      rw [HNo.out.again] at hnt
      go_wp2_with (go_at_call 6; (with_reducible refine hnt.mono ?_); clear hnt; rintro e v4 ⟨hb4, a4, c4, a5, c5, rfl, ho4, hg4⟩; have HQ4 : Hid (Below wr.heap.size wr (v4.alloc (.cells #[.int .i64 0, .int .i64 (k : Int), .slice a4 s2.length c4, .slice a5 g2.length c5] 31))) := hb4.trans ((below_box _).mono hb4.size); have HX4 : Hid ((v4.alloc (.cells #[.int .i64 0, .int .i64 (k : Int), .slice a4 s2.length c4, .slice a5 g2.length c5] 31)).heap[v4.heap.size]? = some (.cells #[.int .i64 0, .int .i64 (k : Int), .slice a4 s2.length c4, .slice a5 g2.length c5] 31 (0, 0))) := heap_alloc_new _ _; clear hb4 ho4 hg4)
      obtain ⟨Z, hZ⟩ : ∃ Z, Z = (v4.alloc (.cells #[.int .i64 0, .int .i64 (k : Int), .slice a4 s2.length c4, .slice a5 g2.length c5] 31)) := ⟨_, rfl⟩
      rw [← hZ] at HQ4 HX4 ⊢
      have HWZ : Hid (Below U.heap.size U Z) := HW.out.trans (HQ4.out.mono HW.out.size)
      clear hZ p0 p1 q0 q1 q2 q3
      obtain ⟨q0, q1, q2, q3, _⟩ := cells4 (keepb HX2.out HWZ.out).out
      obtain ⟨r0, r1, r2, r3, _⟩ := cells4 HX4.out
      have hk1 : 0 < k := HNo.out.pos
      have hss := str_yes (s := x) (x := x) rfl
      have cF : ∀ dd os, Calls Try.prog 10 #[.agg #[.slice a0 s2.length c0, .slice a1 g2.length c1]] (grow (redrawn Z dd) os) fun e w'' => e = .returned (.int .i64 0) ∧ ∃ p : Regrown, w'' = grow (redrawn Z p.d) p.os := fun dd os => Calls.regrown_of (by
        have hb := below_regrown Z dd os
        have := iLedgerFault_any s2.length g2.length c0 c1 a0 a1 s2 g2 (grow (redrawn Z dd) os) HF2.out ((HL2.out.below HWZ.out (Nat.le_refl _)).below hb (Nat.le_refl _))
        rw [HNo.out.ok] at this
        exact this)
      have cT : ∀ dd os, Calls Try.prog 9 #[.agg #[.slice a0 s2.length c0, .slice a1 g2.length c1], .int .i64 (k : Int)] (grow (redrawn Z dd) os) fun e w'' => e = .returned (.agg #[.int .i64 0, .string x]) ∧ ∃ p : Regrown, w'' = grow (redrawn Z p.d) p.os := fun dd os => Calls.regrown_of (by
        have hb := below_regrown Z dd os
        have := iTextOf_any s2.length g2.length c0 c1 a0 a1 s2 g2 (k : Int) (grow (redrawn Z dd) os) HF2.out ((HL2.out.below HWZ.out (Nat.le_refl _)).below hb (Nat.le_refl _))
        rw [HNo.out.mine] at this
        exact this)
      have cI : ∀ dd os, Calls Try.prog 8 #[.agg #[.slice a0 s2.length c0, .slice a1 g2.length c1], .string x] (grow (redrawn Z dd) os) fun e w'' => e = .returned (.agg #[.int .i64 0, .int .i64 (k : Int)]) ∧ ∃ p : Regrown, w'' = grow (redrawn Z p.d) p.os := fun dd os => Calls.regrown_of (by
        have hb := below_regrown Z dd os
        have := iIdOf_any s2.length g2.length c0 c1 a0 a1 s2 g2 x (grow (redrawn Z dd) os) (by unfold maxLen; omega) HF2.out ((HL2.out.below HWZ.out (Nat.le_refl _)).below hb (Nat.le_refl _))
        rw [HNo.out.id] at this
        exact this)
      have y1 := cell_regrown q1
      have y2 := cell_regrown q2
      have y3 := cell_regrown q3
      have y4 := cell_regrown r1
      have y5 := cell_regrown r2
      have y6 := cell_regrown r3
      clear q0 q1 q2 q3 r0 r1 r2 r3
      refine wp_region_quiet_below hmix (by kernel_rfl) ?_
      repeat (go_big_quiet_step (first | exact cF _ _ | exact cT _ _ | exact cI _ _))
      refine wpQuiet_nil ?_
      intro _ hw'
      obtain ⟨⟨dq, osq⟩, hw''⟩ := hw'
      subst hw''
      have HF : Hid (Below w.heap.size w (grow (redrawn Z dq) osq)) := HB2.out.trans ((HWZ.out.trans ((below_regrown Z dq osq).mono HWZ.out.size)).mono HB2.out.size)
      go_wp2
      go_ret
      exact ⟨rfl, HF.out⟩

end Go.Proofs.Ytbpfbnmnpilgkaa
