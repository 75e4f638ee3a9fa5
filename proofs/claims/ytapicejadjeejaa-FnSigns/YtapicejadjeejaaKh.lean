/- The law on signatures answers true, whatever is drawn, and writes nothing that was there. -/
import Derived.Test.YtapicejadjeejaaKf
import Derived.Test.YtapicejadjeejaaKg
import Derived.Test.YtapicejadjeejaaKe
import Derived.Test.YtapicejadjeejaaSgO
import Derived.Lib.QuietBelow
namespace Go.Proofs.Ytapicejadjeejaa
open Go.RowKit Go.Shelf Go.Maps Go.WideMaps Go.Sort

theorem lwHasK_any (a : Option Addr) (n cap : Nat) (l : List Int) (v : Int) (w : World) (hl : n ≤ maxLen) (hs : IAt w a n l) :
    Calls Try.prog 9 #[.slice a n cap, .int .i64 v] w fun e w' => e = .returned (.bool (hasK l v)) ∧ w' = w := by
  unfold maxLen at hl
  have HN : Hid (l.length = n) := hs.1
  have HSS : Hid (IAt w a n l) := hs
  obtain ⟨r, hr⟩ : ∃ r, r = hasK l v := ⟨_, rfl⟩
  rw [← hr]
  have HR : Hid (r = hasK l v) := hr
  clear hs hr
  go_enter Try.func9, Try.ntmps9
  go_wp2
  go_loopw [5] (fun i wr => ∃ k : Nat, k ≤ n ∧ i = .int .i64 k ∧ Hid (v ∉ l.take k) ∧ wr = w) (fun i _ => n - (intOf i).toNat)
  case atStart => exact ⟨0, Nat.zero_le _, rfl, by show v ∉ _; simp, rfl⟩
  case round =>
    obtain ⟨k, hk, rfl, HJ, hw⟩ := hrel
    have hw2 := hw.symm
    subst hw2
    by_cases hlt : k < n
    · rcases HSS.out.2 with h0 | ⟨b, off, ha, hb, hc⟩
      · omega
      subst ha
      obtain ⟨s, hsx⟩ : ∃ s, s = l.getD k 0 := ⟨_, rfl⟩
      have hcx := hc k hlt
      rw [← hsx] at hcx
      have HS : Hid (s = l.getD k 0) := hsx
      clear hc hsx
      have hki : (k : Int) < (n : Int) := by omega
      by_cases hv : s = v
      · obtain rfl : r = true := by rw [HR.out]; exact hasK_yes (mem_hit HN.out hlt HS.out hv)
        have e : (s == v) = true := by simp [hv]
        have H1 : Hid (s = v) := hv
        clear hv
        go_wp2
        go_ret
        exact ⟨rfl, rfl⟩
      · have e : (s == v) = false := by simp [hv]
        have H1 : Hid (¬ s = v) := hv
        clear hv
        go_wp2
        go_roundw
        case rel => exact ⟨k + 1, by omega, by go_num, mem_take_next HN.out hlt HS.out HJ.out H1.out, (by first | rfl | trivial)⟩
        case measure => simp [intOf]; omega
    · obtain rfl : r = false := by rw [HR.out]; exact hasK_no (by have := HJ.out; rwa [take_all HN.out hlt] at this)
      go_wp2
      go_ret
      exact ⟨rfl, rfl⟩

theorem fieldL2 (a b c d : Value) (W : World) : (Instr.field 31 (.agg #[a, b, c, d]) 2).run Try.prog W = .ok (.agg #[c, d]) W := by kernel_rfl
theorem fieldG1 (a b : Value) (W : World) : (Instr.field 27 (.agg #[a, b]) 1).run Try.prog W = .ok b W := by kernel_rfl
theorem fieldN1 (a b : Value) (W : World) : (Instr.field 37 (.agg #[a, b]) 1).run Try.prog W = .ok b W := by kernel_rfl
theorem hasR_two {ss : List ByteArray} {gs g2 : List (Int × Int)} {a b : Int} (H : Signd ss gs a b g2) (k i : Int) : hasR ss g2 k i = (hasR ss gs k i || (decide (k = a) && decide (i = b))) := by
  rw [hasR_ok H.ok.symm, hasR_ok H.old.symm, H.mem]

set_option maxRecDepth 20000 in
set_option maxHeartbeats 16000000 in
theorem lawSigns (cn cc : Nat) (ca : Option Addr) (l0 : List Int) (w : World) (hB : BAt w ca cn l0) :
    Calls Try.prog 3 #[.slice ca cn cc] w fun e w' => e = .returned (.bool true) ∧ Below w.heap.size w w' := by
  have hbig := lwBigK_any cn cc ca w
  have hmix : Try.prog.follows .mixedOrders = true := by kernel_rfl
  by_cases hcn : 1048576 < cn
  · have hd : decide ((1048576 : Int) < (cn : Int)) = true := decide_eq_true (by omega)
    rw [hd] at hbig
    clear hB hd
    go_enter Try.func3, Try.ntmps3
    go_wp2_with (go_at_call 4; (with_reducible refine hbig.mono ?_); clear hbig; rintro e w1 ⟨rfl, hw⟩; have hw2 := hw.symm; subst hw2)
    go_ret
    exact ⟨rfl, Below.refl _ _⟩
  have hd : decide ((1048576 : Int) < (cn : Int)) = false := decide_eq_false (by omega)
  rw [hd] at hbig
  have hdr := drawSign_any cn cc ca l0 w (by omega) hB
  clear hB hd
  go_enter Try.func3, Try.ntmps3
  go_wp2_with (first
    | (go_at_call 4; (with_reducible refine hbig.mono ?_); clear hbig; rintro e w1 ⟨rfl, hw⟩; have hw2 := hw.symm; subst hw2)
    | (go_at_call 5; (with_reducible refine hdr.mono ?_); clear hdr; rintro e v1 ⟨ta, n, tc, ga, m, gc, ss, gs, a, b, rfl, HO1, HG1, HF1, hn61, hm121, ha, hb, HB1v⟩; have HB1 : Hid (Below w.heap.size w (v1.alloc (.cells #[.slice ta n tc, .slice ga m gc] 27))) := HB1v.out.trans ((below_box _).mono HB1v.out.size); have HX1 : Hid ((v1.alloc (.cells #[.slice ta n tc, .slice ga m gc] 27)).heap[v1.heap.size]? = some (.cells #[.slice ta n tc, .slice ga m gc] 27 (0, 0))) := heap_alloc_new _ _; have HL1 : Hid (LedAt (v1.alloc (.cells #[.slice ta n tc, .slice ga m gc] 27)) ta n ga m ss gs) := (led_row HO1.out HG1.out).below (below_box _) (Nat.le_refl _); have wa : (Lit.int .i64 a).wf = true := wf_small ha.1 (by omega); have wb : (Lit.int .i64 b).wf = true := wf_small hb.1 (by omega); obtain ⟨⟨c, i, s2, g2⟩, hr⟩ : ∃ r, r = signR ss gs a b := ⟨_, rfl⟩; have HRR : Hid (signR ss gs a b = ⟨c, i, s2, g2⟩) := hr.symm; have hnt := iSignId_any n m tc gc ta ga ss gs a b (v1.alloc (.cells #[.slice ta n tc, .slice ga m gc] 27)) wa wb HF1.out HL1.out; rw [← hr] at hnt; clear hr)
    | (go_at_call 6; (with_reducible refine hnt.mono ?_); clear hnt; rintro e v2 ⟨hb2, a0, c0, a1, c1, rfl, ho2, hg2⟩; have hbx := hb2.trans ((below_box (.cells #[.int .i64 c, .int .i64 i, .slice a0 s2.length c0, .slice a1 g2.length c1] 31)).mono hb2.size); have HQ2 : Hid (Below (v1.alloc (.cells #[.slice ta n tc, .slice ga m gc] 27)).heap.size (v1.alloc (.cells #[.slice ta n tc, .slice ga m gc] 27)) (v2.alloc (.cells #[.int .i64 c, .int .i64 i, .slice a0 s2.length c0, .slice a1 g2.length c1] 31))) := hbx; have HB2 : Hid (Below w.heap.size w (v2.alloc (.cells #[.int .i64 c, .int .i64 i, .slice a0 s2.length c0, .slice a1 g2.length c1] 31))) := HB1.out.trans (hbx.mono HB1.out.size); have HX2 : Hid ((v2.alloc (.cells #[.int .i64 c, .int .i64 i, .slice a0 s2.length c0, .slice a1 g2.length c1] 31)).heap[v2.heap.size]? = some (.cells #[.int .i64 c, .int .i64 i, .slice a0 s2.length c0, .slice a1 g2.length c1] 31 (0, 0))) := heap_alloc_new _ _; have HL2 : Hid (LedAt (v2.alloc (.cells #[.int .i64 c, .int .i64 i, .slice a0 s2.length c0, .slice a1 g2.length c1] 31)) a0 s2.length a1 g2.length s2 g2) := (led_row ho2 hg2).below (below_box _) (Nat.le_refl _); clear hb2 ho2 hg2 hbx))
  · have hc0 : c ≠ 0 := by have hh := ‹(c != 0) = true›; simpa using hh
    have hno : hasR ss gs a b = false := signR_not (by rw [HRR.out]; exact hc0)
    have X1 := keepb HX1.out HQ2.out
    obtain ⟨p0, p1⟩ := cells2 X1.out
    obtain ⟨q0, q1, q2, q3, _⟩ := cells4 HX2.out
    have hl1 := lt_of_block X1.out
    have hl2 := lt_of_block HX2.out
    have hfl := fieldL0
    have HL1u : Hid (LedAt (v2.alloc (.cells #[.int .i64 c, .int .i64 i, .slice a0 s2.length c0, .slice a1 g2.length c1] 31)) ta n ga m ss gs) := HL1.out.below HQ2.out (Nat.le_refl _)
    have hsn : ∀ j, Calls Try.prog 7 #[.agg #[.slice ta n tc, .slice ga m gc], .int .i64 a, .int .i64 b] ((v2.alloc (.cells #[.int .i64 c, .int .i64 i, .slice a0 s2.length c0, .slice a1 g2.length c1] 31)).drewN j) fun e w' => ∃ b0 d0 b1 d1, e = .returned (.agg #[.int .i64 c, .int .i64 i, .slice b0 s2.length d0, .slice b1 g2.length d1]) ∧ Below (v2.alloc (.cells #[.int .i64 c, .int .i64 i, .slice a0 s2.length c0, .slice a1 g2.length c1] 31)).heap.size (v2.alloc (.cells #[.int .i64 c, .int .i64 i, .slice a0 s2.length c0, .slice a1 g2.length c1] 31)) w' := fun j => by
      have hb := Joins.below_draws (v2.alloc (.cells #[.int .i64 c, .int .i64 i, .slice a0 s2.length c0, .slice a1 g2.length c1] 31)).heap.size (v2.alloc (.cells #[.int .i64 c, .int .i64 i, .slice a0 s2.length c0, .slice a1 g2.length c1] 31)) j
      obtain ⟨t1, t2, t3⟩ := row_caps HO1.out
      obtain ⟨t4, t5, t6⟩ := row_caps HG1.out
      have := sSignId_opt n m tc gc ta ga ss gs a b ((v2.alloc (.cells #[.int .i64 c, .int .i64 i, .slice a0 s2.length c0, .slice a1 g2.length c1] 31)).drewN j) t1 t4 t2 t5 t3 t6 HF1.out (HL1u.out.below hb (Nat.le_refl _))
      rw [HRR.out] at this
      exact this.mono fun _ _ ⟨h1, b0, d0, b1, d1, e, _, _⟩ => ⟨b0, d0, b1, d1, e, hb.trans (h1.mono hb.size)⟩
    have hhs : ∀ W, Below (v2.alloc (.cells #[.int .i64 c, .int .i64 i, .slice a0 s2.length c0, .slice a1 g2.length c1] 31)).heap.size (v2.alloc (.cells #[.int .i64 c, .int .i64 i, .slice a0 s2.length c0, .slice a1 g2.length c1] 31)) W → Calls Try.prog 8 #[.agg #[.slice ta n tc, .slice ga m gc], .int .i64 a, .int .i64 b] W fun e w' => e = .returned (.bool false) ∧ Below (v2.alloc (.cells #[.int .i64 c, .int .i64 i, .slice a0 s2.length c0, .slice a1 g2.length c1] 31)).heap.size (v2.alloc (.cells #[.int .i64 c, .int .i64 i, .slice a0 s2.length c0, .slice a1 g2.length c1] 31)) w' := fun W hW => by
      have := iHasSign_any n m tc gc ta ga ss gs a b W wa wb HF1.out (HL1u.out.below hW (Nat.le_refl _))
      rw [hno] at this
      exact this.mono fun _ _ ⟨e, h1⟩ => ⟨e, hW.trans (h1.mono hW.size)⟩
    go_region_held3 (fun w' => w'.cell? ⟨v1.heap.size, 0, none⟩ = some (.slice ta n tc) ∧ w'.cell? ⟨v1.heap.size, 1, none⟩ = some (.slice ga m gc) ∧ w'.cell? ⟨v2.heap.size, 0, none⟩ = some (.int .i64 c)) (go_keep)
      (first
        | (go_at_call 7; refine (hsn 1).mono ?_; rintro e u1 ⟨b0, d0, b1, d1, rfl, hb⟩; have z0 := (hb.cell (p := ⟨v1.heap.size, 0, none⟩) hl1).trans p0; have z1 := (hb.cell (p := ⟨v1.heap.size, 1, none⟩) hl1).trans p1; have z2 := (hb.cell (p := ⟨v2.heap.size, 0, none⟩) hl2).trans q0)
        | (go_at_call 8; refine (hhs u1 hb).mono ?_; rintro e u2 ⟨rfl, hb2⟩; have t0 := (hb2.cell (p := ⟨v1.heap.size, 0, none⟩) hl1).trans p0; have t1 := (hb2.cell (p := ⟨v1.heap.size, 1, none⟩) hl1).trans p1; have t2 := (hb2.cell (p := ⟨v2.heap.size, 0, none⟩) hl2).trans q0))
    go_wp2
    go_ret
    exact ⟨rfl, HB2.out.trans (hb2.mono HB2.out.size)⟩
  have hc0 : c = 0 := by have hh := ‹(c != 0) = false›; simpa using hh
  obtain ⟨g3, e1, HSD⟩ := signd_of (ss := ss) (gs := gs) (a := a) (b := b) (by rw [HRR.out]; exact hc0)
  rw [HRR.out] at e1
  have e2 : c = 0 ∧ i = b ∧ s2 = ss ∧ g2 = g3 := by simpa using e1
  obtain ⟨rfl, e3, e4, rfl⟩ := e2
  have e5 := e3.symm
  have e6 := e4.symm
  subst e5 e6
  have HNo : Hid (Signd ss gs a b g2) := HSD
  have HF2 : Hid (Fine ss g2) := HSD.fine HF1.out
  obtain ⟨U, hU⟩ : ∃ U, U = (v2.alloc (.cells #[.int .i64 0, .int .i64 b, .slice a0 ss.length c0, .slice a1 g2.length c1] 31)) := ⟨_, rfl⟩
  rw [← hU] at HQ2 HB2 HX2 HL2 ⊢
  have X1 := keepb HX1.out HQ2.out
  have HL1u : Hid (LedAt U ta n ga m ss gs) := HL1.out.below HQ2.out (Nat.le_refl _)
  have HNl : Hid (ss.length = n) := HL1u.out.s.1
  clear hU e1 HSD hc0 HRR HQ2 HL1 e3 e4
  go_wp2
  go_loopw [7] (fun kk wr => ∃ k : Nat, 1 ≤ k ∧ k ≤ 9 ∧ kk = .int .i64 k ∧ Hid (Below U.heap.size U wr)) (fun kk _ => 9 - (intOf kk).toNat)
  case atStart => exact ⟨1, by omega, by omega, rfl, Below.refl _ _⟩
  case round =>
    obtain ⟨k, hk1, hk9, rfl, HW0⟩ := hrel
    by_cases hlt : k < 9
    · have hki : (k : Int) < 9 := by omega
      go_wp2
      go_loopw [8] (fun qq wr => ∃ q : Nat, 1 ≤ q ∧ q ≤ n + 1 ∧ qq = .int .i64 q ∧ Hid (Below U.heap.size U wr)) (fun qq _ => n + 1 - (intOf qq).toNat)
      case atStart => exact ⟨1, by omega, by omega, rfl, HW0⟩
      case round =>
        obtain ⟨q, hq1, hqn, rfl, HW⟩ := hrel
        obtain ⟨p0, p1⟩ := cells2 (keepb X1.out HW.out).out
        obtain ⟨q0, q1, q2, q3, _⟩ := cells4 (keepb HX2.out HW.out).out
        by_cases hql : q ≤ n
        · have hqi : (q : Int) ≤ (n : Int) := by omega
          have wk : (Lit.int .i64 (k : Int)).wf = true := wf_small (by omega) (by omega)
          have wq : (Lit.int .i64 (q : Int)).wf = true := wf_small (by omega) (by omega)
          obtain ⟨h2, hh2⟩ : ∃ h, h = hasR ss g2 (k : Int) (q : Int) := ⟨_, rfl⟩
          obtain ⟨h0, hh0⟩ : ∃ h, h = hasR ss gs (k : Int) (q : Int) := ⟨_, rfl⟩
          have cH2 : ∀ dd os, Calls Try.prog 8 #[.agg #[.slice a0 ss.length c0, .slice a1 g2.length c1], .int .i64 (k : Int), .int .i64 (q : Int)] (grow (redrawn wr dd) os) fun e w'' => e = .returned (.bool h2) ∧ ∃ p : Regrown, w'' = grow (redrawn wr p.d) p.os := fun dd os => Calls.regrown_of (by
          have hb := below_regrown wr dd os
          have := iHasSign_any ss.length g2.length c0 c1 a0 a1 ss g2 (k : Int) (q : Int) (grow (redrawn wr dd) os) wk wq HF2.out ((HL2.out.below HW.out (Nat.le_refl _)).below hb (Nat.le_refl _))
          rw [← hh2] at this
          exact this)
          have cH0 : ∀ dd os, Calls Try.prog 8 #[.agg #[.slice ta n tc, .slice ga m gc], .int .i64 (k : Int), .int .i64 (q : Int)] (grow (redrawn wr dd) os) fun e w'' => e = .returned (.bool h0) ∧ ∃ p : Regrown, w'' = grow (redrawn wr p.d) p.os := fun dd os => Calls.regrown_of (by
          have hb := below_regrown wr dd os
          have := iHasSign_any n m tc gc ta ga ss gs (k : Int) (q : Int) (grow (redrawn wr dd) os) wk wq HF1.out ((HL1u.out.below HW.out (Nat.le_refl _)).below hb (Nat.le_refl _))
          rw [← hh0] at this
          exact this)
          have h20 : h2 = (h0 || (decide ((k : Int) = a) && decide ((q : Int) = b))) := by rw [hh2, hh0]; exact hasR_two HNo.out _ _
          have y0 := cell_regrown p0
          have y1 := cell_regrown p1
          have y4 := cell_regrown q2
          have y5 := cell_regrown q3
          have hwq := IntWalk.i64_in ((q : Int) + 1) (by omega)
          clear hh2 hh0
          cases h0
          · by_cases e1 : (k : Int) = a
            · have e1b : ((k : Int) == a) = true := by simpa using e1
              by_cases e2 : (q : Int) = b
              · have e2b : ((q : Int) == b) = true := by simpa using e2
                obtain rfl : h2 = true := by rw [h20, decide_eq_true e1, decide_eq_true e2]; rfl
                clear h20 e1 e2
                go_wp2
                clear p0 p1 q0 q1 q2 q3
                refine wp_region_quiet_below hmix (by kernel_rfl) ?_
                repeat (go_big_quiet_step (first | (with_reducible exact cH2 _ _) | (with_reducible exact cH0 _ _)))
                refine wpQuiet_nil ?_
                intro _ hw'
                obtain ⟨⟨dq, osq⟩, hw''⟩ := hw'
                subst hw''
                have HW2 : Hid (Below U.heap.size U (grow (redrawn wr dq) osq)) := HW.out.trans ((below_regrown wr dq osq).mono HW.out.size)
                go_wp2
                go_roundw
                case rel => exact ⟨q + 1, by omega, by omega, by go_num, HW2⟩
                case measure => simp [intOf]; omega
              · have e2b : ((q : Int) == b) = false := beq_eq_false_iff_ne.2 e2
                obtain rfl : h2 = false := by rw [h20, decide_eq_false e2]; simp
                clear h20 e1 e2
                go_wp2
                clear p0 p1 q0 q1 q2 q3
                refine wp_region_quiet_below hmix (by kernel_rfl) ?_
                repeat (go_big_quiet_step (first | (with_reducible exact cH2 _ _) | (with_reducible exact cH0 _ _)))
                refine wpQuiet_nil ?_
                intro _ hw'
                obtain ⟨⟨dq, osq⟩, hw''⟩ := hw'
                subst hw''
                have HW2 : Hid (Below U.heap.size U (grow (redrawn wr dq) osq)) := HW.out.trans ((below_regrown wr dq osq).mono HW.out.size)
                go_wp2
                go_roundw
                case rel => exact ⟨q + 1, by omega, by omega, by go_num, HW2⟩
                case measure => simp [intOf]; omega
            · have e1b : ((k : Int) == a) = false := beq_eq_false_iff_ne.2 e1
              obtain rfl : h2 = false := by rw [h20, decide_eq_false e1]; rfl
              clear h20 e1
              go_wp2
              clear p0 p1 q0 q1 q2 q3
              refine wp_region_quiet_below hmix (by kernel_rfl) ?_
              repeat (go_big_quiet_step (first | (with_reducible exact cH2 _ _) | (with_reducible exact cH0 _ _)))
              refine wpQuiet_nil ?_
              intro _ hw'
              obtain ⟨⟨dq, osq⟩, hw''⟩ := hw'
              subst hw''
              have HW2 : Hid (Below U.heap.size U (grow (redrawn wr dq) osq)) := HW.out.trans ((below_regrown wr dq osq).mono HW.out.size)
              go_wp2
              go_roundw
              case rel => exact ⟨q + 1, by omega, by omega, by go_num, HW2⟩
              case measure => simp [intOf]; omega
          · obtain rfl : h2 = true := by rw [h20]; rfl
            clear h20
            go_wp2
            clear p0 p1 q0 q1 q2 q3
            refine wp_region_quiet_below hmix (by kernel_rfl) ?_
            repeat (go_big_quiet_step (first | (with_reducible exact cH2 _ _) | (with_reducible exact cH0 _ _)))
            refine wpQuiet_nil ?_
            intro _ hw'
            obtain ⟨⟨dq, osq⟩, hw''⟩ := hw'
            subst hw''
            have HW2 : Hid (Below U.heap.size U (grow (redrawn wr dq) osq)) := HW.out.trans ((below_regrown wr dq osq).mono HW.out.size)
            go_wp2
            go_roundw
            case rel => exact ⟨q + 1, by omega, by omega, by go_num, HW2⟩
            case measure => simp [intOf]; omega
        · have hqi : ¬ (q : Int) ≤ (n : Int) := by omega
          go_wp2
          go_roundw
          case rel => exact ⟨k + 1, by omega, by omega, by go_num, HW⟩
          case measure => simp [intOf]; omega
    · have hki : ¬ (k : Int) < 9 := by omega
      obtain ⟨q0, q1, q2, q3, _⟩ := cells4 (keepb HX2.out HW0.out).out
      have hl2 := lt_of_block (keepb HX2.out HW0.out).out
      have HLw : Hid (LedAt wr a0 ss.length a1 g2.length ss g2) := HL2.out.below HW0.out (Nat.le_refl _)
      have hf2 := fieldL2
      have hfg := fieldG1
      have hfn := fieldN1
      have hhs : ∀ j, Calls Try.prog 8 #[.agg #[.slice a0 ss.length c0, .slice a1 g2.length c1], .int .i64 a, .int .i64 b] (wr.drewN j) fun e w' => e = .returned (.bool true) ∧ Below wr.heap.size wr w' := fun j => by
        have hb := Joins.below_draws wr.heap.size wr j
        have := iHasSign_any ss.length g2.length c0 c1 a0 a1 ss g2 a b (wr.drewN j) wa wb HF2.out (HLw.out.below hb (Nat.le_refl _))
        rw [hasR_two HNo.out, decide_eq_true rfl, decide_eq_true rfl, Bool.and_self, Bool.or_true] at this
        exact this.mono fun _ _ ⟨e, h1⟩ => ⟨e, hb.trans (h1.mono hb.size)⟩
      have hso : ∀ W, Below wr.heap.size wr W → Calls Try.prog 10 #[.agg #[.slice a0 ss.length c0, .slice a1 g2.length c1], .int .i64 b] W fun e w' => ∃ sc la lc, ∃ ll : List Int, e = .returned (.agg #[.int .i64 sc, .slice la ll.length lc]) ∧ Hid (hasK ll a = true) ∧ Hid (IAt w' la ll.length ll) ∧ ll.length ≤ maxLen ∧ Below wr.heap.size wr w' := fun W hW =>
        (iSignsOf_any ss.length g2.length c0 c1 a0 a1 ss g2 b W HF2.out (HLw.out.below hW (Nat.le_refl _))).mono fun _ _ ⟨h1, la, lc, e, h2⟩ => ⟨_, la, lc, _, e, HNo.out.sel, IAt.owned h2 rfl, Nat.le_trans (row_caps h2).1 (row_caps h2).2.1, hW.trans (h1.mono hW.size)⟩
      have hlf : ∀ W, Below wr.heap.size wr W → Calls Try.prog 11 #[.agg #[.slice a0 ss.length c0, .slice a1 g2.length c1]] W fun e w' => e = .returned (.int .i64 0) ∧ Below wr.heap.size wr w' := fun W hW => by
        have := iLedgerFault_any ss.length g2.length c0 c1 a0 a1 ss g2 W HF2.out (HLw.out.below hW (Nat.le_refl _))
        rw [HNo.out.ok] at this
        exact this.mono fun _ _ ⟨e, h1⟩ => ⟨e, hW.trans (h1.mono hW.size)⟩
      have hsi : ∀ W, Below wr.heap.size wr W → Calls Try.prog 6 #[.agg #[.slice a0 ss.length c0, .slice a1 g2.length c1], .int .i64 a, .int .i64 b] W fun e w' => ∃ b0 d0 b1 d1, e = .returned (.agg #[.int .i64 0, .int .i64 b, .slice b0 ss.length d0, .slice b1 g2.length d1]) ∧ Below wr.heap.size wr w' := fun W hW => by
        have := iSignId_any ss.length g2.length c0 c1 a0 a1 ss g2 a b W wa wb HF2.out (HLw.out.below hW (Nat.le_refl _))
        rw [HNo.out.again] at this
        exact this.mono fun _ _ ⟨h1, b0, d0, b1, d1, e, _, _⟩ => ⟨b0, d0, b1, d1, e, hW.trans (h1.mono hW.size)⟩
      clear q0 q1
      go_wp2
      go_region_held3 (fun w' => w'.cell? ⟨v2.heap.size, 2, none⟩ = some (.slice a0 ss.length c0) ∧ w'.cell? ⟨v2.heap.size, 3, none⟩ = some (.slice a1 g2.length c1)) (first | (with_reducible exact ⟨t2, t3⟩) | (with_reducible exact ⟨s2, s3⟩) | (with_reducible exact ⟨y2, y3⟩) | (with_reducible exact ⟨z2, z3⟩) | (with_reducible exact ⟨q2, q3⟩) | go_keep)
        (first
          | (go_at_call 8; refine (hhs 1).mono ?_; rintro e u1 ⟨rfl, hb1⟩; have z2 := (hb1.cell (p := ⟨v2.heap.size, 2, none⟩) hl2).trans q2; have z3 := (hb1.cell (p := ⟨v2.heap.size, 3, none⟩) hl2).trans q3)
          | (go_at_call 10; refine (hso u1 hb1).mono ?_; rintro e u2 ⟨sc, la, lc, ll, rfl, HK, HIL, hll, hb2⟩; have y2 := (hb2.cell (p := ⟨v2.heap.size, 2, none⟩) hl2).trans q2; have y3 := (hb2.cell (p := ⟨v2.heap.size, 3, none⟩) hl2).trans q3; have hlh := lwHasK_any la ll.length lc ll a u2 hll HIL.out; rw [HK.out] at hlh)
          | (go_at_call 9; refine hlh.mono ?_; rintro e w' ⟨rfl, hw⟩; have hw2 := hw.symm; subst hw2)
          | (go_at_call 11; refine (hlf u2 hb2).mono ?_; rintro e u3 ⟨rfl, hb3⟩; have s2 := (hb3.cell (p := ⟨v2.heap.size, 2, none⟩) hl2).trans q2; have s3 := (hb3.cell (p := ⟨v2.heap.size, 3, none⟩) hl2).trans q3)
          | (go_at_call 6; refine (hsi u3 hb3).mono ?_; rintro e u4 ⟨b0, d0, b1, d1, rfl, hb4⟩; have t2 := (hb4.cell (p := ⟨v2.heap.size, 2, none⟩) hl2).trans q2; have t3 := (hb4.cell (p := ⟨v2.heap.size, 3, none⟩) hl2).trans q3))
      go_wp2
      go_ret
      exact ⟨rfl, HB2.out.trans ((HW0.out.trans (hb4.mono HW0.out.size)).mono HB2.out.size)⟩

end Go.Proofs.Ytapicejadjeejaa
