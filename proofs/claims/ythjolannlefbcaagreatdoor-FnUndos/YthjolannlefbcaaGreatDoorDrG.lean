/- A right ledger is drawn. -/
import Derived.Test.YthjolannlefbcaaGreatDoorDrR
import Derived.Test.YthjolannlefbcaaGreatDoorJn1
namespace Go.Proofs.YthjolannlefbcaaGreatDoor
open Go.RowKit Go.Maps Go.WideMaps

/-- What a draw of a ledger leaves. -/
def OutDr (w v : World) (SB : Nat) (ca : Option Addr) (cn cc t : Nat) (e : Ending) (v' : World) : Prop :=
  ∃ t' ta n tc ga m gc ss gs, e = .returned (.agg #[.slice ta n tc, .slice ga m gc]) ∧ t' ≤ t ∧ Src w v' SB ca cn cc t' ∧ Chg v v' SB (SB + 1) ∧
    v'.ownsRow v.heap.size 9 1 (.slice ta n tc) n (ss.map Value.string) ∧ v'.ownsRow v.heap.size 130 2 (.slice ga m gc) m (gcells gs) ∧ Fine ss gs ∧ n ≤ 60 ∧ m ≤ 120

theorem wf_small {a : Int} (h0 : 0 ≤ a) (h1 : a ≤ 100000) : (Lit.int .i64 a).wf = true := by
  have e1 : IntKind.i64.min = -9223372036854775808 := by decide
  have e2 : IntKind.i64.max = 9223372036854775807 := by decide
  simp only [Lit.wf, e1, e2, Bool.and_eq_true, decide_eq_true_eq]
  omega

/-- The ledger that stands in a result. -/
theorem fieldLed (a b c d : Value) (W : World) : (Instr.field 121 (.agg #[a, b, c, d]) 2).run Tryz.prog W = .ok (.agg #[c, d]) W := by
  kernel_rfl

theorem flt_two {ss : List ByteArray} {gs : List (Int × Int)} (h : ¬ flt ss gs ≠ 0) : ss.length ≤ 60 ∧ gs.length ≤ 120 := by
  have h0 : flt ss gs = 0 := by simpa using h
  by_cases hb : 60 < ss.length ∨ 120 < gs.length
  · rw [flt_many rfl rfl hb] at h0; cases h0
  · omega
theorem noteR_small (ss : List ByteArray) (gs : List (Int × Int)) (x : ByteArray) : (noteR ss gs x).s.length ≤ 60 ∧ (noteR ss gs x).g.length ≤ 120 := by
  unfold noteR
  split
  · simp
  · have := flt_two (by assumption)
    split
    · simp
    · split
      · exact this
      · split
        · simp
        · simp; omega
theorem signR_small (ss : List ByteArray) (gs : List (Int × Int)) (a b : Int) : (signR ss gs a b).s.length ≤ 60 ∧ (signR ss gs a b).g.length ≤ 120 := by
  unfold Go.Proofs.YthjolannlefbcaaGreatDoor.signR
  split
  · simp
  · have := flt_two (by assumption)
    split
    · simp
    · split
      · exact this
      · split
        · simp
        · simp; omega

set_option maxRecDepth 20000 in
set_option maxHeartbeats 6000000 in
theorem l1Right_any (SB cn cc t : Nat) (ca : Option Addr) (l : List Int) (w v : World) (ht : t ≤ 800) (hcn : cn ≤ 1048577) (hB : BAt w ca cn l) (h : Src w v SB ca cn cc t) :
    Calls Tryz.prog 74 #[.pointer (some ⟨SB, 0, none⟩)] v fun e v' => OutDr w v SB ca cn cc (t + 20) e v' := by
  have hlt := h.lt
  have hL0 : Lr w v ((v.alloc (.cells #[.slice none 0 0, .slice none 0 0] 46)).alloc (.cells #[.slice none 0 0, .slice none 0 0] 46)) SB ca cn cc t v.heap.size (v.heap.size + 1) none 0 0 none 0 0 [] [] :=
    ⟨h.step (below_box2 _ _), Chg.of_below (below_box2 _ _) _ _, heap_at _ _ _ (by simp), block_at2, World.ownsRow_nil _ _ _ _, World.ownsRow_nil _ _ _ _, fine_nil, ⟨hlt, Nat.le_refl _, Nat.lt_succ_self _⟩⟩
  have HB : Hid (BAt w ca cn l) := hB
  have hfl := fieldLed
  have hnx := l1Next_any SB cn cc t ca l 6 w _ (by omega) (by omega) hcn hB hL0.src
  have HL0 : Hid (Lr w v ((v.alloc (.cells #[.slice none 0 0, .slice none 0 0] 46)).alloc (.cells #[.slice none 0 0, .slice none 0 0] 46)) SB ca cn cc t v.heap.size (v.heap.size + 1) none 0 0 none 0 0 [] []) := hL0
  clear hB h hL0
  go_enter Tryz.func74, Tryz.ntmps74
  go_wp2_with (go_at_call 16; refine hnx.mono ?_; clear hnx; rintro e v2 ⟨r, rfl, ⟨hr0, hr1⟩, hS2, hc2⟩; have hr2 : r < 6 := hr1 (by omega); obtain ⟨k0, rfl⟩ := Int.eq_ofNat_of_zero_le hr0; have HL2 : Hid (Lr w v v2 SB ca cn cc (t + 1) v.heap.size (v.heap.size + 1) none 0 0 none 0 0 [] []) := HL0.out.draw hS2 hc2; clear hS2 hc2 hr1 HL0)
  go_loopw [4] (fun i wr => ∃ k : Nat, k ≤ 5 ∧ i = .int .i64 k ∧ ∃ t' ta n tc ga m gc ss gs, t' + k ≤ t + 6 ∧ (n ≤ 60 ∧ m ≤ 120) ∧ Hid (Lr w v wr SB ca cn cc t' v.heap.size (v.heap.size + 1) ta n tc ga m gc ss gs)) (fun i _ => (intOf i).toNat)
  case atStart => exact ⟨k0, by omega, rfl, t + 1, none, 0, 0, none, 0, 0, [], [], by omega, ⟨by omega, by omega⟩, HL2⟩
  case round =>
    obtain ⟨k, hk, rfl, t', ta, n, tc, ga, m, gc, ss, gs, htk, hnm, HL⟩ := hrel
    by_cases hpos : 0 < k
    · have hLd := HL.out.step (Below.refl _ _).drew
      have hwd := l1Word_any SB cn cc t' ca l w _ (by omega) hcn HB.out hLd.src
      obtain ⟨q0, q1⟩ := cells2 HL.out.box
      have hLl := lt_of_block HL.out.box
      have HLD : Hid (Lr w v wr.drew SB ca cn cc t' v.heap.size (v.heap.size + 1) ta n tc ga m gc ss gs) := hLd
      clear hLd
      have hki : 0 < (k : Int) := by omega
      go_wp2
      go_region_with (first
        | (go_at_call 70; refine hwd.mono ?_; rintro e u1 ⟨x, rfl, hxs, hS1, hC1⟩; have HL1 : Hid (Lr w v u1 SB ca cn cc (t' + 1) v.heap.size (v.heap.size + 1) ta n tc ga m gc ss gs) := HLD.out.draw hS1 hC1; obtain ⟨y0, y1⟩ := cells2 HL1.out.box; clear hS1 hC1)
        | (go_at_call 69; obtain ⟨⟨c1, c2, c3, c4⟩, c5, c6⟩ := HL1.out.caps; refine (sNoteText_opt n m tc gc ta ga ss gs x u1 c1 c2 c3 c4 c5 c6 HL1.out.fine HL1.out.led).mono ?_; rintro e u2 ⟨hb2, a0, d0, a1, d1, rfl, ho2, hg2⟩; have HL2 : Hid (Lr w v u2 SB ca cn cc (t' + 1) v.heap.size (v.heap.size + 1) ta n tc ga m gc ss gs) := HL1.out.step hb2; have HP : Hid (Lr w v ((u2.setCell ⟨v.heap.size + 1, 0, none⟩ (.slice a0 (noteR ss gs x).s.length d0)).setCell ⟨v.heap.size + 1, 1, none⟩ (.slice a1 (noteR ss gs x).g.length d1)) SB ca cn cc (t' + 1) v.heap.size (v.heap.size + 1) a0 (noteR ss gs x).s.length d0 a1 (noteR ss gs x).g.length d1 (noteR ss gs x).s (noteR ss gs x).g) := HL2.out.put ho2 hg2 HL1.out.chg.size (HL1.out.fine.note (by unfold maxLen; omega)); obtain ⟨z0, z1⟩ := cells2 HL2.out.box; have z2 := Joins.unfrozen_of_block HL2.out.box 0; have z3 := Joins.unfrozen_of_block HL2.out.box 1; clear ho2 hg2 hb2 c1 c2 c3 c4 c5 c6))
      all_goals
        go_wp2
        go_roundw
        case rel => exact ⟨k - 1, by omega, by go_num, t' + 1, _, _, _, _, _, _, _, _, by omega, noteR_small _ _ _, HP⟩
        case measure => simp [intOf]; omega
    · obtain rfl : k = 0 := by omega
      clear hpos HL2
      have hn2 := l1Next_any SB cn cc t' ca l 6 w wr (by omega) (by omega) hcn HB.out HL.out.src
      go_wp2_with (go_at_call 16; refine hn2.mono ?_; clear hn2; rintro e v3 ⟨r, rfl, ⟨hr0, hr1⟩, hS2, hc2⟩; have hr3 : r < 6 := hr1 (by omega); obtain ⟨k1, rfl⟩ := Int.eq_ofNat_of_zero_le hr0; have HL3 : Hid (Lr w v v3 SB ca cn cc (t' + 1) v.heap.size (v.heap.size + 1) ta n tc ga m gc ss gs) := HL.out.draw hS2 hc2; clear hS2 hc2 hr1 HL)
      go_loopw [5] (fun i wq => ∃ k : Nat, k ≤ 5 ∧ i = .int .i64 k ∧ ∃ t' ta n tc ga m gc ss gs, t' + 2 * k ≤ t + 18 ∧ (n ≤ 60 ∧ m ≤ 120) ∧ Hid (Lr w v wq SB ca cn cc t' v.heap.size (v.heap.size + 1) ta n tc ga m gc ss gs)) (fun i _ => (intOf i).toNat)
      case atStart => exact ⟨k1, by omega, rfl, t' + 1, _, _, _, _, _, _, _, _, by omega, hnm, HL3⟩
      case round =>
        clear HL3 htk
        obtain ⟨k, hk, rfl, t2, ta, n, tc, ga, m, gc, ss, gs, htk, hnm, HL⟩ := hrel
        by_cases hpos : 0 < k
        · have hLd := HL.out.step (Below.refl _ _).drew
          obtain ⟨q0, q1⟩ := cells2 HL.out.box
          have hLl := lt_of_block HL.out.box
          have hSL : SB < v.heap.size + 1 := by omega
          have HLD : Hid (Lr w v wr.drew SB ca cn cc t2 v.heap.size (v.heap.size + 1) ta n tc ga m gc ss gs) := hLd
          clear hLd
          have HZD : Hid (Zx (wr.alloc (.cells #[.int .i64 0, .int .i64 0, .slice none 0 0, .slice none 0 0] 121)).drew wr.heap.size (v.heap.size + 1)) := (Zx.new hLl).step (Below.refl _ _).drew
          have hnx : ∀ (V : World) (tt : Nat) (kk : Int), kk ≤ 200 → tt ≤ 1000 → Lr w v V SB ca cn cc tt v.heap.size (v.heap.size + 1) ta n tc ga m gc ss gs → Calls Tryz.prog 16 #[.pointer (some ⟨SB, 0, none⟩), .int .i64 kk] V fun e v' => ∃ r : Int, e = .returned (.int .i64 r) ∧ (0 ≤ r ∧ (1 ≤ kk → r < kk)) ∧ Hid (Lr w v v' SB ca cn cc (tt + 1) v.heap.size (v.heap.size + 1) ta n tc ga m gc ss gs) ∧ Hid (Chg V v' SB (SB + 1)) := fun V tt kk h1 h2 h3 =>
            (l1Next_any SB cn cc tt ca l kk w V h1 h2 hcn HB.out h3.src).mono fun e v' ⟨r, e1, e2, e3, e4⟩ => ⟨r, e1, e2, h3.draw e3 e4, e4⟩
          have HNX : Hid (∀ (V : World) (tt : Nat) (kk : Int), kk ≤ 200 → tt ≤ 1000 → Lr w v V SB ca cn cc tt v.heap.size (v.heap.size + 1) ta n tc ga m gc ss gs → Calls Tryz.prog 16 #[.pointer (some ⟨SB, 0, none⟩), .int .i64 kk] V fun e v' => ∃ r : Int, e = .returned (.int .i64 r) ∧ (0 ≤ r ∧ (1 ≤ kk → r < kk)) ∧ Hid (Lr w v v' SB ca cn cc (tt + 1) v.heap.size (v.heap.size + 1) ta n tc ga m gc ss gs) ∧ Hid (Chg V v' SB (SB + 1))) := hnx
          clear hnx
          have hki : 0 < (k : Int) := by omega
          have HA : Hid True := trivial
          go_wp2
          go_region_held3 (fun w' => w'.cell? ⟨v.heap.size + 1, 0, none⟩ = some (.slice ta n tc) ∧ w'.cell? ⟨v.heap.size + 1, 1, none⟩ = some (.slice ga m gc)) (first | go_keep | (refine ⟨?_, ?_⟩ <;> (rw [World.cell?_of_block (w := u3) (k4 hneZ)]; assumption))) (first
            | (go_at_call 16; (first
                | (clear HA; (first | (with_reducible refine (HNX.out wr.drew t2 4 (by omega) (by omega) HLD.out).mono ?_; skip) | (with_reducible refine (HNX.out (wr.alloc (.cells #[.int .i64 0, .int .i64 0, .slice none 0 0, .slice none 0 0] 121)).drew t2 4 (by omega) (by omega) ((HL.out.step (below_box _)).step (Below.refl _ _).drew)).mono ?_; skip)); rintro e u1 ⟨i1, rfl, ⟨hi0, hi1⟩, HL1, HC1⟩; have hi2 : i1 < 4 := hi1 (by omega); have hw1 : IntKind.i64.wrap (1 + i1) = 1 + i1 := IntWalk.i64_in _ (by omega); obtain ⟨y0, y1⟩ := cells2 HL1.out.box; have hl1 := lt_of_block HL1.out.box; (first | (have HZ1 : Hid (Zx u1 wr.heap.size (v.heap.size + 1)) := HZD.out.draw HC1.out hSL) | skip); clear hi1)
                | ((first | (with_reducible refine (HNX.out u1 (t2 + 1) 5 (by omega) (by omega) HL1.out).mono ?_; skip) | (with_reducible refine (HNX.out (u1.alloc (.cells #[.int .i64 0, .int .i64 0, .slice none 0 0, .slice none 0 0] 121)) (t2 + 1) 5 (by omega) (by omega) (HL1.out.step (below_box _))).mono ?_; skip)); rintro e u2 ⟨i2, rfl, ⟨hj0, hj1⟩, HL2, HC2⟩; have hj2 : i2 < 5 := hj1 (by omega); have hw2 : IntKind.i64.wrap (1 + i2) = 1 + i2 := IntWalk.i64_in _ (by omega); obtain ⟨x0, x1⟩ := cells2 HL2.out.box; have hl2 := lt_of_block HL2.out.box; (first | (have HZ2 : Hid (Zx u2 wr.heap.size (v.heap.size + 1)) := HZ1.out.draw HC2.out hSL) | (have HZ2 : Hid (Zx u2 u1.heap.size (v.heap.size + 1)) := (Zx.new hl1).draw HC2.out hSL) | skip); clear hj1)))
            | (go_at_call 73; obtain ⟨⟨c1, c2, c3, c4⟩, c5, c6⟩ := HL2.out.caps; obtain ⟨rr, hrr⟩ : ∃ q, q = signR ss gs (1 + i1) (1 + i2) := ⟨_, rfl⟩; have HRR : Hid (rr = signR ss gs (1 + i1) (1 + i2)) := hrr; have hsp : ∀ V, LedAt V ta n ga m ss gs → Calls Tryz.prog 73 #[.agg #[.slice ta n tc, .slice ga m gc], .int .i64 (1 + i1), .int .i64 (1 + i2)] V fun e w' => OutL V w' e rr := (fun V hV => (by rw [hrr]; exact sSignId_opt n m tc gc ta ga ss gs (1 + i1) (1 + i2) V c1 c2 c3 c4 c5 c6 HL2.out.fine hV)); clear hrr; (first | ((with_reducible refine (hsp u2 HL2.out.led).mono ?_); clear hsp; rintro e u3 ⟨hb3, a0, d0, a1, d1, rfl, ho3, hg3⟩; have HL3 : Hid (Lr w v u3 SB ca cn cc (t2 + 1 + 1) v.heap.size (v.heap.size + 1) ta n tc ga m gc ss gs) := HL2.out.step hb3; (first | (have HZ3 : Hid (Zx u3 wr.heap.size (v.heap.size + 1)) := HZ2.out.step hb3) | (have HZ3 : Hid (Zx u3 u1.heap.size (v.heap.size + 1)) := HZ2.out.step hb3) | skip)) | ((with_reducible refine (hsp (u2.alloc (.cells #[.int .i64 0, .int .i64 0, .slice none 0 0, .slice none 0 0] 121)) (HL2.out.step (below_box _)).led).mono ?_); clear hsp; rintro e u3 ⟨hb3, a0, d0, a1, d1, rfl, ho3, hg3⟩; have HL3 : Hid (Lr w v u3 SB ca cn cc (t2 + 1 + 1) v.heap.size (v.heap.size + 1) ta n tc ga m gc ss gs) := (HL2.out.step (below_box _)).step hb3; have HZ3 : Hid (Zx u3 u2.heap.size (v.heap.size + 1)) := (Zx.new hl2).step hb3)); obtain ⟨z0, z1⟩ := cells2 HL3.out.box; have HROW : Hid (∃ base, v.heap.size ≤ base ∧ u3.ownsRow base 9 1 (.slice a0 rr.s.length d0) rr.s.length (rr.s.map Value.string) ∧ u3.ownsRow base 130 2 (.slice a1 rr.g.length d1) rr.g.length (gcells rr.g)) := ⟨_, by (have := HL2.out.chg.size; first | exact this | (simp; omega)), ho3, hg3⟩; (first | (have HO3 := HZ3; have hneZ := Nat.ne_of_lt HO3.out.1; obtain ⟨o0, o1, o2, o3, o4, o5, o6, o7⟩ := cells4 HO3.out.2) | skip)))
          all_goals
            (first
              | (have HO4 := HZ3; obtain ⟨W4, hW4, HL4, HRW, HRB⟩ := HL3.out.boxZ4 HO4.out rr.c rr.i HROW.out)
              | (obtain ⟨W4, hW4, HL4, HRW, HRB⟩ := HL3.out.boxA4 rr.c rr.i HROW.out))
            rw [← hW4]
            clear hW4
            have HP := HL4.out.putH HRW.out (by rw [HRR.out]; exact HL2.out.fine.signR (wf_small (by omega) (by omega)) (wf_small (by omega) (by omega)))
            clear z0 z1
            obtain ⟨z0, z1⟩ := cells2 HL4.out.box
            have z2 := Joins.unfrozen_of_block HL4.out.box 0
            have z3 := Joins.unfrozen_of_block HL4.out.box 1
            obtain ⟨b0, b1, b2, b3, _⟩ := cells4 HRB.out
            go_wp2
            all_goals
              go_roundw
              case rel => first | exact ⟨k - 1, by omega, by go_num, t2 + 1 + 1, _, _, _, _, _, _, _, _, by omega, (by rw [HRR.out]; exact signR_small _ _ _ _), HP⟩ | exact ⟨k - 1, by omega, by go_num, t2 + 1 + 1, _, _, _, _, _, _, _, _, by omega, hnm, HL4⟩
              case measure => simp [intOf]; omega
        · obtain rfl : k = 0 := by omega
          obtain ⟨z0, z1⟩ := cells2 HL.out.box
          obtain ⟨r0, r1⟩ := cells2 HL.out.res
          have f0 := Joins.unfrozen_of_block HL.out.res 0
          have f1 := Joins.unfrozen_of_block HL.out.res 1
          go_wp2
          obtain ⟨s0, s1, s2⟩ := two_set HL.out.res (.slice ta n tc) (.slice ga m gc)
          refine bodyPost_ret (v := .agg #[.slice ta n tc, .slice ga m gc]) (by simp [results, Tryz.results74, go_sem, s0, s1]) rfl ?_
          obtain ⟨h1, h2, h3, h4⟩ := HL.out.ret (.slice ta n tc) (.slice ga m gc)
          exact ⟨t2, ta, n, tc, ga, m, gc, ss, gs, rfl, by omega, h1, h2, h3, h4, HL.out.fine, hnm⟩

end Go.Proofs.YthjolannlefbcaaGreatDoor
