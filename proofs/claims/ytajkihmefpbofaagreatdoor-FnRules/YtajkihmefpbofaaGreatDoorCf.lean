/- The law on rules answers true, whatever is drawn, and writes nothing that was there. -/
import Derived.Test.YtajkihmefpbofaaGreatDoorX4
import Derived.Test.YtajkihmefpbofaaGreatDoorCd
import Derived.Test.YtajkihmefpbofaaGreatDoorCe
import Derived.Test.YtajkihmefpbofaaGreatDoorAm
import Derived.Test.YtajkihmefpbofaaGreatDoorKe
import Derived.Test.YtajkihmefpbofaaGreatDoorJc
import Derived.Test.YtajkihmefpbofaaGreatDoorIMet
import Derived.Test.YtajkihmefpbofaaGreatDoorX2
import Derived.Lib.QuietBelow
namespace Go.Proofs.YtajkihmefpbofaaGreatDoor
open Go.RowKit Go.Shelf Go.Maps Go.WideMaps Go.Sort

set_option maxRecDepth 20000 in
set_option maxHeartbeats 4000000 in
theorem sParseRule_no (t : List UInt8) (w : World) (ht : t.length ≤ 1048576) (hno : (prR t).1 ≠ 0) :
    Calls Tryz.prog 11 #[.string (str t)] w fun e w' => e = .returned (.agg #[.int .i64 5, .slice none 0 0, .int .i64 0, .int .i64 0]) ∧ Below w.heap.size w w' := by
  have HB1 : Hid (Below w.heap.size w (w.alloc (.cells #[.int .i64 0, .slice none 0 0, .int .i64 0, .int .i64 0] 36))) := below_box _
  have HR1 : Hid ((w.alloc (.cells #[.int .i64 0, .slice none 0 0, .int .i64 0, .int .i64 0] 36)).heap[w.heap.size]? = some (.cells #[.int .i64 0, .slice none 0 0, .int .i64 0, .int .i64 0] 36 (0, 0))) := heap_alloc_new _ _
  have hP := l2Parse_any t (w.alloc (.cells #[.int .i64 0, .slice none 0 0, .int .i64 0, .int .i64 0] 36)) ht
  have hsz1 : (w.alloc (.cells #[.int .i64 0, .slice none 0 0, .int .i64 0, .int .i64 0] 36)).heap.size = w.heap.size + 1 := by simp
  obtain ⟨ok, hok⟩ : ∃ b, b = (parU t).2 := ⟨_, rfl⟩
  have hP' : Calls Tryz.prog 37 #[.string (str t)] (w.alloc (.cells #[.int .i64 0, .slice none 0 0, .int .i64 0, .int .i64 0] 36)) fun e w' => ∃ (l : List Int) (x y : Int) (va : Option Addr) (vc : Nat), e = .returned (.tuple #[.agg #[.slice va l.length vc, .int .i64 x, .int .i64 y], .bool ok]) ∧ Hid (w'.ownsRow (w.heap.size + 1) 2 1 (.slice va l.length vc) l.length (ints l)) ∧ Hid ((parU t).2 = true → (parU t).1 = (l, x, y)) ∧ Hid (Below (w.heap.size + 1) (w.alloc (.cells #[.int .i64 0, .slice none 0 0, .int .i64 0, .int .i64 0] 36)) w') := by
    refine hP.mono fun e w' ⟨hb, l, x, y, va, vc, e1, hO, hq⟩ => ⟨l, x, y, va, vc, by rw [e1, hok], ?_, hq, ?_⟩
    · rw [hsz1] at hO; exact hO
    · rw [hsz1] at hb; exact hb
  have HOK : Hid (ok = (parU t).2) := hok
  clear hP hsz1 hok
  cases ok
  · go_enter Tryz.func11, Tryz.ntmps11
    go_wp2_with (first
      | (go_at_call 37; (with_reducible refine hP'.mono ?_); clear hP'; rintro e u2 ⟨l, x, y, va, vc, rfl, HO2, HQ, HB2⟩; have hbx := below_box (w := u2) (.cells #[.slice va l.length vc, .int .i64 x, .int .i64 y] 30); have HR3 := keepb ((HB2.out.block w.heap.size (by omega)).trans HR1.out) hbx; have HB3 : Hid (Below w.heap.size w (u2.alloc (.cells #[.slice va l.length vc, .int .i64 x, .int .i64 y] 30))) := (HB1.out.trans (HB2.out.mono (by omega))).trans (hbx.mono (by have := HB2.out.size; simp at this; omega)); obtain ⟨q0, q1, q2, q3, q4, q5, q6, q7⟩ := cells4 HR3.out; clear hbx))
    obtain ⟨j0, j1, j2, j3⟩ := four_set HR3.out (.int .i64 5) (.slice none 0 0) (.int .i64 0) (.int .i64 0)
    refine bodyPost_ret (v := .agg #[.int .i64 5, .slice none 0 0, .int .i64 0, .int .i64 0]) (by simp [results, Tryz.results11, go_sem, j0, j1, j2, j3]) rfl ?_
    exact ⟨rfl, four_belowR HB3.out (Nat.le_refl _) _ _ _ _⟩
  · exact absurd (by unfold prR; rw [← HOK.out, if_pos rfl]) hno

theorem fieldRR0 (a b c d : Value) (W : World) : (Instr.field 36 (.agg #[a, b, c, d]) 0).run Tryz.prog W = .ok a W := by kernel_rfl
theorem fieldRR1 (a b c d : Value) (W : World) : (Instr.field 36 (.agg #[a, b, c, d]) 1).run Tryz.prog W = .ok (.agg #[b, c, d]) W := by kernel_rfl
theorem fieldTx1 (a b : Value) (W : World) : (Instr.field 39 (.agg #[a, b]) 1).run Tryz.prog W = .ok b W := by kernel_rfl
theorem rtx_up {l : List Int} {x y : Int} (h : ruleR l x y = 0) : (rtxR l x y).length ≤ 200 := by
  obtain ⟨⟨h1, h3⟩, hx, hy, hk⟩ := ruleR_zero rfl h
  have hdx := dec_len (k := x) (by omega)
  have hdy := dec_len (k := y) (by omega)
  have c : (keysT l).length ≤ 50 := by
    cases l with
    | nil => simp at h1
    | cons k l' =>
      have e := dec_len (k := k) (by have := hk k (by simp); omega)
      have f := tail_len (l := l') (fun q hq => by have := hk q (by simp [hq]); omega)
      simp only [keysT, List.length_append, List.length_cons] at *
      omega
  have d : (aftT y).length ≤ 30 := by
    unfold aftT
    by_cases e : y = 0
    · rw [if_pos e]; simp
    · rw [if_neg e]; simp; omega
  unfold rtxR
  simp only [List.length_append, List.length_cons, List.length_nil]
  omega
theorem wf_krb {l : List Int} {x y : Int} (h : KRB l x y) : ∀ k ∈ l, (Lit.int .i64 k).wf = true := fun k hk => wf_small (h.2.1 k hk).1 (by have := (h.2.1 k hk).2; omega)
/-- The drawn ledger and the drawn rule, in two boxes. -/
structure RBo (w V : World) (L1 : Nat) (ta : Option Addr) (n tc : Nat) (ga : Option Addr) (m gc : Nat) (ss : List ByteArray) (gs : List (Int × Int)) (va : Option Addr) (vc : Nat) (l : List Int) (x y : Int) : Prop where
  bx : V.heap[L1]? = some (.cells #[.slice ta n tc, .slice ga m gc] 27 (0, 0))
  br : V.heap[L1 + 1]? = some (.cells #[.slice va l.length vc, .int .i64 x, .int .i64 y] 30 (0, 0))
  bel : Below w.heap.size w V
  led : LedAt V ta n ga m ss gs
  key : IAt V va l.length l
section
variable {w V V' : World} {L1 : Nat} {ta : Option Addr} {n tc : Nat} {ga : Option Addr} {m gc : Nat} {ss : List ByteArray} {gs : List (Int × Int)} {va : Option Addr} {vc : Nat} {l : List Int} {x y : Int}
theorem RBo.step (H : RBo w V L1 ta n tc ga m gc ss gs va vc l x y) (hb : Below V.heap.size V V') : RBo w V' L1 ta n tc ga m gc ss gs va vc l x y :=
  ⟨(keepb H.bx hb).out, (keepb H.br hb).out, H.bel.trans (hb.mono H.bel.size), H.led.below hb (Nat.le_refl _), H.key.below hb (Nat.le_refl _)⟩
theorem RBo.cells (H : RBo w V L1 ta n tc ga m gc ss gs va vc l x y) : V.cell? ⟨L1, 0, none⟩ = some (.slice ta n tc) ∧ V.cell? ⟨L1, 1, none⟩ = some (.slice ga m gc) ∧ V.cell? ⟨L1 + 1, 0, none⟩ = some (.slice va l.length vc) ∧ V.cell? ⟨L1 + 1, 1, none⟩ = some (.int .i64 x) ∧ V.cell? ⟨L1 + 1, 2, none⟩ = some (.int .i64 y) :=
  ⟨(cells2 H.bx).1, (cells2 H.bx).2, cells3 H.br⟩
end

set_option maxRecDepth 20000 in
set_option maxHeartbeats 16000000 in
theorem lawRules (cn cc : Nat) (ca : Option Addr) (l0 : List Int) (mx : Int) (w : World) (hmx : w.cell? ⟨0, 0, none⟩ = some (.int .i64 mx)) (hE : Erv w) (hTb : Tb w) (hB : BAt w ca cn l0) :
    Calls Tryz.prog 3 #[.slice ca cn cc] w fun e w' => e = .returned (.bool true) ∧ Below w.heap.size w w' := by
  have hbig := lwBigK_any cn cc ca w
  have hmix : Tryz.prog.follows .mixedOrders = true := by kernel_rfl
  by_cases hcn : 1048576 < cn
  · have hd : decide ((1048576 : Int) < (cn : Int)) = true := decide_eq_true (by omega)
    rw [hd] at hbig
    clear hB hd
    go_enter Tryz.func3, Tryz.ntmps3
    go_wp2_with (go_at_call 4; (with_reducible refine hbig.mono ?_); clear hbig; rintro e w1 ⟨rfl, hw⟩; have hw2 := hw.symm; subst hw2)
    go_ret
    exact ⟨rfl, Below.refl _ _⟩
  have hd : decide ((1048576 : Int) < (cn : Int)) = false := decide_eq_false (by omega)
  rw [hd] at hbig
  have hdr := drawRm_any cn cc ca l0 w (by omega) hB
  have HBA : Hid (BAt w ca cn l0) := hB
  have hlm := World.block_lt_of_cell? _ _ hmx
  have HER : Hid (Erv w) := hE
  have HTB : Hid (Tb w) := hTb
  have HMX : Hid (∀ u, Below w.heap.size w u → u.cell? ⟨0, 0, none⟩ = some (.int .i64 mx)) := fun u h => (h.cell (p := ⟨0, 0, none⟩) hlm).trans hmx
  clear hB hd hE hTb hmx hlm
  go_enter Tryz.func3, Tryz.ntmps3
  go_wp2_with (first
    | (go_at_call 4; (with_reducible refine hbig.mono ?_); clear hbig; rintro e w1 ⟨rfl, hw⟩; have hw2 := hw.symm; subst hw2)
    | (go_at_call 5; (with_reducible refine hdr.mono ?_); clear hdr; rintro e v1 ⟨ta, n, tc, ga, m, gc, ss, gs, l, x, y, va, vc, id, h, rfl, HO1, HG1, HF1, hn61, hm121, HK1, HKR, hid, hh, HB1v⟩; have HR1 : Hid (RBo w ((v1.alloc (.cells #[.slice ta n tc, .slice ga m gc] 27)).alloc (.cells #[.slice va l.length vc, .int .i64 x, .int .i64 y] 30)) v1.heap.size ta n tc ga m gc ss gs va vc l x y) := ⟨block_at2, heap_alloc_at _ _ _ (by simp), HB1v.out.trans ((below_box2 _ _).mono HB1v.out.size), (led_row HO1.out HG1.out).below (below_box2 _ _) (Nat.le_refl _), (IAt.owned HK1.out rfl).below (below_box2 _ _) (Nat.le_refl _)⟩; obtain ⟨p0, p1, q0, q1, q2⟩ := HR1.out.cells))
  obtain ⟨W1, hW1⟩ : ∃ W, W = ((v1.alloc (.cells #[.slice ta n tc, .slice ga m gc] 27)).alloc (.cells #[.slice va l.length vc, .int .i64 x, .int .i64 y] 30)) := ⟨_, rfl⟩
  rw [← hW1] at HR1 p0 p1 q0 q1 q2 ⊢
  clear hW1
  obtain ⟨L1, hL1⟩ : ∃ z, z = v1.heap.size := ⟨_, rfl⟩
  rw [← hL1] at HR1 p0 p1 q0 q1 q2 ⊢
  have hl4 : l.length ≤ 1048576 := by have := HKR.out.1; omega
  have hwf := wf_krb HKR.out
  have hwi : (Lit.int .i64 id).wf = true := wf_small hid.1 (by omega)
  obtain ⟨t1, t2, t3⟩ := row_caps HO1.out
  obtain ⟨t4, t5, t6⟩ := row_caps HG1.out
  have HMET : Hid (∀ (V : World) (z : Int), RBo w V L1 ta n tc ga m gc ss gs va vc l x y → Calls Tryz.prog 6 #[.agg #[.slice ta n tc, .slice ga m gc], .agg #[.slice va l.length vc, .int .i64 x, .int .i64 y], .int .i64 id, .int .i64 z] V fun e w' => e = .returned (.int .i64 (metR ss gs l x y id z)) ∧ Below V.heap.size V w') := fun V z hV => iRuleMet_any n m tc gc l.length vc ta ga va ss gs l x y id z V HF1.out hV.led hl4 hV.key hwf hwi
  have HSMT : Hid (∀ (V : World) (z : Int), RBo w V L1 ta n tc ga m gc ss gs va vc l x y → Calls Tryz.prog 7 #[.agg #[.slice ta n tc, .slice ga m gc], .agg #[.slice va l.length vc, .int .i64 x, .int .i64 y], .int .i64 id, .int .i64 z] V fun e w' => e = .returned (.int .i64 (metR ss gs l x y id z)) ∧ Below V.heap.size V w') := fun V z hV => sRuleMet_any n m tc gc l.length vc ta ga va ss gs l x y id z V t1 t4 t2 t5 HF1.out hV.led hl4 hV.key
  obtain ⟨mt, hmt⟩ : ∃ z, z = metR ss gs l x y id h := ⟨_, rfl⟩
  have HMT : Hid (metR ss gs l x y id h = mt) := hmt.symm
  have h1 := HMET.out W1 h HR1.out
  rw [← hmt] at h1
  clear hL1 hmt
  refine h1.mono ?_
  rintro e v2 ⟨rfl, hb2⟩
  have HR2 : Hid (RBo w v2 L1 ta n tc ga m gc ss gs va vc l x y) := HR1.out.step hb2
  have h2 := HSMT.out v2 h HR2.out
  rw [HMT.out] at h2
  clear h1 hb2 p0 p1 q0 q1 q2
  obtain ⟨p0, p1, q0, q1, q2⟩ := HR2.out.cells
  go_wp2_with (first
    | (go_at_call 7; (with_reducible refine h2.mono ?_); clear h2; rintro e v3 ⟨rfl, hb3⟩; have HR3 : Hid (RBo w v3 L1 ta n tc ga m gc ss gs va vc l x y) := HR2.out.step hb3; have h3 := drawRt_any cn cc ca l0 v3 (by omega) (HBA.out.below HR3.out.bel); clear hb3 p0 p1 q0 q1 q2)
    | (go_at_call 8; (with_reducible refine h3.mono ?_); clear h3; rintro e v4 ⟨t, rfl, htl, HB4⟩; have HR4 : Hid (RBo w v4 L1 ta n tc ga m gc ss gs va vc l x y) := HR3.out.step HB4.out; have h4 := iParseRule_any t mx v4 (by omega) (HMX.out v4 HR4.out.bel) (HER.out.below HR4.out.bel) (HTB.out.below HR4.out.bel (Nat.le_refl _)))
    | (go_at_call 9; (with_reducible refine h4.mono ?_); clear h4; rintro e v5 ⟨hb5, va5, vc5, rfl, hO5⟩))
  obtain ⟨⟨cd, pl, px, py⟩, hpr⟩ : ∃ z, z = prR t := ⟨_, rfl⟩
  have HPR : Hid (prR t = (cd, pl, px, py)) := hpr.symm
  simp only [← hpr] at hO5 ⊢
  clear hpr
  obtain ⟨W6, hW6⟩ : ∃ W, W = v5.alloc (.cells #[.int .i64 cd, .slice va5 pl.length vc5, .int .i64 px, .int .i64 py] 36) := ⟨_, rfl⟩
  have hbx : Below v5.heap.size v5 W6 := by rw [hW6]; exact below_box _
  have HX6 : Hid (W6.heap[v5.heap.size]? = some (.cells #[.int .i64 cd, .slice va5 pl.length vc5, .int .i64 px, .int .i64 py] 36 (0, 0))) := by rw [hW6]; exact heap_alloc_new _ _
  have HI6 : Hid (IAt W6 va5 pl.length pl) := (IAt.owned hO5 rfl).below hbx (Nat.le_refl _)
  have HR6 : Hid (RBo w W6 L1 ta n tc ga m gc ss gs va vc l x y) := (HR4.out.step hb5).step hbx
  rw [← hW6]
  have hpl3 : pl.length ≤ 1048576 := by have := prR_len t; rw [HPR.out] at this; simpa using (show pl.length ≤ 1048576 from Nat.le_trans this (by omega))
  clear hW6 hbx hb5 hO5
  obtain ⟨z0, z1, z2, z3, _⟩ := cells4 HX6.out
  have hfr0 := fieldRR0
  have hft := fieldTx1
  have cTX : ∀ dd os, Calls Tryz.prog 10 #[.agg #[.slice va5 pl.length vc5, .int .i64 px, .int .i64 py]] (grow (redrawn W6 dd) os) fun e w'' => e = .returned (.agg #[.int .i64 (rtR pl px py).1, .string (str (rtR pl px py).2)]) ∧ ∃ p : Regrown, w'' = grow (redrawn W6 p.d) p.os := fun dd os => Calls.regrown_of (iRuleText_any pl.length vc5 va5 pl px py _ hpl3 (HI6.out.below (below_regrown W6 dd os) (Nat.le_refl _)) (HTB.out.below (HR6.out.bel.trans ((below_regrown W6 dd os).mono HR6.out.bel.size)) (Nat.le_refl _)))
  have y0 := cell_regrown z0
  have y1 := cell_regrown z1
  have y2 := cell_regrown z2
  have y3 := cell_regrown z3
  have hcd := prR_codes t
  rw [HPR.out] at hcd
  have hcd2 : cd = 0 ∨ cd = 5 := hcd
  clear hcd
  rcases hcd2 with rfl | rfl
  · have htx : rtR pl px py = (0, t) := by
      have := prR_text (t := t) (by rw [HPR.out])
      rw [HPR.out] at this
      exact this
    rw [htx] at cTX
    clear htx
    go_wp2
    clear z0 z1 z2 z3
    refine wp_region_quiet_below hmix (by kernel_rfl) ?_
    repeat (go_big_quiet_step (with_reducible exact cTX _ _))
    refine wpQuiet_nil ?_
    intro _ hw'
    obtain ⟨⟨dq, osq⟩, hw''⟩ := hw'
    subst hw''
    have HR7 : Hid (RBo w (grow (redrawn W6 dq) osq) L1 ta n tc ga m gc ss gs va vc l x y) := HR6.out.step (below_regrown W6 dq osq)
    obtain ⟨W7, hW7⟩ : ∃ W, W = grow (redrawn W6 dq) osq := ⟨_, rfl⟩
    rw [← hW7] at HR7 ⊢
    clear hW7 cTX y0 y1 y2 y3
    obtain ⟨p0, p1, q0, q1, q2⟩ := HR7.out.cells
    obtain ⟨rc, hrc⟩ : ∃ z, z = (rtR l x y).1 := ⟨_, rfl⟩
    obtain ⟨rt, hrt⟩ : ∃ z, z = (rtR l x y).2 := ⟨_, rfl⟩
    have hT := iRuleText_any l.length vc va l x y W7 hl4 HR7.out.key (HTB.out.below HR7.out.bel (Nat.le_refl _))
    rw [← hrc, ← hrt] at hT
    have HRC : Hid (rc = (rtR l x y).1) := hrc
    have HRT : Hid (rt = (rtR l x y).2) := hrt
    clear hrc hrt
    go_wp2_with (first
      | (go_at_call 10; (with_reducible refine hT.mono ?_); clear hT; rintro e v8 ⟨rfl, hb8⟩; have HR8 : Hid (RBo w (v8.alloc (.cells #[.int .i64 rc, .string (str rt)] 39)) L1 ta n tc ga m gc ss gs va vc l x y) := (HR7.out.step hb8).step (below_box _); have HX8 : Hid ((v8.alloc (.cells #[.int .i64 rc, .string (str rt)] 39)).heap[v8.heap.size]? = some (.cells #[.int .i64 rc, .string (str rt)] 39 (0, 0))) := heap_alloc_new _ _; clear p0 p1 q0 q1 q2; obtain ⟨p0, p1, q0, q1, q2⟩ := HR8.out.cells; obtain ⟨x0, x1⟩ := cells2 HX8.out))
    · have hc0 : rc ≠ 0 := by have hh := ‹(rc != 0) = true›; simpa using hh
      obtain ⟨W8, hW8⟩ : ∃ W, W = v8.alloc (.cells #[.int .i64 rc, .string (str rt)] 39) := ⟨_, rfl⟩
      rw [← hW8] at HR8 HX8 p0 p1 q0 q1 q2 x0 x1 ⊢
      clear hW8
      have hrr : ruleR l x y = rc := by rw [HRC.out]; exact (rtR_code l x y).symm
      have cI : ∀ dd os, Calls Tryz.prog 12 #[.agg #[.slice va l.length vc, .int .i64 x, .int .i64 y]] (grow (redrawn W8 dd) os) fun e w'' => e = .returned (.int .i64 rc) ∧ ∃ p : Regrown, w'' = grow (redrawn W8 p.d) p.os := fun dd os => Calls.regrown_of (by
        have := iRuleFault_any l.length vc va l x y (grow (redrawn W8 dd) os) hl4 (HR8.out.key.below (below_regrown W8 dd os) (Nat.le_refl _))
        rw [hrr] at this
        exact this)
      have cS : ∀ dd os, Calls Tryz.prog 13 #[.agg #[.slice va l.length vc, .int .i64 x, .int .i64 y]] (grow (redrawn W8 dd) os) fun e w'' => e = .returned (.int .i64 rc) ∧ ∃ p : Regrown, w'' = grow (redrawn W8 p.d) p.os := fun dd os => Calls.regrown_of (by
        have := sRuleFault_any l.length vc va l x y (grow (redrawn W8 dd) os) hl4 (HR8.out.key.below (below_regrown W8 dd os) (Nat.le_refl _))
        rw [hrr] at this
        exact this)
      have y0 := cell_regrown x0
      have y1 := cell_regrown q0
      have y2 := cell_regrown q1
      have y3 := cell_regrown q2
      clear hrr
      go_wp2
      clear p0 p1 q0 q1 q2 x0 x1
      refine wp_region_quiet_below hmix (by kernel_rfl) ?_
      repeat (go_big_quiet_step (first | (with_reducible exact cI _ _) | (with_reducible exact cS _ _)))
      refine wpQuiet_nil ?_
      intro _ hw'
      obtain ⟨⟨dq, osq⟩, hw''⟩ := hw'
      subst hw''
      have HE : Hid (Below w.heap.size w (grow (redrawn W8 dq) osq)) := HR8.out.bel.trans ((below_regrown W8 dq osq).mono HR8.out.bel.size)
      go_wp2
      go_ret
      exact ⟨rfl, HE.out⟩
    · have hc0 : rc = 0 := by have hh := ‹(rc != 0) = false›; simpa using hh
      have hz : (rtR l x y).1 = 0 := by rw [← HRC.out]; exact hc0
      have hbk : prR rt = (0, (l, x, y)) := by rw [HRT.out]; exact prR_back hz
      have hrl : rt.length ≤ 1048576 := by
        rw [HRT.out]
        have hr0 : ruleR l x y = 0 := by rw [← rtR_code]; exact hz
        unfold rtR
        rw [if_neg (by simp [hr0])]
        exact Nat.le_trans (rtx_up hr0) (by omega)
      obtain ⟨W8, hW8⟩ : ∃ W, W = v8.alloc (.cells #[.int .i64 rc, .string (str rt)] 39) := ⟨_, rfl⟩
      rw [← hW8] at HR8 HX8 p0 p1 q0 q1 q2 x0 x1 ⊢
      clear hW8
      have hl8 := lt_of_block HX8.out
      have hlb := lt_of_block HR8.out.br
      have hf1 := fieldRR1
      have hPR : ∀ j, Calls Tryz.prog 9 #[.string (str rt)] (W8.drewN j) fun e w' => ∃ va9 vc9, e = .returned (.agg #[.int .i64 0, .slice va9 l.length vc9, .int .i64 x, .int .i64 y]) ∧ Hid (IAt w' va9 l.length l) ∧ Below W8.heap.size W8 w' := fun j => by
        have hb := Joins.below_draws W8.heap.size W8 j
        have hR := HR8.out.step hb
        have := iParseRule_any rt mx (W8.drewN j) hrl (HMX.out _ hR.bel) (HER.out.below hR.bel) (HTB.out.below hR.bel (Nat.le_refl _))
        refine this.mono ?_
        rintro e w' ⟨h1, va9, vc9, e1, h2⟩
        rw [hbk] at e1 h2
        exact ⟨va9, vc9, e1, IAt.owned h2 rfl, hb.trans (h1.mono hb.size)⟩
      have hSM : ∀ (W : World) (va9 : Option Addr) (vc9 : Nat), Below W8.heap.size W8 W → Hid (IAt W va9 l.length l) → Calls Tryz.prog 14 #[.agg #[.slice va9 l.length vc9, .int .i64 x, .int .i64 y], .agg #[.slice va l.length vc, .int .i64 x, .int .i64 y]] W fun e w' => e = .returned (.bool true) ∧ Below W8.heap.size W8 w' := fun W va9 vc9 hW hI => by
        have := iSameRules_any va9 va l.length l.length vc9 vc l l x x y y W hl4 hl4 hI.out (HR8.out.key.below hW (Nat.le_refl _))
        rw [sameR_self] at this
        exact this.mono fun e w' ⟨e1, hb⟩ => ⟨e1, hW.trans (hb.mono hW.size)⟩
      clear hz hbk hrl
      go_wp2
      go_region_held3 (fun w' => w'.cell? ⟨v8.heap.size, 1, none⟩ = some (.string (str rt)) ∧ w'.cell? ⟨L1 + 1, 0, none⟩ = some (.slice va l.length vc) ∧ w'.cell? ⟨L1 + 1, 1, none⟩ = some (.int .i64 x) ∧ w'.cell? ⟨L1 + 1, 2, none⟩ = some (.int .i64 y)) (first | (with_reducible exact ⟨x1, q0, q1, q2⟩) | (with_reducible exact ⟨r1, r2, r3, r4⟩) | (with_reducible exact ⟨s1, s2, s3, s4⟩) | go_keep)
        (first
          | (go_at_call 9; refine (hPR 1).mono ?_; rintro e u1 ⟨va9, vc9, rfl, HI9, hb1⟩; have r1 := (hb1.cell (p := ⟨v8.heap.size, 1, none⟩) hl8).trans x1; have r2 := (hb1.cell (p := ⟨L1 + 1, 0, none⟩) hlb).trans q0; have r3 := (hb1.cell (p := ⟨L1 + 1, 1, none⟩) hlb).trans q1; have r4 := (hb1.cell (p := ⟨L1 + 1, 2, none⟩) hlb).trans q2; have hS9 := hSM u1 va9 vc9 hb1 HI9)
          | (go_at_call 14; refine hS9.mono ?_; clear hS9; rintro e u2 ⟨rfl, hb2⟩; have s1 := (hb2.cell (p := ⟨v8.heap.size, 1, none⟩) hl8).trans x1; have s2 := (hb2.cell (p := ⟨L1 + 1, 0, none⟩) hlb).trans q0; have s3 := (hb2.cell (p := ⟨L1 + 1, 1, none⟩) hlb).trans q1; have s4 := (hb2.cell (p := ⟨L1 + 1, 2, none⟩) hlb).trans q2))
      have HR9 : Hid (RBo w u2 L1 ta n tc ga m gc ss gs va vc l x y) := HR8.out.step hb2
      clear p0 p1 q0 q1 q2 x0 x1 r1 r2 r3 r4 s1 s2 s3 s4 hPR hSM hb2 hb1 HI9
      obtain ⟨p0, p1, q0, q1, q2⟩ := HR9.out.cells
      go_wp2_with fail
      · go_ret
        exact ⟨rfl, HR9.out.bel⟩
      · have hm0 : mt = 0 := by have hh := ‹(mt != 0) = false›; simpa using hh
        subst hm0
        have h999 : metR ss gs l x y id 999 = 0 := met_late HMT.out
        obtain ⟨⟨c, i, s2, g2⟩, hr⟩ : ∃ r, r = signR ss gs 999 id := ⟨_, rfl⟩
        have HRR : Hid (signR ss gs 999 id = ⟨c, i, s2, g2⟩) := hr.symm
        have hnt := iSignId_any n m tc gc ta ga ss gs 999 id u2 (by decide) hwi HF1.out HR9.out.led
        rw [← hr] at hnt
        clear hr
        refine hnt.mono ?_
        clear hnt
        rintro e v10 ⟨hb10, a0, c0, a1, c1, rfl, ho10, hg10⟩
        have hbx : Below v10.heap.size v10 (v10.alloc (.cells #[.int .i64 c, .int .i64 i, .slice a0 s2.length c0, .slice a1 g2.length c1] 44)) := below_box _
        have HX11 : Hid ((v10.alloc (.cells #[.int .i64 c, .int .i64 i, .slice a0 s2.length c0, .slice a1 g2.length c1] 44)).heap[v10.heap.size]? = some (.cells #[.int .i64 c, .int .i64 i, .slice a0 s2.length c0, .slice a1 g2.length c1] 44 (0, 0))) := heap_alloc_new _ _
        have HL11 : Hid (LedAt (v10.alloc (.cells #[.int .i64 c, .int .i64 i, .slice a0 s2.length c0, .slice a1 g2.length c1] 44)) a0 s2.length a1 g2.length s2 g2) := (led_row ho10 hg10).below hbx (Nat.le_refl _)
        have HR11 : Hid (RBo w (v10.alloc (.cells #[.int .i64 c, .int .i64 i, .slice a0 s2.length c0, .slice a1 g2.length c1] 44)) L1 ta n tc ga m gc ss gs va vc l x y) := (HR9.out.step hb10).step hbx
        clear p0 p1 q0 q1 q2 hb10 ho10 hg10 hbx
        obtain ⟨p0, p1, q0, q1, q2⟩ := HR11.out.cells
        have hM := HMET.out (v10.alloc (.cells #[.int .i64 c, .int .i64 i, .slice a0 s2.length c0, .slice a1 g2.length c1] 44)) 999 HR11.out
        rw [h999] at hM
        clear h999
        go_wp2_with fail
        clear p0 p1 q0 q1 q2
        obtain ⟨W11, hW11⟩ : ∃ W, W = v10.alloc (.cells #[.int .i64 c, .int .i64 i, .slice a0 s2.length c0, .slice a1 g2.length c1] 44) := ⟨_, rfl⟩
        rw [← hW11] at HX11 HL11 HR11 hM ⊢
        clear hW11
        refine hM.mono ?_
        clear hM
        rintro e v12 ⟨rfl, hb12⟩
        have HR12 : Hid (RBo w v12 L1 ta n tc ga m gc ss gs va vc l x y) := HR11.out.step hb12
        have HX12 := keepb HX11.out hb12
        have HL12 : Hid (LedAt v12 a0 s2.length a1 g2.length s2 g2) := HL11.out.below hb12 (Nat.le_refl _)
        clear hb12 HX11 HL11
        obtain ⟨p0, p1, q0, q1, q2⟩ := HR12.out.cells
        obtain ⟨x0, x1, x2, x3, _⟩ := cells4 HX12.out
        by_cases hc : c = 0
        · obtain ⟨g3, e1, HSD⟩ := signd_of (ss := ss) (gs := gs) (a := 999) (b := id) (by rw [HRR.out]; exact hc)
          rw [HRR.out] at e1
          have e2 : c = 0 ∧ i = id ∧ s2 = ss ∧ g2 = g3 := by simpa using e1
          obtain ⟨rfl, e3, e4, rfl⟩ := e2
          have e5 := e3.symm
          have e6 := e4.symm
          subst e5 e6
          have hmore := iRuleMet_any ss.length g2.length c0 c1 l.length vc a0 a1 va ss g2 l x y id h v12 (HSD.fine HF1.out) HL12.out hl4 HR12.out.key hwf hwi
          rw [met_sign HMT.out HSD] at hmore
          clear e1 hc HRR HSD
          go_wp2_with (first | (go_at_call 6; (with_reducible refine hmore.mono ?_); clear hmore; rintro e v13 ⟨rfl, hb13⟩))
          go_ret
          exact ⟨rfl, HR12.out.bel.trans (hb13.mono HR12.out.bel.size)⟩
        · have hcb : (c != 0) = true := by simpa using hc
          clear hc HRR
          go_wp2_with fail
          go_ret
          exact ⟨rfl, HR12.out.bel⟩
  · have cPN : ∀ dd os, Calls Tryz.prog 11 #[.string (str t)] (grow (redrawn W6 dd) os) fun e w'' => e = .returned (.agg #[.int .i64 5, .slice none 0 0, .int .i64 0, .int .i64 0]) ∧ ∃ p : Regrown, w'' = grow (redrawn W6 p.d) p.os := fun dd os => Calls.regrown_of (sParseRule_no t _ (by omega) (by rw [HPR.out]; exact (by decide : (5 : Int) ≠ 0)))
    go_wp2
    clear z0 z1 z2 z3
    refine wp_region_quiet_below hmix (by kernel_rfl) ?_
    repeat (go_big_quiet_step (with_reducible exact cPN _ _))
    refine wpQuiet_nil ?_
    intro _ hw'
    obtain ⟨⟨dq, osq⟩, hw''⟩ := hw'
    subst hw''
    have HR7 : Hid (RBo w (grow (redrawn W6 dq) osq) L1 ta n tc ga m gc ss gs va vc l x y) := HR6.out.step (below_regrown W6 dq osq)
    obtain ⟨W7, hW7⟩ : ∃ W, W = grow (redrawn W6 dq) osq := ⟨_, rfl⟩
    rw [← hW7] at HR7 ⊢
    clear hW7 cTX cPN y0 y1 y2 y3
    obtain ⟨p0, p1, q0, q1, q2⟩ := HR7.out.cells
    obtain ⟨rc, hrc⟩ : ∃ z, z = (rtR l x y).1 := ⟨_, rfl⟩
    obtain ⟨rt, hrt⟩ : ∃ z, z = (rtR l x y).2 := ⟨_, rfl⟩
    have hT := iRuleText_any l.length vc va l x y W7 hl4 HR7.out.key (HTB.out.below HR7.out.bel (Nat.le_refl _))
    rw [← hrc, ← hrt] at hT
    have HRC : Hid (rc = (rtR l x y).1) := hrc
    have HRT : Hid (rt = (rtR l x y).2) := hrt
    clear hrc hrt
    go_wp2_with (first
      | (go_at_call 10; (with_reducible refine hT.mono ?_); clear hT; rintro e v8 ⟨rfl, hb8⟩; have HR8 : Hid (RBo w (v8.alloc (.cells #[.int .i64 rc, .string (str rt)] 39)) L1 ta n tc ga m gc ss gs va vc l x y) := (HR7.out.step hb8).step (below_box _); have HX8 : Hid ((v8.alloc (.cells #[.int .i64 rc, .string (str rt)] 39)).heap[v8.heap.size]? = some (.cells #[.int .i64 rc, .string (str rt)] 39 (0, 0))) := heap_alloc_new _ _; clear p0 p1 q0 q1 q2; obtain ⟨p0, p1, q0, q1, q2⟩ := HR8.out.cells; obtain ⟨x0, x1⟩ := cells2 HX8.out))
    · have hc0 : rc ≠ 0 := by have hh := ‹(rc != 0) = true›; simpa using hh
      obtain ⟨W8, hW8⟩ : ∃ W, W = v8.alloc (.cells #[.int .i64 rc, .string (str rt)] 39) := ⟨_, rfl⟩
      rw [← hW8] at HR8 HX8 p0 p1 q0 q1 q2 x0 x1 ⊢
      clear hW8
      have hrr : ruleR l x y = rc := by rw [HRC.out]; exact (rtR_code l x y).symm
      have cI : ∀ dd os, Calls Tryz.prog 12 #[.agg #[.slice va l.length vc, .int .i64 x, .int .i64 y]] (grow (redrawn W8 dd) os) fun e w'' => e = .returned (.int .i64 rc) ∧ ∃ p : Regrown, w'' = grow (redrawn W8 p.d) p.os := fun dd os => Calls.regrown_of (by
        have := iRuleFault_any l.length vc va l x y (grow (redrawn W8 dd) os) hl4 (HR8.out.key.below (below_regrown W8 dd os) (Nat.le_refl _))
        rw [hrr] at this
        exact this)
      have cS : ∀ dd os, Calls Tryz.prog 13 #[.agg #[.slice va l.length vc, .int .i64 x, .int .i64 y]] (grow (redrawn W8 dd) os) fun e w'' => e = .returned (.int .i64 rc) ∧ ∃ p : Regrown, w'' = grow (redrawn W8 p.d) p.os := fun dd os => Calls.regrown_of (by
        have := sRuleFault_any l.length vc va l x y (grow (redrawn W8 dd) os) hl4 (HR8.out.key.below (below_regrown W8 dd os) (Nat.le_refl _))
        rw [hrr] at this
        exact this)
      have y0 := cell_regrown x0
      have y1 := cell_regrown q0
      have y2 := cell_regrown q1
      have y3 := cell_regrown q2
      clear hrr
      go_wp2
      clear p0 p1 q0 q1 q2 x0 x1
      refine wp_region_quiet_below hmix (by kernel_rfl) ?_
      repeat (go_big_quiet_step (first | (with_reducible exact cI _ _) | (with_reducible exact cS _ _)))
      refine wpQuiet_nil ?_
      intro _ hw'
      obtain ⟨⟨dq, osq⟩, hw''⟩ := hw'
      subst hw''
      have HE : Hid (Below w.heap.size w (grow (redrawn W8 dq) osq)) := HR8.out.bel.trans ((below_regrown W8 dq osq).mono HR8.out.bel.size)
      go_wp2
      go_ret
      exact ⟨rfl, HE.out⟩
    · have hc0 : rc = 0 := by have hh := ‹(rc != 0) = false›; simpa using hh
      have hz : (rtR l x y).1 = 0 := by rw [← HRC.out]; exact hc0
      have hbk : prR rt = (0, (l, x, y)) := by rw [HRT.out]; exact prR_back hz
      have hrl : rt.length ≤ 1048576 := by
        rw [HRT.out]
        have hr0 : ruleR l x y = 0 := by rw [← rtR_code]; exact hz
        unfold rtR
        rw [if_neg (by simp [hr0])]
        exact Nat.le_trans (rtx_up hr0) (by omega)
      obtain ⟨W8, hW8⟩ : ∃ W, W = v8.alloc (.cells #[.int .i64 rc, .string (str rt)] 39) := ⟨_, rfl⟩
      rw [← hW8] at HR8 HX8 p0 p1 q0 q1 q2 x0 x1 ⊢
      clear hW8
      have hl8 := lt_of_block HX8.out
      have hlb := lt_of_block HR8.out.br
      have hf1 := fieldRR1
      have hPR : ∀ j, Calls Tryz.prog 9 #[.string (str rt)] (W8.drewN j) fun e w' => ∃ va9 vc9, e = .returned (.agg #[.int .i64 0, .slice va9 l.length vc9, .int .i64 x, .int .i64 y]) ∧ Hid (IAt w' va9 l.length l) ∧ Below W8.heap.size W8 w' := fun j => by
        have hb := Joins.below_draws W8.heap.size W8 j
        have hR := HR8.out.step hb
        have := iParseRule_any rt mx (W8.drewN j) hrl (HMX.out _ hR.bel) (HER.out.below hR.bel) (HTB.out.below hR.bel (Nat.le_refl _))
        refine this.mono ?_
        rintro e w' ⟨h1, va9, vc9, e1, h2⟩
        rw [hbk] at e1 h2
        exact ⟨va9, vc9, e1, IAt.owned h2 rfl, hb.trans (h1.mono hb.size)⟩
      have hSM : ∀ (W : World) (va9 : Option Addr) (vc9 : Nat), Below W8.heap.size W8 W → Hid (IAt W va9 l.length l) → Calls Tryz.prog 14 #[.agg #[.slice va9 l.length vc9, .int .i64 x, .int .i64 y], .agg #[.slice va l.length vc, .int .i64 x, .int .i64 y]] W fun e w' => e = .returned (.bool true) ∧ Below W8.heap.size W8 w' := fun W va9 vc9 hW hI => by
        have := iSameRules_any va9 va l.length l.length vc9 vc l l x x y y W hl4 hl4 hI.out (HR8.out.key.below hW (Nat.le_refl _))
        rw [sameR_self] at this
        exact this.mono fun e w' ⟨e1, hb⟩ => ⟨e1, hW.trans (hb.mono hW.size)⟩
      clear hz hbk hrl
      go_wp2
      go_region_held3 (fun w' => w'.cell? ⟨v8.heap.size, 1, none⟩ = some (.string (str rt)) ∧ w'.cell? ⟨L1 + 1, 0, none⟩ = some (.slice va l.length vc) ∧ w'.cell? ⟨L1 + 1, 1, none⟩ = some (.int .i64 x) ∧ w'.cell? ⟨L1 + 1, 2, none⟩ = some (.int .i64 y)) (first | (with_reducible exact ⟨x1, q0, q1, q2⟩) | (with_reducible exact ⟨r1, r2, r3, r4⟩) | (with_reducible exact ⟨s1, s2, s3, s4⟩) | go_keep)
        (first
          | (go_at_call 9; refine (hPR 1).mono ?_; rintro e u1 ⟨va9, vc9, rfl, HI9, hb1⟩; have r1 := (hb1.cell (p := ⟨v8.heap.size, 1, none⟩) hl8).trans x1; have r2 := (hb1.cell (p := ⟨L1 + 1, 0, none⟩) hlb).trans q0; have r3 := (hb1.cell (p := ⟨L1 + 1, 1, none⟩) hlb).trans q1; have r4 := (hb1.cell (p := ⟨L1 + 1, 2, none⟩) hlb).trans q2; have hS9 := hSM u1 va9 vc9 hb1 HI9)
          | (go_at_call 14; refine hS9.mono ?_; clear hS9; rintro e u2 ⟨rfl, hb2⟩; have s1 := (hb2.cell (p := ⟨v8.heap.size, 1, none⟩) hl8).trans x1; have s2 := (hb2.cell (p := ⟨L1 + 1, 0, none⟩) hlb).trans q0; have s3 := (hb2.cell (p := ⟨L1 + 1, 1, none⟩) hlb).trans q1; have s4 := (hb2.cell (p := ⟨L1 + 1, 2, none⟩) hlb).trans q2))
      have HR9 : Hid (RBo w u2 L1 ta n tc ga m gc ss gs va vc l x y) := HR8.out.step hb2
      clear p0 p1 q0 q1 q2 x0 x1 r1 r2 r3 r4 s1 s2 s3 s4 hPR hSM hb2 hb1 HI9
      obtain ⟨p0, p1, q0, q1, q2⟩ := HR9.out.cells
      go_wp2_with fail
      · go_ret
        exact ⟨rfl, HR9.out.bel⟩
      · have hm0 : mt = 0 := by have hh := ‹(mt != 0) = false›; simpa using hh
        subst hm0
        have h999 : metR ss gs l x y id 999 = 0 := met_late HMT.out
        obtain ⟨⟨c, i, s2, g2⟩, hr⟩ : ∃ r, r = signR ss gs 999 id := ⟨_, rfl⟩
        have HRR : Hid (signR ss gs 999 id = ⟨c, i, s2, g2⟩) := hr.symm
        have hnt := iSignId_any n m tc gc ta ga ss gs 999 id u2 (by decide) hwi HF1.out HR9.out.led
        rw [← hr] at hnt
        clear hr
        refine hnt.mono ?_
        clear hnt
        rintro e v10 ⟨hb10, a0, c0, a1, c1, rfl, ho10, hg10⟩
        have hbx : Below v10.heap.size v10 (v10.alloc (.cells #[.int .i64 c, .int .i64 i, .slice a0 s2.length c0, .slice a1 g2.length c1] 44)) := below_box _
        have HX11 : Hid ((v10.alloc (.cells #[.int .i64 c, .int .i64 i, .slice a0 s2.length c0, .slice a1 g2.length c1] 44)).heap[v10.heap.size]? = some (.cells #[.int .i64 c, .int .i64 i, .slice a0 s2.length c0, .slice a1 g2.length c1] 44 (0, 0))) := heap_alloc_new _ _
        have HL11 : Hid (LedAt (v10.alloc (.cells #[.int .i64 c, .int .i64 i, .slice a0 s2.length c0, .slice a1 g2.length c1] 44)) a0 s2.length a1 g2.length s2 g2) := (led_row ho10 hg10).below hbx (Nat.le_refl _)
        have HR11 : Hid (RBo w (v10.alloc (.cells #[.int .i64 c, .int .i64 i, .slice a0 s2.length c0, .slice a1 g2.length c1] 44)) L1 ta n tc ga m gc ss gs va vc l x y) := (HR9.out.step hb10).step hbx
        clear p0 p1 q0 q1 q2 hb10 ho10 hg10 hbx
        obtain ⟨p0, p1, q0, q1, q2⟩ := HR11.out.cells
        have hM := HMET.out (v10.alloc (.cells #[.int .i64 c, .int .i64 i, .slice a0 s2.length c0, .slice a1 g2.length c1] 44)) 999 HR11.out
        rw [h999] at hM
        clear h999
        go_wp2_with fail
        clear p0 p1 q0 q1 q2
        obtain ⟨W11, hW11⟩ : ∃ W, W = v10.alloc (.cells #[.int .i64 c, .int .i64 i, .slice a0 s2.length c0, .slice a1 g2.length c1] 44) := ⟨_, rfl⟩
        rw [← hW11] at HX11 HL11 HR11 hM ⊢
        clear hW11
        refine hM.mono ?_
        clear hM
        rintro e v12 ⟨rfl, hb12⟩
        have HR12 : Hid (RBo w v12 L1 ta n tc ga m gc ss gs va vc l x y) := HR11.out.step hb12
        have HX12 := keepb HX11.out hb12
        have HL12 : Hid (LedAt v12 a0 s2.length a1 g2.length s2 g2) := HL11.out.below hb12 (Nat.le_refl _)
        clear hb12 HX11 HL11
        obtain ⟨p0, p1, q0, q1, q2⟩ := HR12.out.cells
        obtain ⟨x0, x1, x2, x3, _⟩ := cells4 HX12.out
        by_cases hc : c = 0
        · obtain ⟨g3, e1, HSD⟩ := signd_of (ss := ss) (gs := gs) (a := 999) (b := id) (by rw [HRR.out]; exact hc)
          rw [HRR.out] at e1
          have e2 : c = 0 ∧ i = id ∧ s2 = ss ∧ g2 = g3 := by simpa using e1
          obtain ⟨rfl, e3, e4, rfl⟩ := e2
          have e5 := e3.symm
          have e6 := e4.symm
          subst e5 e6
          have hmore := iRuleMet_any ss.length g2.length c0 c1 l.length vc a0 a1 va ss g2 l x y id h v12 (HSD.fine HF1.out) HL12.out hl4 HR12.out.key hwf hwi
          rw [met_sign HMT.out HSD] at hmore
          clear e1 hc HRR HSD
          go_wp2_with (first | (go_at_call 6; (with_reducible refine hmore.mono ?_); clear hmore; rintro e v13 ⟨rfl, hb13⟩))
          go_ret
          exact ⟨rfl, HR12.out.bel.trans (hb13.mono HR12.out.bel.size)⟩
        · have hcb : (c != 0) = true := by simpa using hc
          clear hc HRR
          go_wp2_with fail
          go_ret
          exact ⟨rfl, HR12.out.bel⟩

end Go.Proofs.YtajkihmefpbofaaGreatDoor
