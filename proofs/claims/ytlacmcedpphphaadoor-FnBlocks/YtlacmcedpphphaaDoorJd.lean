/- The law on blocks: a block is read back from its text. -/
import Derived.Test.YtlacmcedpphphaaDoorJc
import Derived.Test.YtlacmcedpphphaaDoorGk
import Derived.Test.YtlacmcedpphphaaDoorHa
import Derived.Lib.QuietBelow
namespace Go.Proofs.YtlacmcedpphphaaDoor
open Go.RowKit Go.Shelf Go.Maps Go.WideMaps Go.Sort

set_option maxHeartbeats 1000000 in
theorem lwNums_any (a b : Option Addr) (n c1 c2 : Nat) (l : List Int) (w : World) (hl : n ≤ 1048576) (ha : IAt w a n l) (hb : IAt w b n l) :
    Calls Tryd.prog 14 #[.slice a n c1, .slice b n c2] w fun e w' => e = .returned (.bool true) ∧ Below w.heap.size w w' := by
  have HA : Hid (IAt w a n l) := ha
  have HB : Hid (IAt w b n l) := hb
  clear ha hb
  go_enter Tryd.func14, Tryd.ntmps14
  go_wp2
  go_loopw [5] (fun i wr => ∃ k : Nat, k ≤ n ∧ i = .int .i64 k ∧ Below w.heap.size w wr) (fun i _ => n - (intOf i).toNat)
  case atStart => exact ⟨0, Nat.zero_le _, rfl, Below.refl _ _⟩
  case round =>
    obtain ⟨k, hk, rfl, hbel⟩ := hrel
    by_cases hlt : k < n
    · rcases HA.out.2 with h0 | ⟨b0, o0, e0, l0, d0⟩
      · omega
      subst e0
      rcases HB.out.2 with h0 | ⟨b1, o1, e1, l1, d1⟩
      · omega
      subst e1
      obtain ⟨s, hs⟩ : ∃ s, s = l.getD k 0 := ⟨_, rfl⟩
      have x0 := (hbel.cell (p := ⟨b0, o0 + k, none⟩) l0).trans (d0 k hlt)
      have x1 := (hbel.cell (p := ⟨b1, o1 + k, none⟩) l1).trans (d1 k hlt)
      rw [← hs] at x0 x1
      clear hs d0 d1
      have hki : (k : Int) < (n : Int) := by omega
      go_wp2
      go_quiet (fail)
      go_wp2
      go_roundw
      case rel => exact ⟨k + 1, by omega, by go_num, hbel.trans (Joins.below_draws _ _ _)⟩
      case measure => simp [intOf]; omega
    · go_wp2
      go_ret
      exact ⟨rfl, hbel⟩

set_option maxRecDepth 20000 in
set_option maxHeartbeats 4000000 in
theorem sParseBlock_bad (t : List UInt8) (w : World) (ht : t.length ≤ 1048576) (hbad : (pbR t).1 ≠ 0) :
    Calls Tryd.prog 8 #[.string (str t)] w fun e w' => e = .returned (.agg #[.int .i64 5, .int .i64 0, .int .i64 0, .int .i64 0, .slice none 0 0]) ∧ Below w.heap.size w w' := by
  have HB1 : Hid (Below w.heap.size w (w.alloc (.cells #[.int .i64 0, .int .i64 0, .int .i64 0, .int .i64 0, .slice none 0 0] 29))) := below_box _
  have HR1 : Hid ((w.alloc (.cells #[.int .i64 0, .int .i64 0, .int .i64 0, .int .i64 0, .slice none 0 0] 29)).heap[w.heap.size]? = some (.cells #[.int .i64 0, .int .i64 0, .int .i64 0, .int .i64 0, .slice none 0 0] 29 (0, 0))) := heap_alloc_new _ _
  have hP := l7Parse_any t (w.alloc (.cells #[.int .i64 0, .int .i64 0, .int .i64 0, .int .i64 0, .slice none 0 0] 29)) ht
  obtain ⟨ok, hok⟩ : ∃ k, k = (parB t).2 := ⟨_, rfl⟩
  have hP' : Calls Tryd.prog 25 #[.string (str t)] (w.alloc (.cells #[.int .i64 0, .int .i64 0, .int .i64 0, .int .i64 0, .slice none 0 0] 29)) fun e w' => ∃ (p h m : Int) (l : List Int) (va : Option Addr) (vc : Nat), e = .returned (.tuple #[.agg #[.int .i64 p, .int .i64 h, .int .i64 m, .slice va l.length vc], .bool ok]) ∧ Hid (w'.ownsRow (w.heap.size + 1) 2 1 (.slice va l.length vc) l.length (ints l)) ∧ Hid (ok = true → (parB t).1 = (p, h, m, l)) ∧ Hid (Below (w.heap.size + 1) (w.alloc (.cells #[.int .i64 0, .int .i64 0, .int .i64 0, .int .i64 0, .slice none 0 0] 29)) w') := by
    refine hP.mono fun e w' ⟨hb, p, h, m, l, va, vc, e1, hO, hq⟩ => ⟨p, h, m, l, va, vc, by rw [e1, hok], ?_, by rw [hok]; exact hq, ?_⟩
    · have := hO; simp at this; exact this
    · have := hb; simp at this; exact this
  have HOK : Hid ((parB t).2 = ok) := hok.symm
  clear hP hok
  cases ok
  · clear hbad
    go_enter Tryd.func8, Tryd.ntmps8
    go_wp2_with (first
      | (go_at_call 25; (with_reducible refine hP'.mono ?_); clear hP'; rintro e u2 ⟨p, h, m, l, va, vc, rfl, HO2, HQ2, HB2⟩; have hbx := below_box (w := u2) (.cells #[.int .i64 p, .int .i64 h, .int .i64 m, .slice va l.length vc] 27); have HB3 : Hid (Below w.heap.size w (u2.alloc (.cells #[.int .i64 p, .int .i64 h, .int .i64 m, .slice va l.length vc] 27))) := (HB1.out.trans (HB2.out.mono (by omega))).trans (hbx.mono (by have := HB2.out.size; simp at this; omega)); have HR3 : Hid ((u2.alloc (.cells #[.int .i64 p, .int .i64 h, .int .i64 m, .slice va l.length vc] 27)).heap[w.heap.size]? = some (.cells #[.int .i64 0, .int .i64 0, .int .i64 0, .int .i64 0, .slice none 0 0] 29 (0, 0))) := (keepb ((HB2.out.block w.heap.size (by omega)).trans HR1.out) hbx).out; obtain ⟨⟨r0, r1, r2, r3, r4⟩, f0, f1, f2, f3, f4⟩ := cells5 HR3.out; clear hbx))
    obtain ⟨j0, j1, j2, j3, j4⟩ := five_set HR3.out (.int .i64 5) (.int .i64 0) (.int .i64 0) (.int .i64 0) (.slice none 0 0)
    refine bodyPost_ret (v := .agg #[.int .i64 5, .int .i64 0, .int .i64 0, .int .i64 0, .slice none 0 0]) (by simp [results, Tryd.results8, go_sem, j0, j1, j2, j3, j4]) rfl ?_
    exact ⟨rfl, five_below HB3.out (Nat.le_refl _) _ _ _ _ _⟩
  · exfalso
    apply hbad
    unfold pbR
    rw [HOK.out, if_pos rfl]

theorem lwBig_any (cn cc : Nat) (ca : Option Addr) (w : World) : Calls Tryd.prog 4 #[.slice ca cn cc] w fun e w' => e = .returned (.bool (decide ((1048576 : Int) < (cn : Int)))) ∧ w' = w := by
  go_enter Tryd.func4, Tryd.ntmps4
  go_wp2
  go_ret
  exact ⟨rfl, rfl⟩
theorem fieldText0 (a b : Value) (W : World) : (Instr.field 32 (.agg #[a, b]) 0).run Tryd.prog W = .ok a W := by
  kernel_rfl
theorem fieldText1 (a b : Value) (W : World) : (Instr.field 32 (.agg #[a, b]) 1).run Tryd.prog W = .ok b W := by
  kernel_rfl
theorem fieldBlk0 (a b c d e : Value) (W : World) : (Instr.field 29 (.agg #[a, b, c, d, e]) 0).run Tryd.prog W = .ok a W := by
  kernel_rfl
theorem digs_len (u : Nat) : 1 ≤ (Lib.decDigits u).length := by
  cases e : Lib.decDigits u with
  | nil => exact absurd e (digs_ne u)
  | cons x y => simp
theorem pb_bad {t : List UInt8} (h : (pbR t).1 ≠ 0) : pbR t = (5, (0, 0, 0, [])) := by
  unfold pbR at h ⊢
  by_cases e : (parB t).2 = true
  · rw [if_pos e] at h; exact absurd rfl h
  · rw [if_neg e]
theorem pb_ok {t : List UInt8} (h : (pbR t).1 = 0) : btR (pbR t).2.1 (pbR t).2.2.1 (pbR t).2.2.2.1 (pbR t).2.2.2.2 = (0, t) := by
  unfold pbR at h ⊢
  by_cases e : (parB t).2 = true
  · simp only [if_pos e] at h ⊢
    obtain ⟨h1, h2⟩ := parB_sound e
    unfold btR
    rw [if_neg (by simpa using h1), h2]
  · simp only [if_neg e] at h
    cases h
theorem bt_ok {p h m : Int} {l : List Int} {s : List UInt8} (hb : btR p h m l = (0, s)) : pbR s = (0, (p, h, m, l)) ∧ 11 ≤ s.length := by
  unfold btR at hb
  by_cases e : blR p h m l ≠ 0
  · rw [if_pos e] at hb
    exact absurd (Prod.ext_iff.1 hb).1 e
  · rw [if_neg e] at hb
    have hs : blT p h m l = s := (Prod.ext_iff.1 hb).2
    have e0 : blR p h m l = 0 := by simpa using e
    have hp := parB_blT e0
    subst hs
    refine ⟨by unfold pbR; rw [hp]; rfl, ?_⟩
    unfold blT blHd
    have d1 := digs_len p.toNat
    have d2 := digs_len h.toNat
    have d3 := digs_len m.toNat
    have d4 : 1 ≤ (txsT l).length := by
      unfold txsT
      by_cases el : l = []
      · rw [if_pos el]; simp
      · rw [if_neg el]
        cases l with
        | nil => exact absurd rfl el
        | cons x y => simp only [plusT, dec]; have := digs_len x.toNat; simp; omega
    simp only [List.length_append, List.length_cons, List.length_nil, dec]
    omega
theorem bt_code {p h m c : Int} {l : List Int} {s : List UInt8} (hb : btR p h m l = (c, s)) (h0 : c ≠ 0) : blR p h m l = c := by
  unfold btR at hb
  by_cases e : blR p h m l ≠ 0
  · rw [if_pos e] at hb
    exact (Prod.ext_iff.1 hb).1
  · rw [if_neg e] at hb
    exact absurd (Prod.ext_iff.1 hb).1.symm h0
theorem bt_len {p h m : Int} {l : List Int} : (btR p h m l).2.length ≤ 200 := by
  unfold btR
  by_cases e : blR p h m l ≠ 0
  · rw [if_pos e]; simp
  · rw [if_neg e]; exact bl_len (bl_ok (by simpa using e))
theorem rew_falls {z : Int} (h : 1 ≤ z) : rewQ (z + 1) ≤ rewQ z := by
  unfold rewQ
  have h1 : ((z - 1) / 8).toNat ≤ ((z + 1 - 1) / 8).toNat := by omega
  have h2 : (2 : Int) ^ ((z - 1) / 8).toNat ≤ 2 ^ ((z + 1 - 1) / 8).toNat := by exact_mod_cast Nat.pow_le_pow_right (by omega) h1
  have h3 : (0 : Int) < 2 ^ ((z - 1) / 8).toNat := Int.pow_pos (by omega)
  have h4 : (0 : Int) < 2 ^ ((z + 1 - 1) / 8).toNat := Int.pow_pos (by omega)
  refine Int.le_ediv_of_mul_le h3 ?_
  refine Int.le_trans (Int.mul_le_mul_of_nonneg_left h2 (Int.ediv_nonneg (by omega) (Int.le_of_lt h4))) ?_
  exact Int.ediv_mul_le _ (by omega)

set_option maxRecDepth 20000 in
set_option maxHeartbeats 16000000 in
theorem lawBlocks (cn cc : Nat) (ca : Option Addr) (l0 : List Int) (w : World) (hTb : Tb w) (hB : BAt w ca cn l0) :
    Calls Tryd.prog 3 #[.slice ca cn cc] w fun e w' => e = .returned (.bool true) ∧ Below w.heap.size w w' := by
  have hbig := lwBig_any cn cc ca w
  by_cases hcn : 1048576 < cn
  · have d0 : decide ((1048576 : Int) < (cn : Int)) = true := decide_eq_true (by omega)
    rw [d0] at hbig
    go_enter Tryd.func3, Tryd.ntmps3
    go_wp2_with (go_at_call 4; (with_reducible refine hbig.mono ?_); clear hbig; rintro e w1 ⟨rfl, hw⟩; have hw2 := hw.symm; subst hw2)
    go_ret
    exact ⟨rfl, Below.refl _ _⟩
  have d0 : decide ((1048576 : Int) < (cn : Int)) = false := decide_eq_false (by omega)
  rw [d0] at hbig
  have hcn2 : cn ≤ 1048576 := by omega
  have hmix : Tryd.prog.follows .mixedOrders = true := by kernel_rfl
  have hft0 := fieldText0
  have hft1 := fieldText1
  have hfb0 := fieldBlk0
  have hfi := fieldInt
  have HTB : Hid (∀ W, Below w.heap.size w W → Tb W) := fun W hW => hTb.below hW (Nat.le_refl _)
  have HDT : Hid (∀ W, Below w.heap.size w W → Calls Tryd.prog 5 #[.slice ca cn cc] W fun e w' => ∃ t : List UInt8, e = .returned (.string (str t)) ∧ t.length ≤ 200 ∧ Hid (Below W.heap.size W w')) := fun W hW => drawText_any cn cc ca l0 W hcn2 (hB.below hW)
  have HDB : Hid (∀ W, Below w.heap.size w W → Calls Tryd.prog 9 #[.slice ca cn cc] W fun e w' => OutBk W w' e) := fun W hW => drawBlock_any cn cc ca l0 W hcn2 (hB.below hW)
  have HDR : Hid (∀ W, Below w.heap.size w W → Calls Tryd.prog 12 #[.slice ca cn cc] W fun e w' => ∃ z : Int, e = .returned (.int .i64 z) ∧ (0 ≤ z ∧ z ≤ 41) ∧ Hid (Below W.heap.size W w')) := fun W hW => drawReward_any cn cc ca l0 W hcn2 (hB.below hW)
  have hdt := HDT.out w (Below.refl _ _)
  clear hTb hB d0 hcn hcn2
  go_enter Tryd.func3, Tryd.ntmps3
  go_wp2_with (first
    | (go_at_call 4; (with_reducible refine hbig.mono ?_); clear hbig; rintro e w1 ⟨rfl, hw⟩; have hw2 := hw.symm; subst hw2)
    | (go_at_call 5; (with_reducible refine hdt.mono ?_); clear hdt; rintro e v1 ⟨t, rfl, htl, HB1⟩; obtain ⟨⟨cd, bp, bh, bm, res⟩, hr⟩ : ∃ q, q = pbR t := ⟨_, rfl⟩; have HR : Hid (pbR t = (cd, bp, bh, bm, res)) := hr.symm; have hip : Calls Tryd.prog 6 #[.string (str t)] v1 fun e w' => ∃ va vc, e = .returned (.agg #[.int .i64 cd, .int .i64 bp, .int .i64 bh, .int .i64 bm, .slice va res.length vc]) ∧ Hid (w'.ownsRow v1.heap.size 2 1 (.slice va res.length vc) res.length (ints res)) ∧ Hid (Below v1.heap.size v1 w') := (iParseBlock_any t v1 (by omega) (HTB.out v1 HB1.out)).mono (fun e w' ⟨hb, va, vc, e1, hO⟩ => ⟨va, vc, by rw [e1, ← hr], by rw [← hr] at hO; exact hO, hb⟩); clear hr)
    | (go_at_call 6; (with_reducible refine hip.mono ?_); clear hip; rintro e v2 ⟨va, vc, rfl, HO2, HB2b⟩; have hbx := below_box (w := v2) (.cells #[.int .i64 cd, .int .i64 bp, .int .i64 bh, .int .i64 bm, .slice va res.length vc] 29); have HB2 : Hid (Below w.heap.size w (v2.alloc (.cells #[.int .i64 cd, .int .i64 bp, .int .i64 bh, .int .i64 bm, .slice va res.length vc] 29))) := (HB1.out.trans (HB2b.out.mono HB1.out.size)).trans (hbx.mono (Nat.le_trans HB1.out.size HB2b.out.size)); have HX2 : Hid ((v2.alloc (.cells #[.int .i64 cd, .int .i64 bp, .int .i64 bh, .int .i64 bm, .slice va res.length vc] 29)).heap[v2.heap.size]? = some (.cells #[.int .i64 cd, .int .i64 bp, .int .i64 bh, .int .i64 bm, .slice va res.length vc] 29 (0, 0))) := heap_alloc_new _ _; have HI2 : Hid (IAt (v2.alloc (.cells #[.int .i64 cd, .int .i64 bp, .int .i64 bh, .int .i64 bm, .slice va res.length vc] 29)) va res.length res ∧ res.length ≤ vc ∧ vc ≤ maxLen) := ⟨iat_row (HO2.out.alloc _) rfl, (row_caps HO2.out).1, (row_caps HO2.out).2⟩; clear hbx))
  have hss := str_yes (s := str t) (x := str t) rfl
  have hrl : res.length ≤ 6 := by have := pbR_len t; rw [HR.out] at this; exact this
  by_cases hcd : cd = 0
  · subst hcd
    have hbt : btR bp bh bm res = (0, t) := by have := pb_ok (t := t) (by rw [HR.out]); rw [HR.out] at this; exact this
    have cB : ∀ dd os, Calls Tryd.prog 7 #[.agg #[.int .i64 bp, .int .i64 bh, .int .i64 bm, .slice va res.length vc]] (grow (redrawn (v2.alloc (.cells #[.int .i64 0, .int .i64 bp, .int .i64 bh, .int .i64 bm, .slice va res.length vc] 29)) dd) os) fun e w'' => e = .returned (.agg #[.int .i64 0, .string (str t)]) ∧ ∃ p : Regrown, w'' = grow (redrawn (v2.alloc (.cells #[.int .i64 0, .int .i64 bp, .int .i64 bh, .int .i64 bm, .slice va res.length vc] 29)) p.d) p.os := fun dd os => Calls.regrown_of (by
      have hb := below_regrown (v2.alloc (.cells #[.int .i64 0, .int .i64 bp, .int .i64 bh, .int .i64 bm, .slice va res.length vc] 29)) dd os
      have := iBlockText_any res.length vc va bp bh bm res (grow (redrawn (v2.alloc (.cells #[.int .i64 0, .int .i64 bp, .int .i64 bh, .int .i64 bm, .slice va res.length vc] 29)) dd) os) (by omega) HI2.out.2.1 HI2.out.2.2 (HI2.out.1.below hb (Nat.le_refl _)) (HTB.out _ (HB2.out.trans (hb.mono HB2.out.size)))
      rw [hbt] at this
      exact this)
    obtain ⟨⟨x0, x1, x2, x3, x4⟩, _⟩ := cells5 HX2.out
    have y0 := cell_regrown x0
    have y1 := cell_regrown x1
    have y2 := cell_regrown x2
    have y3 := cell_regrown x3
    have y4 := cell_regrown x4
    clear x0 x1 x2 x3 x4
    refine wp_region_quiet_below hmix (by kernel_rfl) ?_
    repeat (go_big_quiet_step (first | exact cB _ _))
    refine wpQuiet_nil ?_
    intro _ hw'
    obtain ⟨⟨dq, osq⟩, hw''⟩ := hw'
    subst hw''
    obtain ⟨u, hu⟩ : ∃ U, U = grow (redrawn (v2.alloc (.cells #[.int .i64 0, .int .i64 bp, .int .i64 bh, .int .i64 bm, .slice va res.length vc] 29)) dq) osq := ⟨_, rfl⟩
    rw [← hu]
    have HBU : Hid (Below w.heap.size w u) := HB2.out.trans (Below.mono (by rw [hu]; exact below_regrown _ _ _) HB2.out.size)
    clear hu y0 y1 y2 y3 y4 cB hbt hss hrl
    have hdb := HDB.out u HBU.out
    go_wp2_with (first
      | (go_at_call 9; (with_reducible refine hdb.mono ?_); clear hdb; rintro e v4 ⟨p, h, m, l, ba, bc, rfl, HO4, hl7, HB4⟩; have HV4 : Hid (Below w.heap.size w (v4.alloc (.cells #[.int .i64 p, .int .i64 h, .int .i64 m, .slice ba l.length bc] 27))) := (HBU.out.trans (HB4.out.mono HBU.out.size)).trans ((below_box _).mono (Nat.le_trans HBU.out.size HB4.out.size)); have HX4 : Hid ((v4.alloc (.cells #[.int .i64 p, .int .i64 h, .int .i64 m, .slice ba l.length bc] 27)).heap[v4.heap.size]? = some (.cells #[.int .i64 p, .int .i64 h, .int .i64 m, .slice ba l.length bc] 27 (0, 0))) := heap_alloc_new _ _; have HI4 : Hid (IAt (v4.alloc (.cells #[.int .i64 p, .int .i64 h, .int .i64 m, .slice ba l.length bc] 27)) ba l.length l ∧ l.length ≤ bc ∧ bc ≤ maxLen) := ⟨iat_row (HO4.out.alloc _) rfl, (row_caps HO4.out).1, (row_caps HO4.out).2⟩; obtain ⟨⟨c2, s2⟩, hb⟩ : ∃ q, q = btR p h m l := ⟨_, rfl⟩; have HBT : Hid (btR p h m l = (c2, s2)) := hb.symm; have HSL : Hid (s2.length ≤ 200) := (by have := bt_len (p := p) (h := h) (m := m) (l := l); rw [← hb] at this; exact this); have hbt := iBlockText_any l.length bc ba p h m l (v4.alloc (.cells #[.int .i64 p, .int .i64 h, .int .i64 m, .slice ba l.length bc] 27)) (by omega) HI4.out.2.1 HI4.out.2.2 HI4.out.1 (HTB.out _ HV4.out); rw [← hb] at hbt; clear hb)
      | (go_at_call 7; (with_reducible refine hbt.mono ?_); clear hbt; rintro e v5 ⟨rfl, hb5⟩; have hbx5 : Below (v4.alloc (.cells #[.int .i64 p, .int .i64 h, .int .i64 m, .slice ba l.length bc] 27)).heap.size (v4.alloc (.cells #[.int .i64 p, .int .i64 h, .int .i64 m, .slice ba l.length bc] 27)) (v5.alloc (.cells #[.int .i64 c2, .string (str s2)] 32)) := hb5.trans ((below_box _).mono hb5.size); have HQ4 : Hid (Below (v4.alloc (.cells #[.int .i64 p, .int .i64 h, .int .i64 m, .slice ba l.length bc] 27)).heap.size (v4.alloc (.cells #[.int .i64 p, .int .i64 h, .int .i64 m, .slice ba l.length bc] 27)) (v5.alloc (.cells #[.int .i64 c2, .string (str s2)] 32))) := hbx5; have HV5 : Hid (Below w.heap.size w (v5.alloc (.cells #[.int .i64 c2, .string (str s2)] 32))) := HV4.out.trans (hbx5.mono HV4.out.size); have HX5 : Hid ((v5.alloc (.cells #[.int .i64 c2, .string (str s2)] 32)).heap[v5.heap.size]? = some (.cells #[.int .i64 c2, .string (str s2)] 32 (0, 0))) := heap_alloc_new _ _; obtain ⟨⟨r0, rp, rh, rm, rl⟩, hr2⟩ : ∃ q, q = pbR s2 := ⟨_, rfl⟩; have HR2 : Hid (pbR s2 = (r0, rp, rh, rm, rl)) := hr2.symm; have hip2 : Calls Tryd.prog 6 #[.string (str s2)] (v5.alloc (.cells #[.int .i64 c2, .string (str s2)] 32)) fun e w' => ∃ ra rc, e = .returned (.agg #[.int .i64 r0, .int .i64 rp, .int .i64 rh, .int .i64 rm, .slice ra rl.length rc]) ∧ Hid (w'.ownsRow (v5.alloc (.cells #[.int .i64 c2, .string (str s2)] 32)).heap.size 2 1 (.slice ra rl.length rc) rl.length (ints rl)) ∧ Hid (Below (v5.alloc (.cells #[.int .i64 c2, .string (str s2)] 32)).heap.size (v5.alloc (.cells #[.int .i64 c2, .string (str s2)] 32)) w') := (iParseBlock_any s2 (v5.alloc (.cells #[.int .i64 c2, .string (str s2)] 32)) (by have := HSL.out; omega) (HTB.out _ HV5.out)).mono (fun e w' ⟨hb, va, vc, e1, hO⟩ => ⟨va, vc, by rw [e1, ← hr2], by rw [← hr2] at hO; exact hO, hb⟩); clear hr2 hb5 hbx5)
      | (go_at_call 6; (with_reducible refine hip2.mono ?_); clear hip2; rintro e v6 ⟨ra, rc, rfl, HO6, HB6⟩; have hbx6 : Below (v5.alloc (.cells #[.int .i64 c2, .string (str s2)] 32)).heap.size (v5.alloc (.cells #[.int .i64 c2, .string (str s2)] 32)) (v6.alloc (.cells #[.int .i64 r0, .int .i64 rp, .int .i64 rh, .int .i64 rm, .slice ra rl.length rc] 29)) := HB6.out.trans ((below_box _).mono HB6.out.size); have HQ5 : Hid (Below (v5.alloc (.cells #[.int .i64 c2, .string (str s2)] 32)).heap.size (v5.alloc (.cells #[.int .i64 c2, .string (str s2)] 32)) (v6.alloc (.cells #[.int .i64 r0, .int .i64 rp, .int .i64 rh, .int .i64 rm, .slice ra rl.length rc] 29))) := hbx6; have HV6 : Hid (Below w.heap.size w (v6.alloc (.cells #[.int .i64 r0, .int .i64 rp, .int .i64 rh, .int .i64 rm, .slice ra rl.length rc] 29))) := HV5.out.trans (hbx6.mono HV5.out.size); have HX6 : Hid ((v6.alloc (.cells #[.int .i64 r0, .int .i64 rp, .int .i64 rh, .int .i64 rm, .slice ra rl.length rc] 29)).heap[v6.heap.size]? = some (.cells #[.int .i64 r0, .int .i64 rp, .int .i64 rh, .int .i64 rm, .slice ra rl.length rc] 29 (0, 0))) := heap_alloc_new _ _; have HI6 : Hid (IAt (v6.alloc (.cells #[.int .i64 r0, .int .i64 rp, .int .i64 rh, .int .i64 rm, .slice ra rl.length rc] 29)) ra rl.length rl) := iat_row (HO6.out.alloc _) rfl; have hdr := HDR.out (v6.alloc (.cells #[.int .i64 r0, .int .i64 rp, .int .i64 rh, .int .i64 rm, .slice ra rl.length rc] 29)) HV6.out; clear hbx6)
      | (go_at_call 12; (with_reducible refine hdr.mono ?_); clear hdr; rintro e v7 ⟨z, rfl, hz, HB7⟩; have HV7 : Hid (Below w.heap.size w v7) := HV6.out.trans (HB7.out.mono HV6.out.size); have hwz := IntWalk.i64_in (z + 1) (by omega); obtain ⟨⟨ac, av⟩, ha⟩ : ∃ q, q = rewR z := ⟨_, rfl⟩; have HA : Hid (rewR z = (ac, av)) := ha.symm; have hrw := iRewardOf_any z v7; rw [← ha] at hrw; clear ha)
      | (go_at_call 13; have hq := hrw; clear hrw; (with_reducible refine hq.mono ?_); clear hq; rintro e v8 ⟨rfl, hb8⟩; have hbx8 : Below (v6.alloc (.cells #[.int .i64 r0, .int .i64 rp, .int .i64 rh, .int .i64 rm, .slice ra rl.length rc] 29)).heap.size (v6.alloc (.cells #[.int .i64 r0, .int .i64 rp, .int .i64 rh, .int .i64 rm, .slice ra rl.length rc] 29)) (v8.alloc (.cells #[.int .i64 ac, .int .i64 av] 38)) := HB7.out.trans ((hb8.trans ((below_box _).mono hb8.size)).mono HB7.out.size); have HQ6 : Hid (Below (v6.alloc (.cells #[.int .i64 r0, .int .i64 rp, .int .i64 rh, .int .i64 rm, .slice ra rl.length rc] 29)).heap.size (v6.alloc (.cells #[.int .i64 r0, .int .i64 rp, .int .i64 rh, .int .i64 rm, .slice ra rl.length rc] 29)) (v8.alloc (.cells #[.int .i64 ac, .int .i64 av] 38))) := hbx8; have HV8 : Hid (Below w.heap.size w (v8.alloc (.cells #[.int .i64 ac, .int .i64 av] 38))) := HV6.out.trans (hbx8.mono HV6.out.size); have HX8 : Hid ((v8.alloc (.cells #[.int .i64 ac, .int .i64 av] 38)).heap[v8.heap.size]? = some (.cells #[.int .i64 ac, .int .i64 av] 38 (0, 0))) := heap_alloc_new _ _; obtain ⟨⟨nc, nv⟩, hn⟩ : ∃ q, q = rewR (z + 1) := ⟨_, rfl⟩; have HNN : Hid (rewR (z + 1) = (nc, nv)) := hn.symm; have hrw2 := iRewardOf_any (z + 1) (v8.alloc (.cells #[.int .i64 ac, .int .i64 av] 38)); rw [← hn] at hrw2; clear hn hb8 hbx8)
      | (go_at_call 13; have hq := hrw2; clear hrw2; (with_reducible refine hq.mono ?_); clear hq; rintro e v9 ⟨rfl, hb9⟩; have hbx9 : Below (v8.alloc (.cells #[.int .i64 ac, .int .i64 av] 38)).heap.size (v8.alloc (.cells #[.int .i64 ac, .int .i64 av] 38)) (v9.alloc (.cells #[.int .i64 nc, .int .i64 nv] 38)) := hb9.trans ((below_box _).mono hb9.size); have HQ8 : Hid (Below (v8.alloc (.cells #[.int .i64 ac, .int .i64 av] 38)).heap.size (v8.alloc (.cells #[.int .i64 ac, .int .i64 av] 38)) (v9.alloc (.cells #[.int .i64 nc, .int .i64 nv] 38))) := hbx9; have HV9 : Hid (Below w.heap.size w (v9.alloc (.cells #[.int .i64 nc, .int .i64 nv] 38))) := HV8.out.trans (hbx9.mono HV8.out.size); have HX9 : Hid ((v9.alloc (.cells #[.int .i64 nc, .int .i64 nv] 38)).heap[v9.heap.size]? = some (.cells #[.int .i64 nc, .int .i64 nv] 38 (0, 0))) := heap_alloc_new _ _; clear hb9 hbx9))
    all_goals first
      | (have hc0 : c2 ≠ 0 := by have hh := ‹(c2 != 0) = true›; simpa using hh
         have X4 := keepb HX4.out HQ4.out
         have cS : ∀ dd os, Calls Tryd.prog 10 #[.agg #[.int .i64 p, .int .i64 h, .int .i64 m, .slice ba l.length bc]] (grow (redrawn (v5.alloc (.cells #[.int .i64 c2, .string (str s2)] 32)) dd) os) fun e w'' => e = .returned (.agg #[.int .i64 c2, .string (str s2)]) ∧ ∃ p : Regrown, w'' = grow (redrawn (v5.alloc (.cells #[.int .i64 c2, .string (str s2)] 32)) p.d) p.os := fun dd os => Calls.regrown_of (by
           have := sBlockText_any l.length bc ba p h m l (grow (redrawn (v5.alloc (.cells #[.int .i64 c2, .string (str s2)] 32)) dd) os) (by omega) HI4.out.2.1 HI4.out.2.2 ((HI4.out.1.below HQ4.out (Nat.le_refl _)).below (below_regrown (v5.alloc (.cells #[.int .i64 c2, .string (str s2)] 32)) dd os) (Nat.le_refl _))
           rw [HBT.out] at this
           exact this)
         have cF : ∀ dd os, Calls Tryd.prog 11 #[.agg #[.int .i64 p, .int .i64 h, .int .i64 m, .slice ba l.length bc]] (grow (redrawn (v5.alloc (.cells #[.int .i64 c2, .string (str s2)] 32)) dd) os) fun e w'' => e = .returned (.int .i64 c2) ∧ ∃ p : Regrown, w'' = grow (redrawn (v5.alloc (.cells #[.int .i64 c2, .string (str s2)] 32)) p.d) p.os := fun dd os => Calls.regrown_of (by
           have := iBlockFault_any l.length bc ba p h m l (grow (redrawn (v5.alloc (.cells #[.int .i64 c2, .string (str s2)] 32)) dd) os) (by omega) HI4.out.2.1 HI4.out.2.2 ((HI4.out.1.below HQ4.out (Nat.le_refl _)).below (below_regrown (v5.alloc (.cells #[.int .i64 c2, .string (str s2)] 32)) dd os) (Nat.le_refl _))
           rw [bt_code HBT.out hc0] at this
           exact this)
         obtain ⟨x0, x1, x2, x3, _⟩ := cells4 X4.out
         obtain ⟨z0, z1⟩ := cells2 HX5.out
         have y0 := cell_regrown x0
         have y1 := cell_regrown x1
         have y2 := cell_regrown x2
         have y3 := cell_regrown x3
         have y4 := cell_regrown z0
         have y5 := cell_regrown z1
         clear x0 x1 x2 x3 z0 z1 hip2
         refine wp_region_quiet_below hmix (by kernel_rfl) ?_
         repeat (go_big_quiet_step (first | exact cS _ _ | exact cF _ _))
         refine wpQuiet_nil ?_
         intro _ hw'
         obtain ⟨⟨dq, osq⟩, hw''⟩ := hw'
         subst hw''
         go_wp2
         go_ret
         exact ⟨rfl, HV5.out.trans ((below_regrown (v5.alloc (.cells #[.int .i64 c2, .string (str s2)] 32)) dq osq).mono HV5.out.size)⟩)
      | (obtain rfl : c2 = 0 := by have hh := ‹(c2 != 0) = false›; simpa using hh
         obtain ⟨hpb, hlen⟩ := bt_ok HBT.out
         rw [HR2.out] at hpb
         obtain ⟨e0, e1, e2, e3, e4⟩ : r0 = 0 ∧ p = rp ∧ h = rh ∧ m = rm ∧ l = rl := by simp at hpb; exact ⟨hpb.1, hpb.2.1.symm, hpb.2.2.1.symm, hpb.2.2.2.1.symm, hpb.2.2.2.2.symm⟩
         subst e0
         subst e1
         subst e2
         subst e3
         subst e4
         have hsz : (str s2).size = s2.length := rfl
         have hgt : (10 : Int) < (s2.length : Int) := by omega
         have hgd : decide ((10 : Int) < (s2.length : Int)) = true := decide_eq_true hgt
         have X6 := keepb (keepb HX6.out HQ6.out).out HQ8.out
         have X5 := keepb (keepb (keepb HX5.out HQ5.out).out HQ6.out).out HQ8.out
         have X4 := keepb (keepb (keepb (keepb HX4.out HQ4.out).out HQ5.out).out HQ6.out).out HQ8.out
         have X8 := keepb HX8.out HQ8.out
         have HI9 : Hid (IAt (v9.alloc (.cells #[.int .i64 nc, .int .i64 nv] 38)) ra l.length l) := (HI6.out.below HQ6.out (Nat.le_refl _)).below HQ8.out (Nat.le_refl _)
         have HJ9 : Hid (IAt (v9.alloc (.cells #[.int .i64 nc, .int .i64 nv] 38)) ba l.length l) := (((HI4.out.1.below HQ4.out (Nat.le_refl _)).below HQ5.out (Nat.le_refl _)).below HQ6.out (Nat.le_refl _)).below HQ8.out (Nat.le_refl _)
         have cN : ∀ dd os, Calls Tryd.prog 14 #[.slice ra l.length rc, .slice ba l.length bc] (grow (redrawn (v9.alloc (.cells #[.int .i64 nc, .int .i64 nv] 38)) dd) os) fun e w'' => e = .returned (.bool true) ∧ ∃ p : Regrown, w'' = grow (redrawn (v9.alloc (.cells #[.int .i64 nc, .int .i64 nv] 38)) p.d) p.os := fun dd os => Calls.regrown_of (lwNums_any ra ba l.length rc bc l _ (by omega) (HI9.out.below (below_regrown (v9.alloc (.cells #[.int .i64 nc, .int .i64 nv] 38)) dd os) (Nat.le_refl _)) (HJ9.out.below (below_regrown (v9.alloc (.cells #[.int .i64 nc, .int .i64 nv] 38)) dd os) (Nat.le_refl _)))
         have cR : ∀ dd os, Calls Tryd.prog 15 #[.int .i64 z] (grow (redrawn (v9.alloc (.cells #[.int .i64 nc, .int .i64 nv] 38)) dd) os) fun e w'' => e = .returned (.agg #[.int .i64 ac, .int .i64 av]) ∧ ∃ p : Regrown, w'' = grow (redrawn (v9.alloc (.cells #[.int .i64 nc, .int .i64 nv] 38)) p.d) p.os := fun dd os => Calls.regrown_of (by
           have := sRewardOf_any z (grow (redrawn (v9.alloc (.cells #[.int .i64 nc, .int .i64 nv] 38)) dd) os)
           rw [HA.out] at this
           exact this)
         obtain ⟨⟨a0, a1, a2, a3, a4⟩, _⟩ := cells5 X6.out
         obtain ⟨b0, b1, b2, b3, _⟩ := cells4 X4.out
         obtain ⟨d0, d1⟩ := cells2 X5.out
         obtain ⟨f0, f1⟩ := cells2 X8.out
         obtain ⟨g0, g1⟩ := cells2 HX9.out
         have ya0 := cell_regrown a0
         have ya1 := cell_regrown a1
         have ya2 := cell_regrown a2
         have ya3 := cell_regrown a3
         have ya4 := cell_regrown a4
         have yb0 := cell_regrown b0
         have yb1 := cell_regrown b1
         have yb2 := cell_regrown b2
         have yb3 := cell_regrown b3
         have yd0 := cell_regrown d0
         have yd1 := cell_regrown d1
         have yf0 := cell_regrown f0
         have yf1 := cell_regrown f1
         have yg0 := cell_regrown g0
         have yg1 := cell_regrown g1
         clear a0 a1 a2 a3 a4 b0 b1 b2 b3 d0 d1 f0 f1 g0 g1 X4 X5 X6 X8 hpb
         have hor : (ac != 0) = true ∨ (ac = 0 ∧ (nc != 0) = true) ∨ (ac = 0 ∧ nc = 0 ∧ nv ≤ av) := by
           have h1 := HA.out
           have h2 := HNN.out
           unfold rewR at h1 h2
           by_cases i1 : inB z 1 40 = true
           · rw [if_pos i1] at h1
             obtain ⟨k1, k2⟩ := Prod.ext_iff.1 h1
             by_cases i2 : inB (z + 1) 1 40 = true
             · rw [if_pos i2] at h2
               obtain ⟨k3, k4⟩ := Prod.ext_iff.1 h2
               refine .inr (.inr ⟨k1.symm, k3.symm, ?_⟩)
               have e1 : rewQ z = av := k2
               have e2 : rewQ (z + 1) = nv := k4
               rw [← e1, ← e2]
               exact rew_falls (z := z) (inB_true.1 i1).1
             · rw [if_neg i2] at h2
               obtain ⟨k3, k4⟩ := Prod.ext_iff.1 h2
               refine .inr (.inl ⟨k1.symm, ?_⟩)
               have e1 : (3 : Int) = nc := k3
               rw [← e1]
               rfl
           · rw [if_neg i1] at h1
             obtain ⟨k1, k2⟩ := Prod.ext_iff.1 h1
             refine .inl ?_
             have e1 : (3 : Int) = ac := k1
             rw [← e1]
             rfl
         rcases hor with hor | ⟨rfl, hor⟩ | ⟨rfl, rfl, hor⟩
         all_goals
           first | have hdd : decide (nv ≤ av) = true := decide_eq_true hor | skip
           simp only [List.append]
           refine wp_region_quiet_below hmix (by kernel_rfl) ?_
           repeat (go_big_quiet_step (first | exact cN _ _ | exact cR _ _))
           refine wpQuiet_nil ?_
           intro _ hw'
           obtain ⟨⟨dq, osq⟩, hw''⟩ := hw'
           subst hw''
           go_wp2
           go_ret
           exact ⟨rfl, HV9.out.trans ((below_regrown _ dq osq).mono HV9.out.size)⟩)
  · obtain ⟨rfl, rfl, rfl, rfl⟩ : cd = 5 ∧ bp = 0 ∧ bh = 0 ∧ bm = 0 := by
      have := pb_bad (t := t) (by rw [HR.out]; exact hcd)
      rw [HR.out] at this
      simp at this
      exact ⟨this.1, this.2.1, this.2.2.1, this.2.2.2.1⟩
    have cS : ∀ dd os, Calls Tryd.prog 8 #[.string (str t)] (grow (redrawn (v2.alloc (.cells #[.int .i64 5, .int .i64 0, .int .i64 0, .int .i64 0, .slice va res.length vc] 29)) dd) os) fun e w'' => e = .returned (.agg #[.int .i64 5, .int .i64 0, .int .i64 0, .int .i64 0, .slice none 0 0]) ∧ ∃ p : Regrown, w'' = grow (redrawn (v2.alloc (.cells #[.int .i64 5, .int .i64 0, .int .i64 0, .int .i64 0, .slice va res.length vc] 29)) p.d) p.os := fun dd os => Calls.regrown_of (sParseBlock_bad t _ (by omega) (by rw [HR.out]; simp))
    obtain ⟨⟨x0, x1, x2, x3, x4⟩, _⟩ := cells5 HX2.out
    have y0 := cell_regrown x0
    clear x0 x1 x2 x3 x4
    refine wp_region_quiet_below hmix (by kernel_rfl) ?_
    repeat (go_big_quiet_step (first | exact cS _ _))
    refine wpQuiet_nil ?_
    intro _ hw'
    obtain ⟨⟨dq, osq⟩, hw''⟩ := hw'
    subst hw''
    obtain ⟨u, hu⟩ : ∃ U, U = grow (redrawn (v2.alloc (.cells #[.int .i64 5, .int .i64 0, .int .i64 0, .int .i64 0, .slice va res.length vc] 29)) dq) osq := ⟨_, rfl⟩
    rw [← hu]
    have HBU : Hid (Below w.heap.size w u) := HB2.out.trans (Below.mono (by rw [hu]; exact below_regrown _ _ _) HB2.out.size)
    clear hu y0 cS hss hrl
    have hdb := HDB.out u HBU.out
    go_wp2_with (first
      | (go_at_call 9; (with_reducible refine hdb.mono ?_); clear hdb; rintro e v4 ⟨p, h, m, l, ba, bc, rfl, HO4, hl7, HB4⟩; have HV4 : Hid (Below w.heap.size w (v4.alloc (.cells #[.int .i64 p, .int .i64 h, .int .i64 m, .slice ba l.length bc] 27))) := (HBU.out.trans (HB4.out.mono HBU.out.size)).trans ((below_box _).mono (Nat.le_trans HBU.out.size HB4.out.size)); have HX4 : Hid ((v4.alloc (.cells #[.int .i64 p, .int .i64 h, .int .i64 m, .slice ba l.length bc] 27)).heap[v4.heap.size]? = some (.cells #[.int .i64 p, .int .i64 h, .int .i64 m, .slice ba l.length bc] 27 (0, 0))) := heap_alloc_new _ _; have HI4 : Hid (IAt (v4.alloc (.cells #[.int .i64 p, .int .i64 h, .int .i64 m, .slice ba l.length bc] 27)) ba l.length l ∧ l.length ≤ bc ∧ bc ≤ maxLen) := ⟨iat_row (HO4.out.alloc _) rfl, (row_caps HO4.out).1, (row_caps HO4.out).2⟩; obtain ⟨⟨c2, s2⟩, hb⟩ : ∃ q, q = btR p h m l := ⟨_, rfl⟩; have HBT : Hid (btR p h m l = (c2, s2)) := hb.symm; have HSL : Hid (s2.length ≤ 200) := (by have := bt_len (p := p) (h := h) (m := m) (l := l); rw [← hb] at this; exact this); have hbt := iBlockText_any l.length bc ba p h m l (v4.alloc (.cells #[.int .i64 p, .int .i64 h, .int .i64 m, .slice ba l.length bc] 27)) (by omega) HI4.out.2.1 HI4.out.2.2 HI4.out.1 (HTB.out _ HV4.out); rw [← hb] at hbt; clear hb)
      | (go_at_call 7; (with_reducible refine hbt.mono ?_); clear hbt; rintro e v5 ⟨rfl, hb5⟩; have hbx5 : Below (v4.alloc (.cells #[.int .i64 p, .int .i64 h, .int .i64 m, .slice ba l.length bc] 27)).heap.size (v4.alloc (.cells #[.int .i64 p, .int .i64 h, .int .i64 m, .slice ba l.length bc] 27)) (v5.alloc (.cells #[.int .i64 c2, .string (str s2)] 32)) := hb5.trans ((below_box _).mono hb5.size); have HQ4 : Hid (Below (v4.alloc (.cells #[.int .i64 p, .int .i64 h, .int .i64 m, .slice ba l.length bc] 27)).heap.size (v4.alloc (.cells #[.int .i64 p, .int .i64 h, .int .i64 m, .slice ba l.length bc] 27)) (v5.alloc (.cells #[.int .i64 c2, .string (str s2)] 32))) := hbx5; have HV5 : Hid (Below w.heap.size w (v5.alloc (.cells #[.int .i64 c2, .string (str s2)] 32))) := HV4.out.trans (hbx5.mono HV4.out.size); have HX5 : Hid ((v5.alloc (.cells #[.int .i64 c2, .string (str s2)] 32)).heap[v5.heap.size]? = some (.cells #[.int .i64 c2, .string (str s2)] 32 (0, 0))) := heap_alloc_new _ _; obtain ⟨⟨r0, rp, rh, rm, rl⟩, hr2⟩ : ∃ q, q = pbR s2 := ⟨_, rfl⟩; have HR2 : Hid (pbR s2 = (r0, rp, rh, rm, rl)) := hr2.symm; have hip2 : Calls Tryd.prog 6 #[.string (str s2)] (v5.alloc (.cells #[.int .i64 c2, .string (str s2)] 32)) fun e w' => ∃ ra rc, e = .returned (.agg #[.int .i64 r0, .int .i64 rp, .int .i64 rh, .int .i64 rm, .slice ra rl.length rc]) ∧ Hid (w'.ownsRow (v5.alloc (.cells #[.int .i64 c2, .string (str s2)] 32)).heap.size 2 1 (.slice ra rl.length rc) rl.length (ints rl)) ∧ Hid (Below (v5.alloc (.cells #[.int .i64 c2, .string (str s2)] 32)).heap.size (v5.alloc (.cells #[.int .i64 c2, .string (str s2)] 32)) w') := (iParseBlock_any s2 (v5.alloc (.cells #[.int .i64 c2, .string (str s2)] 32)) (by have := HSL.out; omega) (HTB.out _ HV5.out)).mono (fun e w' ⟨hb, va, vc, e1, hO⟩ => ⟨va, vc, by rw [e1, ← hr2], by rw [← hr2] at hO; exact hO, hb⟩); clear hr2 hb5 hbx5)
      | (go_at_call 6; (with_reducible refine hip2.mono ?_); clear hip2; rintro e v6 ⟨ra, rc, rfl, HO6, HB6⟩; have hbx6 : Below (v5.alloc (.cells #[.int .i64 c2, .string (str s2)] 32)).heap.size (v5.alloc (.cells #[.int .i64 c2, .string (str s2)] 32)) (v6.alloc (.cells #[.int .i64 r0, .int .i64 rp, .int .i64 rh, .int .i64 rm, .slice ra rl.length rc] 29)) := HB6.out.trans ((below_box _).mono HB6.out.size); have HQ5 : Hid (Below (v5.alloc (.cells #[.int .i64 c2, .string (str s2)] 32)).heap.size (v5.alloc (.cells #[.int .i64 c2, .string (str s2)] 32)) (v6.alloc (.cells #[.int .i64 r0, .int .i64 rp, .int .i64 rh, .int .i64 rm, .slice ra rl.length rc] 29))) := hbx6; have HV6 : Hid (Below w.heap.size w (v6.alloc (.cells #[.int .i64 r0, .int .i64 rp, .int .i64 rh, .int .i64 rm, .slice ra rl.length rc] 29))) := HV5.out.trans (hbx6.mono HV5.out.size); have HX6 : Hid ((v6.alloc (.cells #[.int .i64 r0, .int .i64 rp, .int .i64 rh, .int .i64 rm, .slice ra rl.length rc] 29)).heap[v6.heap.size]? = some (.cells #[.int .i64 r0, .int .i64 rp, .int .i64 rh, .int .i64 rm, .slice ra rl.length rc] 29 (0, 0))) := heap_alloc_new _ _; have HI6 : Hid (IAt (v6.alloc (.cells #[.int .i64 r0, .int .i64 rp, .int .i64 rh, .int .i64 rm, .slice ra rl.length rc] 29)) ra rl.length rl) := iat_row (HO6.out.alloc _) rfl; have hdr := HDR.out (v6.alloc (.cells #[.int .i64 r0, .int .i64 rp, .int .i64 rh, .int .i64 rm, .slice ra rl.length rc] 29)) HV6.out; clear hbx6)
      | (go_at_call 12; (with_reducible refine hdr.mono ?_); clear hdr; rintro e v7 ⟨z, rfl, hz, HB7⟩; have HV7 : Hid (Below w.heap.size w v7) := HV6.out.trans (HB7.out.mono HV6.out.size); have hwz := IntWalk.i64_in (z + 1) (by omega); obtain ⟨⟨ac, av⟩, ha⟩ : ∃ q, q = rewR z := ⟨_, rfl⟩; have HA : Hid (rewR z = (ac, av)) := ha.symm; have hrw := iRewardOf_any z v7; rw [← ha] at hrw; clear ha)
      | (go_at_call 13; have hq := hrw; clear hrw; (with_reducible refine hq.mono ?_); clear hq; rintro e v8 ⟨rfl, hb8⟩; have hbx8 : Below (v6.alloc (.cells #[.int .i64 r0, .int .i64 rp, .int .i64 rh, .int .i64 rm, .slice ra rl.length rc] 29)).heap.size (v6.alloc (.cells #[.int .i64 r0, .int .i64 rp, .int .i64 rh, .int .i64 rm, .slice ra rl.length rc] 29)) (v8.alloc (.cells #[.int .i64 ac, .int .i64 av] 38)) := HB7.out.trans ((hb8.trans ((below_box _).mono hb8.size)).mono HB7.out.size); have HQ6 : Hid (Below (v6.alloc (.cells #[.int .i64 r0, .int .i64 rp, .int .i64 rh, .int .i64 rm, .slice ra rl.length rc] 29)).heap.size (v6.alloc (.cells #[.int .i64 r0, .int .i64 rp, .int .i64 rh, .int .i64 rm, .slice ra rl.length rc] 29)) (v8.alloc (.cells #[.int .i64 ac, .int .i64 av] 38))) := hbx8; have HV8 : Hid (Below w.heap.size w (v8.alloc (.cells #[.int .i64 ac, .int .i64 av] 38))) := HV6.out.trans (hbx8.mono HV6.out.size); have HX8 : Hid ((v8.alloc (.cells #[.int .i64 ac, .int .i64 av] 38)).heap[v8.heap.size]? = some (.cells #[.int .i64 ac, .int .i64 av] 38 (0, 0))) := heap_alloc_new _ _; obtain ⟨⟨nc, nv⟩, hn⟩ : ∃ q, q = rewR (z + 1) := ⟨_, rfl⟩; have HNN : Hid (rewR (z + 1) = (nc, nv)) := hn.symm; have hrw2 := iRewardOf_any (z + 1) (v8.alloc (.cells #[.int .i64 ac, .int .i64 av] 38)); rw [← hn] at hrw2; clear hn hb8 hbx8)
      | (go_at_call 13; have hq := hrw2; clear hrw2; (with_reducible refine hq.mono ?_); clear hq; rintro e v9 ⟨rfl, hb9⟩; have hbx9 : Below (v8.alloc (.cells #[.int .i64 ac, .int .i64 av] 38)).heap.size (v8.alloc (.cells #[.int .i64 ac, .int .i64 av] 38)) (v9.alloc (.cells #[.int .i64 nc, .int .i64 nv] 38)) := hb9.trans ((below_box _).mono hb9.size); have HQ8 : Hid (Below (v8.alloc (.cells #[.int .i64 ac, .int .i64 av] 38)).heap.size (v8.alloc (.cells #[.int .i64 ac, .int .i64 av] 38)) (v9.alloc (.cells #[.int .i64 nc, .int .i64 nv] 38))) := hbx9; have HV9 : Hid (Below w.heap.size w (v9.alloc (.cells #[.int .i64 nc, .int .i64 nv] 38))) := HV8.out.trans (hbx9.mono HV8.out.size); have HX9 : Hid ((v9.alloc (.cells #[.int .i64 nc, .int .i64 nv] 38)).heap[v9.heap.size]? = some (.cells #[.int .i64 nc, .int .i64 nv] 38 (0, 0))) := heap_alloc_new _ _; clear hb9 hbx9))
    all_goals first
      | (have hc0 : c2 ≠ 0 := by have hh := ‹(c2 != 0) = true›; simpa using hh
         have X4 := keepb HX4.out HQ4.out
         have cS : ∀ dd os, Calls Tryd.prog 10 #[.agg #[.int .i64 p, .int .i64 h, .int .i64 m, .slice ba l.length bc]] (grow (redrawn (v5.alloc (.cells #[.int .i64 c2, .string (str s2)] 32)) dd) os) fun e w'' => e = .returned (.agg #[.int .i64 c2, .string (str s2)]) ∧ ∃ p : Regrown, w'' = grow (redrawn (v5.alloc (.cells #[.int .i64 c2, .string (str s2)] 32)) p.d) p.os := fun dd os => Calls.regrown_of (by
           have := sBlockText_any l.length bc ba p h m l (grow (redrawn (v5.alloc (.cells #[.int .i64 c2, .string (str s2)] 32)) dd) os) (by omega) HI4.out.2.1 HI4.out.2.2 ((HI4.out.1.below HQ4.out (Nat.le_refl _)).below (below_regrown (v5.alloc (.cells #[.int .i64 c2, .string (str s2)] 32)) dd os) (Nat.le_refl _))
           rw [HBT.out] at this
           exact this)
         have cF : ∀ dd os, Calls Tryd.prog 11 #[.agg #[.int .i64 p, .int .i64 h, .int .i64 m, .slice ba l.length bc]] (grow (redrawn (v5.alloc (.cells #[.int .i64 c2, .string (str s2)] 32)) dd) os) fun e w'' => e = .returned (.int .i64 c2) ∧ ∃ p : Regrown, w'' = grow (redrawn (v5.alloc (.cells #[.int .i64 c2, .string (str s2)] 32)) p.d) p.os := fun dd os => Calls.regrown_of (by
           have := iBlockFault_any l.length bc ba p h m l (grow (redrawn (v5.alloc (.cells #[.int .i64 c2, .string (str s2)] 32)) dd) os) (by omega) HI4.out.2.1 HI4.out.2.2 ((HI4.out.1.below HQ4.out (Nat.le_refl _)).below (below_regrown (v5.alloc (.cells #[.int .i64 c2, .string (str s2)] 32)) dd os) (Nat.le_refl _))
           rw [bt_code HBT.out hc0] at this
           exact this)
         obtain ⟨x0, x1, x2, x3, _⟩ := cells4 X4.out
         obtain ⟨z0, z1⟩ := cells2 HX5.out
         have y0 := cell_regrown x0
         have y1 := cell_regrown x1
         have y2 := cell_regrown x2
         have y3 := cell_regrown x3
         have y4 := cell_regrown z0
         have y5 := cell_regrown z1
         clear x0 x1 x2 x3 z0 z1 hip2
         refine wp_region_quiet_below hmix (by kernel_rfl) ?_
         repeat (go_big_quiet_step (first | exact cS _ _ | exact cF _ _))
         refine wpQuiet_nil ?_
         intro _ hw'
         obtain ⟨⟨dq, osq⟩, hw''⟩ := hw'
         subst hw''
         go_wp2
         go_ret
         exact ⟨rfl, HV5.out.trans ((below_regrown (v5.alloc (.cells #[.int .i64 c2, .string (str s2)] 32)) dq osq).mono HV5.out.size)⟩)
      | (obtain rfl : c2 = 0 := by have hh := ‹(c2 != 0) = false›; simpa using hh
         obtain ⟨hpb, hlen⟩ := bt_ok HBT.out
         rw [HR2.out] at hpb
         obtain ⟨e0, e1, e2, e3, e4⟩ : r0 = 0 ∧ p = rp ∧ h = rh ∧ m = rm ∧ l = rl := by simp at hpb; exact ⟨hpb.1, hpb.2.1.symm, hpb.2.2.1.symm, hpb.2.2.2.1.symm, hpb.2.2.2.2.symm⟩
         subst e0
         subst e1
         subst e2
         subst e3
         subst e4
         have hsz : (str s2).size = s2.length := rfl
         have hgt : (10 : Int) < (s2.length : Int) := by omega
         have hgd : decide ((10 : Int) < (s2.length : Int)) = true := decide_eq_true hgt
         have X6 := keepb (keepb HX6.out HQ6.out).out HQ8.out
         have X5 := keepb (keepb (keepb HX5.out HQ5.out).out HQ6.out).out HQ8.out
         have X4 := keepb (keepb (keepb (keepb HX4.out HQ4.out).out HQ5.out).out HQ6.out).out HQ8.out
         have X8 := keepb HX8.out HQ8.out
         have HI9 : Hid (IAt (v9.alloc (.cells #[.int .i64 nc, .int .i64 nv] 38)) ra l.length l) := (HI6.out.below HQ6.out (Nat.le_refl _)).below HQ8.out (Nat.le_refl _)
         have HJ9 : Hid (IAt (v9.alloc (.cells #[.int .i64 nc, .int .i64 nv] 38)) ba l.length l) := (((HI4.out.1.below HQ4.out (Nat.le_refl _)).below HQ5.out (Nat.le_refl _)).below HQ6.out (Nat.le_refl _)).below HQ8.out (Nat.le_refl _)
         have cN : ∀ dd os, Calls Tryd.prog 14 #[.slice ra l.length rc, .slice ba l.length bc] (grow (redrawn (v9.alloc (.cells #[.int .i64 nc, .int .i64 nv] 38)) dd) os) fun e w'' => e = .returned (.bool true) ∧ ∃ p : Regrown, w'' = grow (redrawn (v9.alloc (.cells #[.int .i64 nc, .int .i64 nv] 38)) p.d) p.os := fun dd os => Calls.regrown_of (lwNums_any ra ba l.length rc bc l _ (by omega) (HI9.out.below (below_regrown (v9.alloc (.cells #[.int .i64 nc, .int .i64 nv] 38)) dd os) (Nat.le_refl _)) (HJ9.out.below (below_regrown (v9.alloc (.cells #[.int .i64 nc, .int .i64 nv] 38)) dd os) (Nat.le_refl _)))
         have cR : ∀ dd os, Calls Tryd.prog 15 #[.int .i64 z] (grow (redrawn (v9.alloc (.cells #[.int .i64 nc, .int .i64 nv] 38)) dd) os) fun e w'' => e = .returned (.agg #[.int .i64 ac, .int .i64 av]) ∧ ∃ p : Regrown, w'' = grow (redrawn (v9.alloc (.cells #[.int .i64 nc, .int .i64 nv] 38)) p.d) p.os := fun dd os => Calls.regrown_of (by
           have := sRewardOf_any z (grow (redrawn (v9.alloc (.cells #[.int .i64 nc, .int .i64 nv] 38)) dd) os)
           rw [HA.out] at this
           exact this)
         obtain ⟨⟨a0, a1, a2, a3, a4⟩, _⟩ := cells5 X6.out
         obtain ⟨b0, b1, b2, b3, _⟩ := cells4 X4.out
         obtain ⟨d0, d1⟩ := cells2 X5.out
         obtain ⟨f0, f1⟩ := cells2 X8.out
         obtain ⟨g0, g1⟩ := cells2 HX9.out
         have ya0 := cell_regrown a0
         have ya1 := cell_regrown a1
         have ya2 := cell_regrown a2
         have ya3 := cell_regrown a3
         have ya4 := cell_regrown a4
         have yb0 := cell_regrown b0
         have yb1 := cell_regrown b1
         have yb2 := cell_regrown b2
         have yb3 := cell_regrown b3
         have yd0 := cell_regrown d0
         have yd1 := cell_regrown d1
         have yf0 := cell_regrown f0
         have yf1 := cell_regrown f1
         have yg0 := cell_regrown g0
         have yg1 := cell_regrown g1
         clear a0 a1 a2 a3 a4 b0 b1 b2 b3 d0 d1 f0 f1 g0 g1 X4 X5 X6 X8 hpb
         have hor : (ac != 0) = true ∨ (ac = 0 ∧ (nc != 0) = true) ∨ (ac = 0 ∧ nc = 0 ∧ nv ≤ av) := by
           have h1 := HA.out
           have h2 := HNN.out
           unfold rewR at h1 h2
           by_cases i1 : inB z 1 40 = true
           · rw [if_pos i1] at h1
             obtain ⟨k1, k2⟩ := Prod.ext_iff.1 h1
             by_cases i2 : inB (z + 1) 1 40 = true
             · rw [if_pos i2] at h2
               obtain ⟨k3, k4⟩ := Prod.ext_iff.1 h2
               refine .inr (.inr ⟨k1.symm, k3.symm, ?_⟩)
               have e1 : rewQ z = av := k2
               have e2 : rewQ (z + 1) = nv := k4
               rw [← e1, ← e2]
               exact rew_falls (z := z) (inB_true.1 i1).1
             · rw [if_neg i2] at h2
               obtain ⟨k3, k4⟩ := Prod.ext_iff.1 h2
               refine .inr (.inl ⟨k1.symm, ?_⟩)
               have e1 : (3 : Int) = nc := k3
               rw [← e1]
               rfl
           · rw [if_neg i1] at h1
             obtain ⟨k1, k2⟩ := Prod.ext_iff.1 h1
             refine .inl ?_
             have e1 : (3 : Int) = ac := k1
             rw [← e1]
             rfl
         rcases hor with hor | ⟨rfl, hor⟩ | ⟨rfl, rfl, hor⟩
         all_goals
           first | have hdd : decide (nv ≤ av) = true := decide_eq_true hor | skip
           simp only [List.append]
           refine wp_region_quiet_below hmix (by kernel_rfl) ?_
           repeat (go_big_quiet_step (first | exact cN _ _ | exact cR _ _))
           refine wpQuiet_nil ?_
           intro _ hw'
           obtain ⟨⟨dq, osq⟩, hw''⟩ := hw'
           subst hw''
           go_wp2
           go_ret
           exact ⟨rfl, HV9.out.trans ((below_regrown _ dq osq).mono HV9.out.size)⟩)

end Go.Proofs.YtlacmcedpphphaaDoor
