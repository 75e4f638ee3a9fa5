/- The program's fault of a transaction: its parts and the whole. -/
import Derived.Test.YtaopblgnmmhjfaaITx
namespace Go.Proofs.Ytaopblgnmmhjfaa
open Go.RowKit Go.Maps Go.WideMaps

set_option maxRecDepth 20000 in
set_option maxHeartbeats 1000000 in
theorem refsFault_any (n c : Nat) (ia : Option Addr) (rs : List (Int × Int)) (w : World) (hc1 : n ≤ c) (hc2 : c ≤ maxLen) (h : GAt w ia n rs) :
    Calls Try.prog 126 #[.slice ia n c] w fun e w' => e = .returned (.int .i64 (refsR [] rs)) ∧ Below w.heap.size w w' := by
  unfold maxLen at hc2
  have HR : Hid (GAt w ia n rs) := h
  have HN : Hid (rs.length = n) := h.1
  obtain ⟨r, hr⟩ : ∃ r, r = refsR [] rs := ⟨_, rfl⟩
  rw [← hr]
  have HV : Hid (r = refsR [] rs) := hr
  clear h hr
  go_enter Try.func126, Try.ntmps126
  go_wp2
  go_loopw [7] (fun i wr => ∃ j : Nat, j ≤ n ∧ i = .int .i64 j ∧ Below w.heap.size w wr ∧ Hid (refsR [] rs = refsR (rs.take j) (rs.drop j))) (fun i _ => n - (intOf i).toNat)
  case atStart => exact ⟨0, Nat.zero_le _, rfl, Below.refl _ _, by show _ = _; simp⟩
  case round =>
    obtain ⟨j, hj, rfl, hbel, HT⟩ := hrel
    by_cases hlt : j < n
    · rcases HR.out.2 with h0 | ⟨b, off, ha, hb, hc⟩
      · omega
      subst ha
      obtain ⟨g, hg⟩ : ∃ g, g = rs.getD j G0 := ⟨_, rfl⟩
      have hcx := hc j hlt
      rw [← hg] at hcx
      obtain ⟨g1, g2⟩ := g
      have c0 := (hbel.cell (p := ⟨b, off + j * 2, none⟩) hb).trans hcx.1
      have c1 := (hbel.cell (p := ⟨b, off + j * 2 + 1, none⟩) hb).trans hcx.2
      have HG : Hid ((g1, g2) = rs.getD j G0) := hg
      have hki : (j : Int) < (n : Int) := by omega
      have hkc : (j : Int) ≤ (c : Int) := by omega
      have hkm : j ≤ maxLen := by unfold maxLen; omega
      obtain ⟨kr, hkr⟩ : ∃ b, b = refB (g1, g2) := ⟨_, rfl⟩
      have hrf := isRef_any g1 g2 (wr.alloc (.cells #[.int .i64 g1, .int .i64 g2] 160))
      rw [← hkr] at hrf
      have HKR : Hid (kr = refB (g1, g2)) := hkr
      have HBX : Hid (Below wr.heap.size wr (wr.alloc (.cells #[.int .i64 g1, .int .i64 g2] 160))) := below_box _
      have HX : Hid ((wr.alloc (.cells #[.int .i64 g1, .int .i64 g2] 160)).heap[wr.heap.size]? = some (.cells #[.int .i64 g1, .int .i64 g2] 160 (0, 0))) := heap_alloc_new _ _
      clear hg hc hcx hkr
      cases kr
      · obtain rfl : r = 3 := by rw [HV.out]; exact refs_bad HN.out hlt HG.out HT.out HKR.out.symm
        go_wp2_with (first | (go_at_call 157; refine hrf.mono ?_; rintro e w2 ⟨rfl, hb2⟩))
        go_ret
        exact ⟨rfl, (hbel.trans (HBX.out.mono hbel.size)).trans (hb2.mono (by have := hbel.size; simp; omega))⟩
      · obtain ⟨mb, hmb⟩ : ∃ b, b = memB (rs.take j) (g1, g2) := ⟨_, rfl⟩
        have HMB : Hid (memB (rs.take j) (g1, g2) = mb) := hmb.symm
        clear hmb
        go_wp2_with (first | (go_at_call 157; refine hrf.mono ?_; rintro e w2 ⟨rfl, hb2⟩; have hbw : Below w.heap.size w w2 := (hbel.trans (HBX.out.mono hbel.size)).trans (hb2.mono (by have := hbel.size; simp; omega)); obtain ⟨x0, x1⟩ := cells2 (keepb HX.out hb2).out; have hlx := lt_of_block (keepb HX.out hb2).out; clear hb2))
        have ham : Calls Try.prog 132 #[.slice (some ⟨b, off, none⟩) j c, .agg #[.int .i64 g1, .int .i64 g2]] w2.drew fun e w' => e = .returned (.bool mb) ∧ Below w2.heap.size w2 w' := by
          have := rContains_any (some ⟨b, off, none⟩) j c (rs.take j) g1 g2 w2.drew hkm (((HR.out.below hbw (Nat.le_refl _)).take hj).below (Below.refl _ _).drew (Nat.le_refl _))
          rw [HMB.out] at this
          exact this.mono fun e w' h => ⟨h.1, (Below.refl _ _).drew.trans h.2⟩
        go_region_held3 (fun w' => w'.cell? ⟨wr.heap.size, 0, none⟩ = some (.int .i64 g1) ∧ w'.cell? ⟨wr.heap.size, 1, none⟩ = some (.int .i64 g2)) (go_keep)
          (first | (go_at_call 132; refine ham.mono ?_; rintro e w3 ⟨rfl, hb3⟩; have q1 := (hb3.cell (p := ⟨wr.heap.size, 0, none⟩) hlx).trans x0; have q2 := (hb3.cell (p := ⟨wr.heap.size, 1, none⟩) hlx).trans x1))
        cases mb
        · go_wp2
          go_roundw
          case rel => exact ⟨j + 1, by omega, by go_num, hbw.trans (hb3.mono hbw.size), refs_go HN.out hlt HG.out HT.out HKR.out.symm HMB.out⟩
          case measure => simp [intOf]; omega
        · obtain rfl : r = 7 := by rw [HV.out]; exact refs_taken HN.out hlt HG.out HT.out HKR.out.symm HMB.out
          go_wp2
          go_ret
          exact ⟨rfl, hbw.trans (hb3.mono hbw.size)⟩
    · obtain rfl : r = 0 := by rw [HV.out]; exact refs_done HN.out hlt HT.out
      go_wp2
      go_ret
      exact ⟨rfl, hbel⟩

set_option maxHeartbeats 1000000 in
theorem outsFault_any (m d : Nat) (oa : Option Addr) (os : List Ou) (w : World) (hm : m ≤ 1048576) (hk : ∀ j, j < m → (os.getD j O0).l.length ≤ 1048576) (hO : OAt w oa m os) :
    Calls Try.prog 127 #[.slice oa m d] w fun e w' => e = .returned (.int .i64 (outsR os)) ∧ Below w.heap.size w w' := by
  have HO : Hid (OAt w oa m os) := hO
  have HN : Hid (os.length = m) := hO.1
  have HKL : Hid (∀ j, j < m → (os.getD j O0).l.length ≤ 1048576) := hk
  obtain ⟨r, hr⟩ : ∃ r, r = outsR os := ⟨_, rfl⟩
  rw [← hr]
  have HR : Hid (r = outsR os) := hr
  clear hO hk hr
  go_enter Try.func127, Try.ntmps127
  go_wp2
  go_loopw [8] (fun i wr => ∃ j : Nat, j ≤ m ∧ i = .int .i64 j ∧ Below w.heap.size w wr ∧ Hid (outsR os = outsR (os.drop j))) (fun i _ => m - (intOf i).toNat)
  case atStart => exact ⟨0, Nat.zero_le _, rfl, Below.refl _ _, by show _ = _; simp⟩
  case round =>
    obtain ⟨j, hj, rfl, hbel, HT⟩ := hrel
    by_cases hlt : j < m
    · rcases HO.out.2 with h0 | ⟨b, off, e0, l0, d0⟩
      · omega
      subst e0
      obtain ⟨o, ho⟩ : ∃ o, o = os.getD j O0 := ⟨_, rfl⟩
      obtain ⟨ka, kn, kc, p0, p1, p2, p3, p4, p5⟩ := d0 j hlt
      have hol := HKL.out j hlt
      rw [← ho] at p0 p2 p3 p5 hol
      have HS : Hid (o = os.getD j O0) := ho
      obtain ⟨ov, ol, ox, oy⟩ := o
      obtain rfl := p5.1
      have x0 := (hbel.cell (p := ⟨b, off + j * 4, none⟩) l0).trans p0
      have x1 := (hbel.cell (p := ⟨b, off + j * 4 + 1, none⟩) l0).trans p1
      have x2 := (hbel.cell (p := ⟨b, off + j * 4 + 2, none⟩) l0).trans p2
      have x3 := (hbel.cell (p := ⟨b, off + j * 4 + 3, none⟩) l0).trans p3
      simp only at x0 x2 x3
      obtain ⟨cd, hcd⟩ : ∃ c, c = ruleR ol ox oy := ⟨_, rfl⟩
      have hbx : Below wr.heap.size wr (wr.alloc (.cells #[.int .i64 ov, .slice ka ol.length kc, .int .i64 ox, .int .i64 oy] 155)) := below_box _
      have hlf := iRuleFault_any ol.length kc ka ol ox oy (wr.alloc (.cells #[.int .i64 ov, .slice ka ol.length kc, .int .i64 ox, .int .i64 oy] 155)) hol ((p5.below hbel (Nat.le_refl _)).below hbx (Nat.le_refl _))
      rw [← hcd] at hlf
      have HBX : Hid (Below wr.heap.size wr (wr.alloc (.cells #[.int .i64 ov, .slice ka ol.length kc, .int .i64 ox, .int .i64 oy] 155))) := hbx
      have HCD : Hid (cd = ruleR ol ox oy) := hcd
      obtain ⟨kv, hkv⟩ : ∃ k, k = inB ov 1 1000000 := ⟨_, rfl⟩
      have hin : ∀ v, Calls Try.prog 158 #[.int .i64 ov] v fun e w' => e = .returned (.bool kv) ∧ w' = v := fun v => by rw [hkv]; exact isValue_any _ v
      have HKV : Hid (kv = inB ov 1 1000000) := hkv
      have HNX : Hid (os.drop j = (⟨ov, ol, ox, oy⟩ : Ou) :: os.drop (j + 1)) := drop_next HN.out hlt HS.out
      clear ho d0 p0 p1 p2 p3 p4 p5 hol hcd hkv hbx
      have hki : (j : Int) < (m : Int) := by omega
      cases kv
      · obtain rfl : r = 3 := by rw [HR.out, HT.out, HNX.out, outsR, if_pos HKV.out.symm]
        go_wp2_with (go_at_call 158; refine (hin _).mono ?_; rintro e w' ⟨rfl, hw⟩; have hw2 := hw.symm; subst hw2)
        go_ret
        exact ⟨rfl, hbel.trans (HBX.out.mono hbel.size)⟩
      · by_cases hc0 : cd = 0
        · have HTN : Hid (outsR os = outsR (os.drop (j + 1))) := by
            show _ = _
            rw [HT.out, HNX.out, outsR, if_neg (by rw [← HKV.out]; simp), if_neg (by rw [← HCD.out, hc0]; simp)]
          go_wp2_with (first | (go_at_call 158; refine (hin _).mono ?_; rintro e w' ⟨rfl, hw⟩; have hw2 := hw.symm; subst hw2) | (go_at_call 52; refine hlf.mono ?_; rintro e w3 ⟨rfl, hb3⟩))
          go_roundw
          case rel => exact ⟨j + 1, by omega, by go_num, (hbel.trans (HBX.out.mono hbel.size)).trans (hb3.mono (by have := hbel.size; simp; omega)), HTN⟩
          case measure => simp [intOf]; omega
        · have e1 : outsR os = cd := by rw [HT.out, HNX.out, outsR, if_neg (by rw [← HKV.out]; simp), if_pos (by rw [← HCD.out]; exact hc0), ← HCD.out]
          obtain rfl : r = cd := by rw [HR.out, e1]
          clear e1
          go_wp2_with (first | (go_at_call 158; refine (hin _).mono ?_; rintro e w' ⟨rfl, hw⟩; have hw2 := hw.symm; subst hw2) | (go_at_call 52; refine hlf.mono ?_; rintro e w3 ⟨rfl, hb3⟩))
          go_ret
          exact ⟨rfl, (hbel.trans (HBX.out.mono hbel.size)).trans (hb3.mono (by have := hbel.size; simp; omega))⟩
    · obtain rfl : r = 0 := by rw [HR.out, HT.out]; exact drop_none HN.out hlt
      go_wp2
      go_ret
      exact ⟨rfl, hbel⟩

def kindR (k f : Int) : Int := if inB k 0 2 = false ∨ ¬ (k = 0 ↔ f = 0) then 1 else if k ≠ 0 ∧ inB f 1 999 = false then 3 else 0

set_option maxRecDepth 20000 in
set_option maxHeartbeats 1000000 in
theorem kindFault_any (k f : Int) (v2 v3 : Value) (w : World) :
    Calls Try.prog 124 #[.agg #[.int .i64 k, .int .i64 f, v2, v3]] w fun e w' => e = .returned (.int .i64 (kindR k f)) ∧ Below w.heap.size w w' := by
  have hbx : Below w.heap.size w (w.alloc (.cells #[.int .i64 k, .int .i64 f, v2, v3] 86)) := below_box _
  obtain ⟨kb, hkb⟩ : ∃ b, b = inB k 0 2 := ⟨_, rfl⟩
  obtain ⟨mk, hmk⟩ : ∃ b, b = memK k := ⟨_, rfl⟩
  obtain ⟨fk, hfk⟩ : ∃ b, b = inB f 1 999 := ⟨_, rfl⟩
  have hK : ∀ v, Calls Try.prog 155 #[.int .i64 k] v fun e w' => e = .returned (.bool kb) ∧ w' = v := fun v => by rw [hkb]; exact isKind_any _ v
  have hM : ∀ v, Calls Try.prog 156 #[.int .i64 k] v fun e w' => e = .returned (.bool mk) ∧ w' = v := fun v => by rw [hmk]; exact hasMember_any _ v
  have hF : ∀ v, Calls Try.prog 85 #[.int .i64 f] v fun e w' => e = .returned (.bool fk) ∧ w' = v := fun v => by rw [hfk]; exact isKey_any _ v
  have HKB : Hid (kb = inB k 0 2) := hkb
  have HMK : Hid (mk = memK k) := hmk
  have HFK : Hid (fk = inB f 1 999) := hfk
  obtain ⟨r, hr⟩ : ∃ r, r = kindR k f := ⟨_, rfl⟩
  rw [← hr]
  have HR : Hid (r = kindR k f) := hr
  clear hkb hmk hfk hr
  have HBX : Hid (Below w.heap.size w (w.alloc (.cells #[.int .i64 k, .int .i64 f, v2, v3] 86))) := hbx
  clear hbx
  have hmem : kb = true → (mk = false ↔ k = 0) := by
    intro h
    have h1 := inB_true.1 (HKB.out.symm.trans h)
    rw [HMK.out]
    unfold memK
    rw [decide_eq_false_iff_not]
    omega
  cases kb
  · obtain rfl : r = 1 := by rw [HR.out]; unfold kindR; rw [if_pos (.inl HKB.out.symm)]
    clear hmem
    go_enter Try.func124, Try.ntmps124
    go_wp2
    go_quiet (first | (go_at_call 155; refine Calls.quiet_of_same (hK _)))
    go_wp2
    go_ret
    exact ⟨rfl, HBX.out.trans (Joins.below_draws _ _ _)⟩
  have hmem := hmem rfl
  have HB : Hid (¬ inB k 0 2 = false) := by show ¬ _; rw [← HKB.out]; simp
  by_cases hf0 : f = 0
  · subst hf0
    cases mk
    · have hk0 : k = 0 := hmem.1 rfl
      obtain rfl : r = 0 := by rw [HR.out]; unfold kindR; rw [if_neg (fun h => h.elim HB.out (fun h => h (by simp [hk0]))), if_neg (fun h => h.1 hk0)]
      subst hk0
      clear hmem
      go_enter Try.func124, Try.ntmps124
      go_wp2
      go_quiet (first | (go_at_call 155; refine Calls.quiet_of_same (hK _)) | (go_at_call 156; refine Calls.quiet_of_same (hM _)))
      go_wp2_with (go_at_call 156; refine (hM _).mono ?_; rintro e w' ⟨rfl, hw⟩; have hw2 := hw.symm; subst hw2)
      go_ret
      exact ⟨rfl, HBX.out.trans (Joins.below_draws _ _ _)⟩
    · have hk0 : ¬ k = 0 := fun e => by have := hmem.2 e; cases this
      obtain rfl : r = 1 := by rw [HR.out]; unfold kindR; rw [if_pos (.inr (fun h => hk0 (h.2 rfl)))]
      clear hmem hk0
      go_enter Try.func124, Try.ntmps124
      go_wp2
      go_quiet (first | (go_at_call 155; refine Calls.quiet_of_same (hK _)) | (go_at_call 156; refine Calls.quiet_of_same (hM _)))
      go_wp2
      go_ret
      exact ⟨rfl, HBX.out.trans (Joins.below_draws _ _ _)⟩
  · have hfb : (f != 0) = true := by simpa using hf0
    have hfe : (f == 0) = false := by simpa using hf0
    cases mk
    · have hk0 : k = 0 := hmem.1 rfl
      obtain rfl : r = 1 := by rw [HR.out]; unfold kindR; rw [if_pos (.inr (fun h => hf0 (h.1 hk0)))]
      subst hk0
      clear hmem
      go_enter Try.func124, Try.ntmps124
      go_wp2
      go_quiet (first | (go_at_call 155; refine Calls.quiet_of_same (hK _)) | (go_at_call 156; refine Calls.quiet_of_same (hM _)))
      go_wp2
      go_ret
      exact ⟨rfl, HBX.out.trans (Joins.below_draws _ _ _)⟩
    · have hk0 : ¬ k = 0 := fun e => by have := hmem.2 e; cases this
      have hrr : r = if fk = false then 3 else 0 := by rw [HR.out, HFK.out]; unfold kindR; rw [if_neg (fun h => h.elim HB.out (fun h => h ⟨fun e => absurd e hk0, fun e => absurd e hf0⟩))]; simp [hk0]
      clear hmem hk0
      cases fk
      · obtain rfl : r = 3 := by rw [hrr]; rfl
        clear hrr
        go_enter Try.func124, Try.ntmps124
        go_wp2
        go_quiet (first | (go_at_call 155; refine Calls.quiet_of_same (hK _)) | (go_at_call 156; refine Calls.quiet_of_same (hM _)))
        go_wp2_with (first | (go_at_call 156; refine (hM _).mono ?_; rintro e w' ⟨rfl, hw⟩; have hw2 := hw.symm; subst hw2) | (go_at_call 85; refine (hF _).mono ?_; rintro e w' ⟨rfl, hw⟩; have hw2 := hw.symm; subst hw2))
        go_ret
        exact ⟨rfl, HBX.out.trans (Joins.below_draws _ _ _)⟩
      · obtain rfl : r = 0 := by rw [hrr]; rfl
        clear hrr
        go_enter Try.func124, Try.ntmps124
        go_wp2
        go_quiet (first | (go_at_call 155; refine Calls.quiet_of_same (hK _)) | (go_at_call 156; refine Calls.quiet_of_same (hM _)))
        go_wp2_with (first | (go_at_call 156; refine (hM _).mono ?_; rintro e w' ⟨rfl, hw⟩; have hw2 := hw.symm; subst hw2) | (go_at_call 85; refine (hF _).mono ?_; rintro e w' ⟨rfl, hw⟩; have hw2 := hw.symm; subst hw2))
        go_ret
        exact ⟨rfl, HBX.out.trans (Joins.below_draws _ _ _)⟩

end Go.Proofs.Ytaopblgnmmhjfaa
