/- The specification's SignId on a ledger whose slices may be nil. -/
import Derived.Test.YthjolannlefbcaaGreatDoorSg
import Derived.Test.YthjolannlefbcaaGreatDoorCpO
namespace Go.Proofs.YthjolannlefbcaaGreatDoor
open Go.RowKit Go.Maps Go.WideMaps

set_option maxRecDepth 20000 in
set_option maxHeartbeats 2000000 in
theorem sSignId_opt (n m tc gc : Nat) (ta ga : Option Addr) (ss : List ByteArray) (gs : List (Int × Int)) (a b : Int) (w : World) (htc : n ≤ tc) (hgc : m ≤ gc) (htm : tc ≤ maxLen) (hgm : gc ≤ maxLen) (hta : ta = none → tc = 0) (hga : ga = none → gc = 0) (hf : Fine ss gs) (h : LedAt w ta n ga m ss gs) :
    Calls Tryz.prog 73 #[.agg #[.slice ta n tc, .slice ga m gc], .int .i64 a, .int .i64 b] w fun e w' => OutL w w' e (signR ss gs a b) := by
  have hfl := l1Fault_box4 n m tc gc _ _ ss gs w htc hgc htm hgm hf h
  have HL : Hid (LedAt w ta n ga m ss gs) := h
  have HMM : Hid (m ≤ maxLen) := Nat.le_trans hgc hgm
  have HN : Hid (ss.length = n) := h.s.1
  have HM : Hid (gs.length = m) := h.g.1
  clear h hf htc hgc htm hgm
  obtain ⟨c, hc⟩ : ∃ c, c = flt ss gs := ⟨_, rfl⟩
  rw [← hc] at hfl
  by_cases hcz : c = 0
  · subst hcz
    have hlen := flt_le hc
    rw [HN.out, HM.out] at hlen
    have h60 := hlen.1
    have h120 := hlen.2
    clear hlen
    obtain ⟨ka, hka⟩ : ∃ ka, ka = inB a 1 999 := ⟨_, rfl⟩
    obtain ⟨kb, hkb⟩ : ∃ kb, kb = inB b 1 n := ⟨_, rfl⟩
    have hkey : ∀ v, Calls Tryz.prog 83 #[.int .i64 a] v fun e w' => e = .returned (.bool ka) ∧ w' = v := fun v => by rw [hka]; exact l1Key_any a v
    have hid : ∀ v, v.cell? ⟨w.heap.size, 0, none⟩ = some (.slice ta n tc) → Calls Tryz.prog 115 #[.pointer (some ⟨w.heap.size, 0, none⟩), .int .i64 b] v fun e w' => e = .returned (.bool kb) ∧ w' = v := fun v hv => by rw [hkb]; exact l1Id_any w.heap.size n tc _ b v hv
    by_cases hs : ka = false ∨ kb = false
    · have hr := signR_range (a := a) (b := b) HN.out hc (by rw [← hka, ← hkb]; exact hs)
      rw [hr]
      clear hc hr hka hkb
      have hs2 : ka = false ∨ ka = true ∧ kb = false := by rcases hs with h | h <;> cases ka <;> simp_all
      clear hs
      rcases hs2 with rfl | ⟨rfl, rfl⟩
      all_goals
        go_enter Tryz.func73, Tryz.ntmps73
        go_wp2_with (first
          | (go_at_call 111; refine hfl.mono ?_; rintro e w2 ⟨rfl, HB⟩; obtain ⟨r0, r1⟩ := cells2 HB.out.2.2; obtain ⟨q0, q1, q2, q3, q4, q5, q6, q7⟩ := cells4 HB.out.1)
          | (go_at_call 83; refine (hkey _).mono ?_; rintro e w' ⟨rfl, hw⟩; have hw2 := hw.symm; subst hw2)
          | (go_at_call 115; refine (hid _ r0).mono ?_; rintro e w' ⟨rfl, hw⟩; have hw2 := hw.symm; subst hw2))
        obtain ⟨s0, s1, s2, s3⟩ := four_set HB.out.1 (.int .i64 3) (.int .i64 0) (.slice none 0 0) (.slice none 0 0)
        exact bodyPost_ret (v := .agg #[.int .i64 3, .int .i64 0, .slice none 0 0, .slice none 0 0]) (by simp [results, Tryz.results73, go_sem, s0, s1, s2, s3]) rfl (OutL.empty (below_res4 HB.out.2.1 _ _ _ _))
    · obtain rfl : ka = true := by cases ka <;> simp_all
      obtain rfl : kb = true := by cases kb <;> simp_all
      obtain ⟨mb, hmb⟩ : ∃ mb, mb = memB gs (a, b) := ⟨_, rfl⟩
      have HK : Hid (memB gs (a, b) = mb) := hmb.symm
      have HA : Hid (inB a 1 999 = true) := hka.symm
      have HBB : Hid (inB b 1 n = true) := hkb.symm
      have HC : Hid (0 = flt ss gs) := hc
      clear hs hc hmb hka hkb
      obtain ⟨i0, hi, hz0, hz1, hz2⟩ := info_parts Tryz.infoSig
      cases mb with
      | true =>
        have hr := signR_old HN.out HC.out HA.out HBB.out HK.out.symm
        go_enter Tryz.func73, Tryz.ntmps73
        go_wp2_with (first
          | (go_at_call 111; refine hfl.mono ?_; rintro e w2 ⟨rfl, HB⟩; obtain ⟨r0, r1⟩ := cells2 HB.out.2.2)
          | (go_at_call 83; refine (hkey _).mono ?_; rintro e w' ⟨rfl, hw⟩; have hw2 := hw.symm; subst hw2)
          | (go_at_call 115; refine (hid _ r0).mono ?_; rintro e w' ⟨rfl, hw⟩; have hw2 := hw.symm; subst hw2)
          | (go_at_call 112; refine (l1Copy_opt ta ga n m tc gc ss gs w2 h60 h120 hta hga (HL.out.below HB.out.2.1 (Nat.le_refl _))).mono ?_; rintro e w3 ⟨g0, k0, g1, k1, rfl, ho3, hb3⟩; have HSX := Sx.start (a := a) (b := b) HB.out ho3 hb3; obtain ⟨y0, y1⟩ := cells2 HSX.r.2.2; obtain ⟨x0, x1⟩ := cells2 HSX.x; have hsg := l1Signed_any _ m gc gs a b _ HMM.out (HL.out.g.below HSX.r.2.1 (Nat.le_refl _)); rw [HK.out] at hsg; have hzz := HB.out.lt; have hz3 := hb3.size; have HS : Hid (Sx w ((w3.alloc (.cells #[.slice (some ⟨g0, 0, none⟩) n k0, .slice (some ⟨g1, 0, none⟩) m k1] 46)).alloc (.cells #[.int .i64 a, .int .i64 b] 130)) (.slice ta n tc) (.slice ga m gc) w2.heap.size w3.heap.size (w3.heap.size + 1) n m ss gs g0 k0 g1 k1 a b) := HSX; clear ho3 hb3 r0 r1 HSX)
          | (go_at_call 116; refine hsg.mono ?_; rintro e w5 ⟨rfl, hb5⟩; have HS5 : Hid (Sx w w5 (.slice ta n tc) (.slice ga m gc) w2.heap.size w3.heap.size (w3.heap.size + 1) n m ss gs g0 k0 g1 k1 a b) := HS.out.step hb5; clear y0 y1 x0 x1 hb5; obtain ⟨y0, y1⟩ := cells2 HS5.out.r.2.2; obtain ⟨x0, x1⟩ := cells2 HS5.out.x; obtain ⟨z0, z1⟩ := cells2 HS5.out.k; obtain ⟨q0, q1, q2, q3, q4, q5, q6, q7⟩ := cells4 HS5.out.r.1))
        obtain ⟨s0, s1, s2, s3⟩ := four_set HS5.out.r.1 (.int .i64 0) (.int .i64 b) (.slice (some ⟨g0, 0, none⟩) n k0) (.slice (some ⟨g1, 0, none⟩) m k1)
        refine bodyPost_ret (v := .agg #[.int .i64 0, .int .i64 b, .slice (some ⟨g0, 0, none⟩) n k0, .slice (some ⟨g1, 0, none⟩) m k1]) (by simp [results, Tryz.results73, go_sem, s0, s1, s2, s3]) rfl ?_
        rw [hr]
        refine ⟨below_res4 HS5.out.r.2.1 _ _ _ _, some ⟨g0, 0, none⟩, k0, some ⟨g1, 0, none⟩, k1, by simp only [HN.out, HM.out], ?_, ?_⟩
        · simp only [HN.out]
          exact row_res4 HS5.out.o.1 (by omega) (by omega) _ _ _ _
        · simp only [HM.out]
          exact row_res4 HS5.out.o.2 (by omega) (by omega) _ _ _ _
      | false =>
        go_enter Tryz.func73, Tryz.ntmps73
        go_wp2_with (first
          | (go_at_call 111; refine hfl.mono ?_; rintro e w2 ⟨rfl, HB⟩; obtain ⟨r0, r1⟩ := cells2 HB.out.2.2)
          | (go_at_call 83; refine (hkey _).mono ?_; rintro e w' ⟨rfl, hw⟩; have hw2 := hw.symm; subst hw2)
          | (go_at_call 115; refine (hid _ r0).mono ?_; rintro e w' ⟨rfl, hw⟩; have hw2 := hw.symm; subst hw2)
          | (go_at_call 112; refine (l1Copy_opt ta ga n m tc gc ss gs w2 h60 h120 hta hga (HL.out.below HB.out.2.1 (Nat.le_refl _))).mono ?_; rintro e w3 ⟨g0, k0, g1, k1, rfl, ho3, hb3⟩; have HSX := Sx.start (a := a) (b := b) HB.out ho3 hb3; obtain ⟨y0, y1⟩ := cells2 HSX.r.2.2; obtain ⟨x0, x1⟩ := cells2 HSX.x; have hsg := l1Signed_any _ m gc gs a b _ HMM.out (HL.out.g.below HSX.r.2.1 (Nat.le_refl _)); rw [HK.out] at hsg; have hzz := HB.out.lt; have hz3 := hb3.size; have HS : Hid (Sx w ((w3.alloc (.cells #[.slice (some ⟨g0, 0, none⟩) n k0, .slice (some ⟨g1, 0, none⟩) m k1] 46)).alloc (.cells #[.int .i64 a, .int .i64 b] 130)) (.slice ta n tc) (.slice ga m gc) w2.heap.size w3.heap.size (w3.heap.size + 1) n m ss gs g0 k0 g1 k1 a b) := HSX; clear ho3 hb3 r0 r1 HSX)
          | (go_at_call 116; refine hsg.mono ?_; rintro e w5 ⟨rfl, hb5⟩; have HS5 : Hid (Sx w w5 (.slice ta n tc) (.slice ga m gc) w2.heap.size w3.heap.size (w3.heap.size + 1) n m ss gs g0 k0 g1 k1 a b) := HS.out.step hb5; clear y0 y1 x0 x1 hb5; obtain ⟨y0, y1⟩ := cells2 HS5.out.r.2.2; obtain ⟨x0, x1⟩ := cells2 HS5.out.x; obtain ⟨z0, z1⟩ := cells2 HS5.out.k; obtain ⟨q0, q1, q2, q3, q4, q5, q6, q7⟩ := cells4 HS5.out.r.1)
          | (at_builtin; go_must (refine wpList_append_lies _ (by rfl) _ _ 44 (by rfl) w2.heap.size 130 i0 (.agg #[.int .i64 0, .int .i64 0]) 2 16 Tryz.underlying44 hi hz0 hz1 hz2 rfl (by omega) (.slice (some ⟨g1, 0, none⟩) m k1) m (gcells gs) (by rfl) (HS5.out.o.2.alloc _) ⟨w5.heap.size, 0, none⟩ 1 1 [.int .i64 a, .int .i64 b] (by rfl) (by rfl) (news2 (heap_at _ _ _ rfl)) one2 (by omega) (by unfold maxLen; omega) (by omega) (by have := HS5.out.r.lt; have := lt_of_block HS5.out.k; simp; omega) (w5.heap.size + 1) (by simp) ?_; intro g cap w6 ho6 hg6 hat2 hlt2; obtain ⟨u0, u1, u2, m0, m1, HN6, v0, v1, v2, v3, v4, v5, v6, v7⟩ := sg_new HS5.out.r HS5.out.o HS5.out.k ho6 hg6 (by omega) hz3; clear y0 y1 x0 x1 z0 z1 q0 q1 q2 q3 q4 q5 q6 q7 ho6 hg6 hat2 hlt2)))
        · have hn120 : (120 : Int) ≤ (m : Int) := by assumption
          have hr := signR_full HN.out HM.out HC.out HA.out HBB.out HK.out.symm (by omega)
          obtain ⟨s0, s1, s2, s3⟩ := four_set HS5.out.r.1 (.int .i64 2) (.int .i64 0) (.slice none 0 0) (.slice none 0 0)
          refine bodyPost_ret (v := .agg #[.int .i64 2, .int .i64 0, .slice none 0 0, .slice none 0 0]) (by simp [results, Tryz.results73, go_sem, s0, s1, s2, s3]) rfl ?_
          rw [hr]
          exact OutL.empty (below_res4 HS5.out.r.2.1 _ _ _ _)
        · have hn120 : (m : Int) < (120 : Int) := by assumption
          have hr := signR_new HN.out HM.out HC.out HA.out HBB.out HK.out.symm (by omega)
          obtain ⟨s0, s1, s2, s3⟩ := four_set HN6.out.1.1 (.int .i64 0) (.int .i64 b) (.slice (some ⟨g0, 0, none⟩) n k0) (.slice (some ⟨g, 0, none⟩) (m + 1) cap)
          refine bodyPost_ret (v := .agg #[.int .i64 0, .int .i64 b, .slice (some ⟨g0, 0, none⟩) n k0, .slice (some ⟨g, 0, none⟩) (m + 1) cap]) (by simp [results, Tryz.results73, go_sem, s0, s1, s2, s3]) rfl ?_
          rw [hr]
          have e1 : (gs ++ [(a, b)]).length = m + 1 := by simp [HM.out]
          have e2 : gcells (gs ++ [(a, b)]) = gcells gs ++ [.int .i64 a, .int .i64 b] := by simp [gcells]
          refine ⟨below_res4 HN6.out.1.2.1 _ _ _ _, some ⟨g0, 0, none⟩, k0, some ⟨g, 0, none⟩, cap, by simp only [e1, HN.out], ?_, ?_⟩
          · simp only [HN.out]
            exact row_res4 HN6.out.2.1 (by omega) (by omega) _ _ _ _
          · simp only [e1, e2]
            exact row_res4 HN6.out.2.2 (by omega) (by omega) _ _ _ _
  · rw [signR_bad hc hcz]
    clear hc
    go_enter Tryz.func73, Tryz.ntmps73
    go_wp2_with (first | (go_at_call 111; refine hfl.mono ?_; rintro e w2 ⟨rfl, HB⟩; obtain ⟨q0, q1, q2, q3, q4, q5, q6, q7⟩ := cells4 HB.out.1))
    obtain ⟨s0, s1, s2, s3⟩ := four_set HB.out.1 (.int .i64 c) (.int .i64 0) (.slice none 0 0) (.slice none 0 0)
    exact bodyPost_ret (v := .agg #[.int .i64 c, .int .i64 0, .slice none 0 0, .slice none 0 0]) (by simp [results, Tryz.results73, go_sem, s0, s1, s2, s3]) rfl (OutL.empty (below_res4 HB.out.2.1 _ _ _ _))

end Go.Proofs.YthjolannlefbcaaGreatDoor
