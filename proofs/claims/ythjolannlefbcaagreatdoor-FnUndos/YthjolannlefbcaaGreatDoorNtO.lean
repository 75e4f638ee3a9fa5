/- The specification's NoteText on a ledger whose slices may be nil. -/
import Derived.Test.YthjolannlefbcaaGreatDoorJn1
import Derived.Test.YthjolannlefbcaaGreatDoorCpO
namespace Go.Proofs.YthjolannlefbcaaGreatDoor
open Go.RowKit Go.Maps Go.WideMaps

set_option maxRecDepth 20000 in
set_option maxHeartbeats 1000000 in
theorem sNoteText_opt (n m tc gc : Nat) (ta ga : Option Addr) (ss : List ByteArray) (gs : List (Int × Int)) (x : ByteArray) (w : World) (htc : n ≤ tc) (hgc : m ≤ gc) (htm : tc ≤ maxLen) (hgm : gc ≤ maxLen) (hta : ta = none → tc = 0) (hga : ga = none → gc = 0) (hf : Fine ss gs) (h : LedAt w ta n ga m ss gs) :
    Calls Tryz.prog 69 #[.agg #[.slice ta n tc, .slice ga m gc], .string x] w fun e w' => OutL w w' e (noteR ss gs x) := by
  have hfl := l1Fault_box4 n m tc gc _ _ ss gs w htc hgc htm hgm hf h
  have HL : Hid (LedAt w ta n ga m ss gs) := h
  have HNM : Hid (n ≤ maxLen) := Nat.le_trans htc htm
  have HN : Hid (ss.length = n) := h.s.1
  have HM : Hid (gs.length = m) := h.g.1
  clear h hf htc hgc htm hgm
  obtain ⟨c, hc⟩ : ∃ c, c = flt ss gs := ⟨_, rfl⟩
  rw [← hc] at hfl
  by_cases hcz : c = 0
  · subst hcz
    have hlen := flt_le hc
    rw [HN.out, HM.out] at hlen
    have h60 := hlen.1
    have h120 := hlen.2
    clear hlen
    by_cases hs : x.size < 1 ∨ 300 < x.size
    · rw [noteR_size hc hs]
      clear hc
      by_cases hs1 : x.size < 1
      all_goals
        have hs3 : x.size < 1 ∨ 300 < x.size := hs
        clear hs
        go_enter Tryz.func69, Tryz.ntmps69
        go_wp2_with (first | (go_at_call 111; refine hfl.mono ?_; rintro e w2 ⟨rfl, HB⟩; obtain ⟨q0, q1, q2, q3, q4, q5, q6, q7⟩ := cells4 HB.out.1))
        obtain ⟨s0, s1, s2, s3⟩ := four_set HB.out.1 (.int .i64 2) (.int .i64 0) (.slice none 0 0) (.slice none 0 0)
        exact bodyPost_ret (v := .agg #[.int .i64 2, .int .i64 0, .slice none 0 0, .slice none 0 0]) (by simp [results, Tryz.results69, go_sem, s0, s1, s2, s3]) rfl (OutL.empty (below_res4 HB.out.2.1 _ _ _ _))
    · have hx1 : 1 ≤ x.size := by omega
      have hx3 : x.size ≤ 300 := by omega
      obtain ⟨k, hk⟩ : ∃ k, k = num ss x := ⟨_, rfl⟩
      have HK : Hid (num ss x = k) := hk.symm
      have HS : Hid (¬ (x.size < 1 ∨ 300 < x.size)) := hs
      have HC : Hid (0 = flt ss gs) := hc
      clear hs hc hk
      obtain ⟨i0, hi, hz0, hz1, hz2⟩ := info_parts Tryz.infoStr
      go_enter Tryz.func69, Tryz.ntmps69
      go_wp2_with (first
        | (go_at_call 111; refine hfl.mono ?_; rintro e w2 ⟨rfl, HB⟩; obtain ⟨r0, r1⟩ := cells2 HB.out.2.2)
        | (go_at_call 112; refine (l1Copy_opt ta ga n m tc gc ss gs w2 h60 h120 hta hga (HL.out.below HB.out.2.1 (Nat.le_refl _))).mono ?_; rintro e w3 ⟨g0, k0, g1, k1, rfl, ho3, hb3⟩; have HB4 := (HB.out.step hb3).out.step (below_box (.cells #[.slice (some ⟨g0, 0, none⟩) n k0, .slice (some ⟨g1, 0, none⟩) m k1] 46)); clear r0 r1; obtain ⟨r0, r1⟩ := cells2 HB4.out.2.2; obtain ⟨q0, q1, q2, q3, q4, q5, q6, q7⟩ := cells4 HB4.out.1; have hat := l1At_any _ n tc ss x _ HNM.out (HL.out.s.below HB4.out.2.1 (Nat.le_refl _)); rw [HK.out] at hat; have hzz := HB.out.lt; have hz3 := hb3.size; have HO4 : Hid (OwnL (w3.alloc (.cells #[.slice (some ⟨g0, 0, none⟩) n k0, .slice (some ⟨g1, 0, none⟩) m k1] 46)) w2.heap.size n m ss gs g0 k0 g1 k1) := ho3.below (below_box _); have HX4 : Hid ((w3.alloc (.cells #[.slice (some ⟨g0, 0, none⟩) n k0, .slice (some ⟨g1, 0, none⟩) m k1] 46)).heap[w3.heap.size]? = some (.cells #[.slice (some ⟨g0, 0, none⟩) n k0, .slice (some ⟨g1, 0, none⟩) m k1] 46 (0, 0))) := heap_alloc_new _ _; clear ho3 hb3)
        | (go_at_call 113; refine hat.mono ?_; rintro e w4 ⟨rfl, hw⟩; subst hw)
        | (at_builtin; go_must (refine wpList_append_lies _ (by rfl) _ _ 43 (by rfl) w2.heap.size 9 i0 (.string ByteArray.empty) 1 16 Tryz.underlying43 hi hz0 hz1 hz2 rfl (by omega) (.slice (some ⟨g0, 0, none⟩) n k0) n (ss.map Value.string) (by rfl) (HO4.out.1.alloc _) ⟨w3.heap.size + 1, 0, none⟩ 1 1 [.string x] (by rfl) (by rfl) (newsT (heap_at _ _ _ (by simp))) oneS (by omega) (by unfold maxLen; omega) (by omega) (by simp; omega) (w3.heap.size + 2) (by simp) ?_; intro g cap w5 ho5 hg5 hat2 hlt2; obtain ⟨y0, y1, y2, m0, m1, HN5, z0, z1, z2, z3, z4, z5, z6, z7⟩ := nt_new HB4.out HO4.out HX4.out ho5 hg5 (by omega) hz3; clear r0 r1 q0 q1 q2 q3 q4 q5 q6 q7 ho5 hg5 hat2 hlt2)))
      · have hk0 : 0 < k := by assumption
        have hr := noteR_old HC.out HS.out HK.out.symm (by omega)
        obtain ⟨s0, s1, s2, s3⟩ := four_set HB4.out.1 (.int .i64 0) (.int .i64 k) (.slice (some ⟨g0, 0, none⟩) n k0) (.slice (some ⟨g1, 0, none⟩) m k1)
        refine bodyPost_ret (v := .agg #[.int .i64 0, .int .i64 k, .slice (some ⟨g0, 0, none⟩) n k0, .slice (some ⟨g1, 0, none⟩) m k1]) (by simp [results, Tryz.results69, go_sem, s0, s1, s2, s3]) rfl ?_
        rw [hr]
        refine ⟨below_res4 HB4.out.2.1 _ _ _ _, some ⟨g0, 0, none⟩, k0, some ⟨g1, 0, none⟩, k1, by simp only [HN.out, HM.out], ?_, ?_⟩
        · simp only [HN.out]
          exact row_res4 HO4.out.1 (by omega) (by omega) _ _ _ _
        · simp only [HM.out]
          exact row_res4 HO4.out.2 (by omega) (by omega) _ _ _ _
      · have hk0 : ¬ 0 < k := by assumption
        have hn60 : (60 : Int) ≤ (n : Int) := by assumption
        have hr := noteR_full HN.out HC.out HS.out (by rw [HK.out]; omega) (by omega)
        obtain ⟨s0, s1, s2, s3⟩ := four_set HB4.out.1 (.int .i64 2) (.int .i64 0) (.slice none 0 0) (.slice none 0 0)
        refine bodyPost_ret (v := .agg #[.int .i64 2, .int .i64 0, .slice none 0 0, .slice none 0 0]) (by simp [results, Tryz.results69, go_sem, s0, s1, s2, s3]) rfl ?_
        rw [hr]
        exact OutL.empty (below_res4 HB4.out.2.1 _ _ _ _)
      · have hk0 : ¬ 0 < k := by assumption
        have hn60 : (n : Int) < (60 : Int) := by assumption
        have hr := noteR_new HN.out HC.out HS.out (by rw [HK.out]; omega) (by omega)
        obtain ⟨s0, s1, s2, s3⟩ := four_set HN5.out.1.1 (.int .i64 0) (.int .i64 ((n : Int) + 1)) (.slice (some ⟨g, 0, none⟩) (n + 1) cap) (.slice (some ⟨g1, 0, none⟩) m k1)
        refine bodyPost_ret (v := .agg #[.int .i64 0, .int .i64 ((n : Int) + 1), .slice (some ⟨g, 0, none⟩) (n + 1) cap, .slice (some ⟨g1, 0, none⟩) m k1]) (by simp [results, Tryz.results69, go_sem, s0, s1, s2, s3]) rfl ?_
        rw [hr]
        have e1 : (ss ++ [x]).length = n + 1 := by simp [HN.out]
        refine ⟨below_res4 HN5.out.1.2.1 _ _ _ _, some ⟨g, 0, none⟩, cap, some ⟨g1, 0, none⟩, k1, by simp only [e1, HM.out], ?_, ?_⟩
        · simp only [e1, List.map_append]
          exact row_res4 HN5.out.2.1 (by omega) (by omega) _ _ _ _
        · simp only [HM.out]
          exact row_res4 HN5.out.2.2 (by omega) (by omega) _ _ _ _
  · rw [noteR_bad hc hcz]
    clear hc
    go_enter Tryz.func69, Tryz.ntmps69
    go_wp2_with (first | (go_at_call 111; refine hfl.mono ?_; rintro e w2 ⟨rfl, HB⟩; obtain ⟨q0, q1, q2, q3, q4, q5, q6, q7⟩ := cells4 HB.out.1))
    obtain ⟨s0, s1, s2, s3⟩ := four_set HB.out.1 (.int .i64 c) (.int .i64 0) (.slice none 0 0) (.slice none 0 0)
    exact bodyPost_ret (v := .agg #[.int .i64 c, .int .i64 0, .slice none 0 0, .slice none 0 0]) (by simp [results, Tryz.results69, go_sem, s0, s1, s2, s3]) rfl (OutL.empty (below_res4 HB.out.2.1 _ _ _ _))

end Go.Proofs.YthjolannlefbcaaGreatDoor
