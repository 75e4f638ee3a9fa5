/- BestOf: the program's. -/
import Derived.Test.YtinlhghlmfcbfaaVi
namespace Go.Proofs.Ytinlhghlmfcbfaa
open Go.RowKit Go.Maps Go.WideMaps

def lockR (ms : List Mb) (ls : List Int) : Int × Int := if 20 < ls.length then (2, 0) else if foundB ms ls = false then (4, 0) else (0, bestI ms ls)

set_option maxRecDepth 20000 in
set_option maxHeartbeats 4000000 in
theorem bestOf_any (lo G B : Nat) (s : Value) (ms : List Mb) (bs : List Nat) (ls : List Int) (a : Option Addr) (m c : Nat) (w : World) (hm : m ≤ 1048576) (hz : treeR ms = 0) (hI : IAt w a m ls) (hF : FineI ls) (hG : Gv w lo G B s ms bs) :
    Calls Try.prog 35 #[.pointer (some ⟨G, 0, none⟩), .slice a m c] w fun e w' => e = .returned (.agg #[.int .i64 (lockR ms ls).1, .int .i64 (lockR ms ls).2]) ∧ Below w.heap.size w w' := by
  have hbx : Below w.heap.size w (w.alloc (.cells #[.int .i64 0, .int .i64 0] 28)) := below_box _
  have HBX : Hid (Below w.heap.size w (w.alloc (.cells #[.int .i64 0, .int .i64 0] 28))) := hbx
  have HX : Hid ((w.alloc (.cells #[.int .i64 0, .int .i64 0] 28)).heap[w.heap.size]? = some (.cells #[.int .i64 0, .int .i64 0] 28 (0, 0))) := heap_alloc_new _ _
  have HN : Hid (ls.length = m) := hI.1
  have HZ : Hid (treeR ms = 0) := hz
  obtain ⟨x0, x1⟩ := cells2 HX.out
  have f0 := Joins.unfrozen_of_block HX.out 0
  have f1 := Joins.unfrozen_of_block HX.out 1
  by_cases h20 : 20 < m
  · have e1 : lockR ms ls = (2, 0) := by unfold lockR; rw [if_pos (by rw [HN.out]; exact h20)]
    rw [e1]
    have hki : (20 : Int) < (m : Int) := by omega
    clear e1 hI hG hbx x0 x1 f0 f1 hz hF
    have hb2 : Below w.heap.size w ((w.alloc (.cells #[.int .i64 2, .int .i64 0] 28))) := below_box _
    go_enter Try.func35, Try.ntmps35
    go_wp2
    obtain ⟨x0, x1⟩ := cells2 HX.out
    obtain ⟨_, s1, s2⟩ := two_set HX.out (.int .i64 2) (.int .i64 0)
    first
      | exact bodyPost_ret (v := .agg #[.int .i64 2, .int .i64 0]) (by simp [results, Try.results35, go_sem, s1, s2]) rfl ⟨rfl, two_end HBX.out (Nat.le_refl _) _ _⟩
      | exact bodyPost_ret (v := .agg #[.int .i64 2, .int .i64 0]) (by simp [results, Try.results35, go_sem]) rfl ⟨rfl, hb2⟩
  have hG1 := hG.below hbx
  have hFA := findAll_any lo G B s ms bs ls a m c _ (hI.below hbx (Nat.le_refl _)) hF (by omega) hG1
  obtain ⟨fc, hfc⟩ : ∃ z, z = foundC ms ls := ⟨_, rfl⟩
  rw [← hfc] at hFA
  have hki : ¬ (20 : Int) < (m : Int) := by omega
  by_cases hfb : foundB ms ls = true
  rotate_left
  · have e1 : lockR ms ls = (4, 0) := by unfold lockR; rw [if_neg (by rw [HN.out]; exact h20), if_pos (by simpa using hfb)]
    obtain rfl : fc = 4 := by rw [hfc]; unfold foundC; rw [if_neg hfb]
    rw [e1]
    clear e1 hI hG hbx x0 x1 f0 f1 hz hF hfc hfb hG1
    go_enter Try.func35, Try.ntmps35
    go_wp2_with (go_at_call 20; (with_reducible refine hFA.mono ?_); clear hFA; rintro e w3 ⟨va, k, vc, rfl, hb3, HFO⟩; have HB3 : Hid (Below w.heap.size w w3) := HBX.out.trans (hb3.mono HBX.out.size); have HX3 := keepb HX.out hb3; obtain ⟨x0, x1, f0, f1, _⟩ := res_cells HX3.out (Below.refl w3.heap.size _) (lt_of_block HX3.out); clear hb3)
    obtain ⟨_, s1, s2⟩ := two_set HX3.out (.int .i64 4) (.int .i64 0)
    exact bodyPost_ret (v := .agg #[.int .i64 4, .int .i64 0]) (by simp [results, Try.results35, go_sem, s1, s2]) rfl ⟨rfl, two_end HB3.out (Nat.le_refl _) _ _⟩
  obtain rfl : fc = 0 := by rw [hfc]; unfold foundC; rw [if_pos hfb]
  obtain ⟨r, hr⟩ : ∃ r, r = bestI ms ls := ⟨_, rfl⟩
  have e1 : lockR ms ls = (0, r) := by unfold lockR; rw [if_neg (by rw [HN.out]; exact h20), if_neg (by simp [hfb]), hr]
  have HR : Hid (bestI ms ls = r) := hr.symm
  have HFB : Hid (foundB ms ls = true) := hfb
  have HG1 : Hid (Gv (w.alloc (.cells #[.int .i64 0, .int .i64 0] 28)) lo G B s ms bs) := hG1
  rw [e1]
  have key : ∀ w3 va k vc, Below (w.alloc (.cells #[.int .i64 0, .int .i64 0] 28)).heap.size (w.alloc (.cells #[.int .i64 0, .int .i64 0] 28)) w3 → FoundO w3 (w.alloc (.cells #[.int .i64 0, .int .i64 0] 28)).heap.size ms bs ls va k vc m → Hid (k = m) ∧ ∃ p, Calls Try.prog 43 #[.pointer (some ⟨G, 0, none⟩), .slice va k vc] w3 (fun e w' => e = .returned (.pointer p) ∧ w' = w3) ∧ Calls Try.prog 22 #[.pointer p] w3 (fun e w' => e = .returned (.int .i64 r) ∧ w' = w3) := fun w3 va k vc hb hO => by
    obtain ⟨rfl, hrow⟩ := hO HFB.out
    have hg3 := HG1.out.below hb
    refine ⟨rfl, _, best_any lo _ G B s ms bs ls va k vc w3 HZ.out hg3 HFB.out HN.out (by omega) hrow, ?_⟩
    have := bnum_any hg3 (q := bestK ms ls ms.length) (bestK_lt ms ls ms.length)
    rw [← HR.out]
    exact this
  clear e1 hI hG hbx x0 x1 f0 f1 hz hF hfc hfb hG1 hr
  go_enter Try.func35, Try.ntmps35
  go_wp2_with (first
    | (go_at_call 20; (with_reducible refine hFA.mono ?_); clear hFA; rintro e w3 ⟨va, k, vc, rfl, hb3, HFO⟩; obtain ⟨_, p, q1, q2⟩ := key w3 va k vc hb3 HFO.out; clear key HFO; have HB3 : Hid (Below w.heap.size w w3) := HBX.out.trans (hb3.mono HBX.out.size); have HX3 := keepb HX.out hb3; obtain ⟨x0, x1, f0, f1, _⟩ := res_cells HX3.out (Below.refl w3.heap.size _) (lt_of_block HX3.out); clear hb3)
    | (go_at_call 43; (with_reducible refine q1.mono ?_); clear q1; rintro e w' ⟨rfl, hw⟩; have hw2 := hw.symm; subst hw2)
    | (go_at_call 22; (with_reducible refine q2.mono ?_); clear q2; rintro e w' ⟨rfl, hw⟩; have hw2 := hw.symm; subst hw2))
  obtain ⟨_, s1, s2⟩ := two_set HX3.out (.int .i64 0) (.int .i64 r)
  exact bodyPost_ret (v := .agg #[.int .i64 0, .int .i64 r]) (by simp [results, Try.results35, go_sem, s1, s2]) rfl ⟨rfl, two_end HB3.out (Nat.le_refl _) _ _⟩

set_option maxRecDepth 20000 in
set_option maxHeartbeats 4000000 in
theorem iBestOf_any (n c m d : Nat) (ad a2 : Option Addr) (ms : List Mb) (ls : List Int) (w : World) (hm : m ≤ 1048576) (hC : n ≤ c ∧ c ≤ maxLen ∧ MAt w ad n ms) (hI : IAt w a2 m ls) (hF : FineN ms) (hFI : FineI ls) :
    Calls Try.prog 15 #[.slice ad n c, .slice a2 m d] w fun e w' => e = .returned (.agg #[.int .i64 (bestR ms ls).1, .int .i64 (bestR ms ls).2]) ∧ Below w.heap.size w w' := by
  have hbx : Below w.heap.size w (w.alloc (.cells #[.int .i64 0, .int .i64 0] 28)) := below_box _
  have HBX : Hid (Below w.heap.size w (w.alloc (.cells #[.int .i64 0, .int .i64 0] 28))) := hbx
  have HX : Hid ((w.alloc (.cells #[.int .i64 0, .int .i64 0] 28)).heap[w.heap.size]? = some (.cells #[.int .i64 0, .int .i64 0] 28 (0, 0))) := heap_alloc_new _ _
  have h := plant_any n c ad ms _ (hC.2.2.below hbx (Nat.le_refl _)) hF (Nat.le_trans hC.1 hC.2.1)
  have HI : Hid (IAt w a2 m ls) := hI
  have HFI : Hid (FineI ls) := hFI
  obtain ⟨cd, hcd⟩ : ∃ x, x = treeR ms := ⟨_, rfl⟩
  rw [← hcd] at h
  by_cases h0 : cd = 0
  rotate_left
  · have e1 : bestR ms ls = (cd, 0) := by unfold bestR; rw [← hcd, if_pos h0]
    rw [e1]
    have hcn2 : (cd != 0) = true := by simpa using h0
    clear e1 hcd hC hbx hF hI hFI
    go_enter Try.func15, Try.ntmps15
    go_wp2_with (go_at_call 19; (with_reducible refine h.mono ?_); clear h; rintro e w2 ⟨p, rfl, hb2, _⟩; have HB2 : Hid (Below w.heap.size w w2) := HBX.out.trans (hb2.mono HBX.out.size); have HX2 := keepb HX.out hb2; obtain ⟨x0, x1, f0, f1, _⟩ := res_cells HX2.out (Below.refl w2.heap.size _) (lt_of_block HX2.out); clear hb2)
    obtain ⟨_, s1, s2⟩ := two_set HX2.out (.int .i64 cd) (.int .i64 0)
    exact bodyPost_ret (v := .agg #[.int .i64 cd, .int .i64 0]) (by simp [results, Try.results15, go_sem, s1, s2]) rfl ⟨rfl, two_end HB2.out (Nat.le_refl _) _ _⟩
  have HZ : Hid (treeR ms = 0) := by show _ = _; rw [← hcd]; exact h0
  subst h0
  have e1 : bestR ms ls = lockR ms ls := by unfold bestR lockR; rw [← hcd, if_neg (by simp)]
  rw [e1]
  obtain ⟨c1, hc1⟩ : ∃ z, z = (lockR ms ls).1 := ⟨_, rfl⟩
  obtain ⟨c2, hc2⟩ : ∃ z, z = (lockR ms ls).2 := ⟨_, rfl⟩
  rw [← hc1, ← hc2]
  have HCC : Hid ((lockR ms ls).1 = c1 ∧ (lockR ms ls).2 = c2) := ⟨hc1.symm, hc2.symm⟩
  clear e1 hcd hC hbx hF hI hFI hc1 hc2
  go_enter Try.func15, Try.ntmps15
  go_wp2_with (first
    | (go_at_call 19; (with_reducible refine h.mono ?_); clear h; rintro e w2 ⟨p, rfl, hb2, HP⟩; obtain ⟨G, B, s, bs, rfl, hG⟩ := HP.out.2 HZ.out; have HB2 : Hid (Below w.heap.size w w2) := HBX.out.trans (hb2.mono HBX.out.size); have hbo := bestOf_any _ G B s ms bs ls a2 m d w2 hm HZ.out (HI.out.below HB2.out (Nat.le_refl _)) HFI.out hG; rw [HCC.out.1, HCC.out.2] at hbo; have HX2 := keepb HX.out hb2; clear hb2 hG HP)
    | (go_at_call 35; (with_reducible refine hbo.mono ?_); clear hbo; rintro e w3 ⟨rfl, hb3⟩; have HB3 : Hid (Below w.heap.size w w3) := HB2.out.trans (hb3.mono HB2.out.size); have HX3 := keepb HX2.out hb3; obtain ⟨x0, x1, f0, f1, _⟩ := res_cells HX3.out (Below.refl w3.heap.size _) (lt_of_block HX3.out); clear hb3))
  obtain ⟨_, s1, s2⟩ := two_set HX3.out (.int .i64 c1) (.int .i64 c2)
  exact bodyPost_ret (v := .agg #[.int .i64 c1, .int .i64 c2]) (by simp [results, Try.results15, go_sem, s1, s2]) rfl ⟨rfl, two_end HB3.out (Nat.le_refl _) _ _⟩

end Go.Proofs.Ytinlhghlmfcbfaa
