/- CastFor: what keeps a voter from voting for a block; the program's and the specification's whole. -/
import Derived.Test.YtglpbkicmpmepaaZg
import Derived.Test.YtglpbkicmpmepaaNf
namespace Go.Proofs.Ytglpbkicmpmepaa
open Go.RowKit Go.Maps Go.WideMaps

def castC (ns : List Mb) (l id : Int) : Int := if nAt ns id < 0 then 4 else if l = id ∨ (l ≠ 0 ∧ aboveB ns l id = false) then 10 else 0
def castR (ns : List Mb) (k l : Int) (ms : List Mb) (id : Int) : Vr :=
  if treeR ns ≠ 0 then vrBad (treeR ns) else if voterR k l ms ≠ 0 then vrBad (voterR k l ms) else if castC ns l id ≠ 0 then vrBad (castC ns l id) else ⟨0, ⟨k, 1, id, 0, 0, 0⟩, k, id, ms⟩
theorem castR_few (ns : List Mb) (k l : Int) (ms : List Mb) (id : Int) : (castR ns k l ms id).ms.length ≤ 40 := by
  unfold castR
  split
  · simp [vrBad]
  · by_cases h0 : voterR k l ms ≠ 0
    · rw [if_pos h0]; simp [vrBad]
    · rw [if_neg h0]
      split
      · simp [vrBad]
      · exact (voterR_ok (Decidable.not_not.1 h0)).2.2.1

set_option maxHeartbeats 2000000 in
theorem castFault_any (k l id : Int) (a : Option Addr) (n cap lo G B : Nat) (s : Value) (ns : List Mb) (bs : List Nat) (w : World) (hz : treeR ns = 0) (hG : Gv w lo G B s ns bs) (hwl : (Lit.int .i64 l).wf = true) (hwi : (Lit.int .i64 id).wf = true) :
    Calls Try.prog 25 #[.agg #[.int .i64 k, .int .i64 l, .slice a n cap], .pointer (some ⟨G, 0, none⟩), .int .i64 id] w fun e w' => e = .returned (.int .i64 (castC ns l id)) ∧ Below w.heap.size w w' := by
  have HBX : Hid (Below w.heap.size w (w.alloc (.cells #[.int .i64 k, .int .i64 l, .slice a n cap] 34))) := below_box _
  have hG1 := hG.below HBX.out
  obtain ⟨pi, hpi⟩ := ptr_ex ns bs id
  obtain ⟨pl, hpl⟩ := ptr_ex ns bs l
  have f1 := find_ptr hwi hG1 hpi
  have f2 := find_ptr hwl hG1 hpl
  obtain ⟨rr, hrr⟩ : ∃ z, z = aboveB ns l id := ⟨_, rfl⟩
  have f3 := iAbove_ptr hz hG1 hpl hpi hrr.symm
  obtain ⟨r, hr⟩ : ∃ r, r = castC ns l id := ⟨_, rfl⟩
  rw [← hr]
  by_cases h0 : nAt ns id < 0
  · obtain rfl : r = 4 := by rw [hr]; unfold castC; rw [if_pos h0]
    obtain rfl : pi = none := by rw [ptrOf_none h0] at hpi; simpa using hpi.symm
    clear hr hrr hpi hpl hG hG1 hz h0 f2 f3
    go_enter Try.func25, Try.ntmps25
    go_wp2_with (go_at_call 46; (with_reducible refine f1.mono ?_); rintro e w' ⟨rfl, hw⟩; have hw2 := hw.symm; subst hw2)
    go_ret
    exact ⟨rfl, HBX.out⟩
  obtain ⟨j, hj⟩ : ∃ j : Nat, nAt ns id = (j : Int) := ⟨(nAt ns id).toNat, by omega⟩
  obtain ⟨X, rfl⟩ : ∃ X, pi = some ⟨X, 0, none⟩ := ⟨bs.getD j 0, by rw [ptrOf_some hj] at hpi; simpa using hpi.symm⟩
  have hid0 : id ≠ 0 := fun e => h0 (by rw [e, no_zero hz]; omega)
  have hr2 : r = if l = id ∨ (l ≠ 0 ∧ rr = false) then 10 else 0 := by rw [hr, hrr]; unfold castC; rw [if_neg h0]
  clear hr hrr hpi hpl hG hG1 hz h0 hj
  by_cases hl0 : l = 0
  · obtain rfl : r = 0 := by rw [hr2, if_neg (fun h => h.elim (fun e => hid0 (by rw [← e, hl0])) (fun e => e.1 hl0))]
    subst hl0
    clear hr2 hid0 f2 f3
    go_enter Try.func25, Try.ntmps25
    go_wp2_with (go_at_call 46; (with_reducible refine f1.mono ?_); rintro e w' ⟨rfl, hw⟩; have hw2 := hw.symm; subst hw2)
    go_ret
    exact ⟨rfl, HBX.out⟩
  have hn0 : (l != 0) = true := by simpa using hl0
  by_cases hli : l = id
  · obtain rfl : r = 10 := by rw [hr2, if_pos (.inl hli)]
    have hn1 : (l == id) = true := by simpa using hli
    clear hr2 hid0 f2 f3 hli hl0
    go_enter Try.func25, Try.ntmps25
    go_wp2_with (go_at_call 46; (with_reducible refine f1.mono ?_); rintro e w' ⟨rfl, hw⟩; have hw2 := hw.symm; subst hw2)
    go_ret
    exact ⟨rfl, HBX.out⟩
  have hn1 : (l == id) = false := by simpa using hli
  cases rr
  · obtain rfl : r = 10 := by rw [hr2, if_pos (.inr ⟨hl0, rfl⟩)]
    clear hr2 hid0 hli hl0
    go_enter Try.func25, Try.ntmps25
    go_wp2_with (first | (go_at_call 46; (first | (with_reducible refine f1.mono ?_) | (with_reducible refine f2.mono ?_)); rintro e w' ⟨rfl, hw⟩; have hw2 := hw.symm; subst hw2) | (go_at_call 47; (with_reducible refine f3.mono ?_); rintro e w' ⟨rfl, hw⟩; have hw2 := hw.symm; subst hw2))
    go_ret
    exact ⟨rfl, HBX.out⟩
  · obtain rfl : r = 0 := by rw [hr2, if_neg (fun h => h.elim (fun e => hli e) (fun e => Bool.noConfusion e.2))]
    clear hr2 hid0 hli hl0
    go_enter Try.func25, Try.ntmps25
    go_wp2_with (first | (go_at_call 46; (first | (with_reducible refine f1.mono ?_) | (with_reducible refine f2.mono ?_)); rintro e w' ⟨rfl, hw⟩; have hw2 := hw.symm; subst hw2) | (go_at_call 47; (with_reducible refine f3.mono ?_); rintro e w' ⟨rfl, hw⟩; have hw2 := hw.symm; subst hw2))
    go_ret
    exact ⟨rfl, HBX.out⟩

set_option maxRecDepth 20000 in
set_option maxHeartbeats 4000000 in
theorem iCastFor_any (tn tc : Nat) (ta : Option Addr) (ns : List Mb) (k l id : Int) (a : Option Addr) (n cap : Nat) (ms : List Mb) (w : World) (htl : tn ≤ maxLen) (hT : MAt w ta tn ns) (hF : FineN ns) (hcap : n ≤ cap) (hl : n ≤ maxLen) (hC : MAt w a n ms) (hwl : (Lit.int .i64 l).wf = true) (hwi : (Lit.int .i64 id).wf = true) :
    Calls Try.prog 9 #[.slice ta tn tc, .agg #[.int .i64 k, .int .i64 l, .slice a n cap], .int .i64 id] w fun e w' => OutVr w w' e (castR ns k l ms id) := by
  obtain ⟨w1, hw1⟩ : ∃ W, W = ((w.alloc (.cells #[.int .i64 k, .int .i64 l, .slice a n cap] 34)).alloc (.cells #[.int .i64 0, .int .i64 0, .int .i64 0, .int .i64 0, .int .i64 0, .int .i64 0, .int .i64 0, .int .i64 0, .int .i64 0, .slice none 0 0] 36)) := ⟨_, rfl⟩
  have HW1 : Hid (w1 = ((w.alloc (.cells #[.int .i64 k, .int .i64 l, .slice a n cap] 34)).alloc (.cells #[.int .i64 0, .int .i64 0, .int .i64 0, .int .i64 0, .int .i64 0, .int .i64 0, .int .i64 0, .int .i64 0, .int .i64 0, .slice none 0 0] 36))) := hw1
  have HBL : Hid (Below w.heap.size w w1) := by rw [hw1]; exact below_box2 _ _
  have HX0 : Hid (w1.heap[w.heap.size]? = some (.cells #[.int .i64 k, .int .i64 l, .slice a n cap] 34 (0, 0))) := by rw [hw1]; exact block_at2
  have HX2 : Hid (w1.heap[w.heap.size + 1]? = some (.cells #[.int .i64 0, .int .i64 0, .int .i64 0, .int .i64 0, .int .i64 0, .int .i64 0, .int .i64 0, .int .i64 0, .int .i64 0, .slice none 0 0] 36 (0, 0))) := by rw [hw1]; exact heap_alloc_at _ _ _ (by simp)
  have HSZ : Hid (w1.heap.size = w.heap.size + 1 + 1) := by show _ = _; rw [hw1]; simp
  have HC : Hid (MAt w1 a n ms) := hC.below HBL.out (Nat.le_refl _)
  have HTC : Hid (MAt w1 ta tn ns) := hT.below HBL.out (Nat.le_refl _)
  have HN : Hid (ms.length = n) := hC.1
  have hpl := plant_any tn tc ta ns w1 HTC.out hF htl
  have HWF : Hid ((Lit.int .i64 l).wf = true ∧ (Lit.int .i64 id).wf = true) := ⟨hwl, hwi⟩
  obtain ⟨cd, hcd⟩ : ∃ x, x = treeR ns := ⟨_, rfl⟩
  rw [← hcd, hw1] at hpl
  clear hC hT hw1 hwl hwi hF
  by_cases h0 : cd = 0
  rotate_left
  · have e1 : castR ns k l ms id = vrBad cd := by unfold castR; rw [if_pos (by rw [← hcd]; exact h0), hcd]
    rw [e1]
    have hcn : (cd != 0) = true := by simpa using h0
    clear e1 hcd h0
    go_enter Try.func9, Try.ntmps9
    go_wp2_with (go_at_call 23; (with_reducible refine hpl.mono ?_); clear hpl; rintro e w2 ⟨p, rfl, hb2, _⟩; rw [← HW1.out] at hb2; have HR3 := keepb HX2.out hb2; obtain ⟨y0, y1, y2, y3, y4, y5, y6, y7, y8, y9⟩ := cells10V HR3.out; have f0 := Joins.unfrozen_of_block HR3.out 0; have f1 := Joins.unfrozen_of_block HR3.out 1; have f2 := Joins.unfrozen_of_block HR3.out 2; have f3 := Joins.unfrozen_of_block HR3.out 3; have f4 := Joins.unfrozen_of_block HR3.out 4; have f5 := Joins.unfrozen_of_block HR3.out 5; have f6 := Joins.unfrozen_of_block HR3.out 6; have f7 := Joins.unfrozen_of_block HR3.out 7; have f8 := Joins.unfrozen_of_block HR3.out 8; have f9 := Joins.unfrozen_of_block HR3.out 9; have HB2 : Hid (Below w.heap.size w w2) := HBL.out.trans (hb2.mono HBL.out.size); clear hb2)
    obtain ⟨s0, s1, s2, s3, s4, s5, s6, s7, s8, s9⟩ := cells10V (set10V10 HR3.out (.int .i64 cd) (.int .i64 0) (.int .i64 0) (.int .i64 0) (.int .i64 0) (.int .i64 0) (.int .i64 0) (.int .i64 0) (.int .i64 0) (.slice none 0 0))
    exact bodyPost_ret (v := .agg #[.int .i64 cd, .int .i64 0, .int .i64 0, .int .i64 0, .int .i64 0, .int .i64 0, .int .i64 0, .int .i64 0, .int .i64 0, .slice none 0 0]) (by simp [results, Try.results9, go_sem, s0, s1, s2, s3, s4, s5, s6, s7, s8, s9]) rfl (vr_code HR3 ⟨by omega, HB2.out⟩)
  have HTZ : Hid (treeR ns = 0) := by show _ = _; rw [← hcd]; exact h0
  subst h0
  clear hcd
  obtain ⟨vd, hvd⟩ : ∃ x, x = voterR k l ms := ⟨_, rfl⟩
  have HVF : Hid (∀ v, Below w1.heap.size w1 v → Calls Try.prog 24 #[.agg #[.int .i64 k, .int .i64 l, .slice a n cap]] v fun e w' => e = .returned (.int .i64 vd) ∧ Below v.heap.size v w') := fun v hv => by rw [hvd]; exact iVoterFault_any n cap a ms k l v hcap hl (HC.out.below hv (Nat.le_refl _))
  have hplant : ∀ (p : Option Addr) (w2 : World), Hid (PlO w2 w1.heap.size ns p) → ∃ G B s bs, p = some ⟨G, 0, none⟩ ∧ Gv w2 w1.heap.size G B s ns bs := fun p w2 HP => HP.out.2 HTZ.out
  by_cases h1 : vd = 0
  rotate_left
  · have e1 : castR ns k l ms id = vrBad vd := by unfold castR; rw [if_neg (by rw [HTZ.out]; simp), if_pos (by rw [← hvd]; exact h1), hvd]
    rw [e1]
    have hcn : (vd != 0) = true := by simpa using h1
    clear e1 hvd h1
    go_enter Try.func9, Try.ntmps9
    go_wp2_with (first
      | (go_at_call 23; (with_reducible refine hpl.mono ?_); clear hpl; rintro e w2 ⟨p, rfl, hb2, _⟩; rw [← HW1.out] at hb2; have HB2 : Hid (Below w1.heap.size w1 w2) := hb2; obtain ⟨b0, b1, b2⟩ := cells3 (keepb HX0.out hb2).out; have hvf := HVF.out w2 hb2; clear hb2)
      | (go_at_call 24; (with_reducible refine hvf.mono ?_); clear hvf; rintro e w3 ⟨rfl, hb3⟩; have HB3 : Hid (Below w1.heap.size w1 w3) := HB2.out.trans (hb3.mono HB2.out.size); have HR3 := keepb HX2.out HB3.out; obtain ⟨y0, y1, y2, y3, y4, y5, y6, y7, y8, y9⟩ := cells10V HR3.out; have f0 := Joins.unfrozen_of_block HR3.out 0; have f1 := Joins.unfrozen_of_block HR3.out 1; have f2 := Joins.unfrozen_of_block HR3.out 2; have f3 := Joins.unfrozen_of_block HR3.out 3; have f4 := Joins.unfrozen_of_block HR3.out 4; have f5 := Joins.unfrozen_of_block HR3.out 5; have f6 := Joins.unfrozen_of_block HR3.out 6; have f7 := Joins.unfrozen_of_block HR3.out 7; have f8 := Joins.unfrozen_of_block HR3.out 8; have f9 := Joins.unfrozen_of_block HR3.out 9; clear hb3))
    obtain ⟨s0, s1, s2, s3, s4, s5, s6, s7, s8, s9⟩ := cells10V (set10V10 HR3.out (.int .i64 vd) (.int .i64 0) (.int .i64 0) (.int .i64 0) (.int .i64 0) (.int .i64 0) (.int .i64 0) (.int .i64 0) (.int .i64 0) (.slice none 0 0))
    exact bodyPost_ret (v := .agg #[.int .i64 vd, .int .i64 0, .int .i64 0, .int .i64 0, .int .i64 0, .int .i64 0, .int .i64 0, .int .i64 0, .int .i64 0, .slice none 0 0]) (by simp [results, Try.results9, go_sem, s0, s1, s2, s3, s4, s5, s6, s7, s8, s9]) rfl (vr_code HR3 ⟨by omega, HBL.out.trans (HB3.out.mono HBL.out.size)⟩)
  have HVZ : Hid (voterR k l ms = 0) := by show _ = _; rw [← hvd]; exact h1
  subst h1
  clear hvd
  have hn40 : n ≤ 40 := by rw [← HN.out]; exact (voterR_ok HVZ.out).2.2.1
  obtain ⟨cc, hcc⟩ : ∃ x, x = castC ns l id := ⟨_, rfl⟩
  have HCF : Hid (∀ (v : World) G B s bs, Gv v w1.heap.size G B s ns bs → Calls Try.prog 25 #[.agg #[.int .i64 k, .int .i64 l, .slice a n cap], .pointer (some ⟨G, 0, none⟩), .int .i64 id] v fun e w' => e = .returned (.int .i64 cc) ∧ Below v.heap.size v w') := fun v G B s bs hG => by rw [hcc]; exact castFault_any k l id a n cap _ G B s ns bs v HTZ.out hG HWF.out.1 HWF.out.2
  by_cases h2 : cc = 0
  rotate_left
  · have e1 : castR ns k l ms id = vrBad cc := by unfold castR; rw [if_neg (by rw [HTZ.out]; simp), if_neg (by rw [HVZ.out]; simp), if_pos (by rw [← hcc]; exact h2), hcc]
    rw [e1]
    have hcn : (cc != 0) = true := by simpa using h2
    clear e1 hcc h2
    go_enter Try.func9, Try.ntmps9
    go_wp2_with (first
      | (go_at_call 23; (with_reducible refine hpl.mono ?_); clear hpl; rintro e w2 ⟨p, rfl, hb2, HP⟩; rw [← HW1.out] at hb2 HP; obtain ⟨G, B, s, bs, rfl, hG⟩ := hplant p w2 HP; have HG2 : Hid (Gv w2 w1.heap.size G B s ns bs) := hG; have HB2 : Hid (Below w1.heap.size w1 w2) := hb2; obtain ⟨b0, b1, b2⟩ := cells3 (keepb HX0.out hb2).out; have hvf := HVF.out w2 hb2; clear hb2 HP hG)
      | (go_at_call 24; (with_reducible refine hvf.mono ?_); clear hvf; rintro e w3 ⟨rfl, hb3⟩; have HB3 : Hid (Below w1.heap.size w1 w3) := HB2.out.trans (hb3.mono HB2.out.size); obtain ⟨d0, d1, d2⟩ := cells3 (keepb HX0.out HB3.out).out; have hcf := HCF.out w3 G B s bs (HG2.out.below hb3); clear hb3)
      | (go_at_call 25; (with_reducible refine hcf.mono ?_); clear hcf; rintro e w4 ⟨rfl, hb4⟩; have HB4 : Hid (Below w1.heap.size w1 w4) := HB3.out.trans (hb4.mono HB3.out.size); have HR3 := keepb HX2.out HB4.out; obtain ⟨y0, y1, y2, y3, y4, y5, y6, y7, y8, y9⟩ := cells10V HR3.out; have f0 := Joins.unfrozen_of_block HR3.out 0; have f1 := Joins.unfrozen_of_block HR3.out 1; have f2 := Joins.unfrozen_of_block HR3.out 2; have f3 := Joins.unfrozen_of_block HR3.out 3; have f4 := Joins.unfrozen_of_block HR3.out 4; have f5 := Joins.unfrozen_of_block HR3.out 5; have f6 := Joins.unfrozen_of_block HR3.out 6; have f7 := Joins.unfrozen_of_block HR3.out 7; have f8 := Joins.unfrozen_of_block HR3.out 8; have f9 := Joins.unfrozen_of_block HR3.out 9; clear hb4))
    obtain ⟨s0, s1, s2, s3, s4, s5, s6, s7, s8, s9⟩ := cells10V (set10V10 HR3.out (.int .i64 cc) (.int .i64 0) (.int .i64 0) (.int .i64 0) (.int .i64 0) (.int .i64 0) (.int .i64 0) (.int .i64 0) (.int .i64 0) (.slice none 0 0))
    exact bodyPost_ret (v := .agg #[.int .i64 cc, .int .i64 0, .int .i64 0, .int .i64 0, .int .i64 0, .int .i64 0, .int .i64 0, .int .i64 0, .int .i64 0, .slice none 0 0]) (by simp [results, Try.results9, go_sem, s0, s1, s2, s3, s4, s5, s6, s7, s8, s9]) rfl (vr_code HR3 ⟨by omega, HBL.out.trans (HB4.out.mono HBL.out.size)⟩)
  have e1 : castR ns k l ms id = ⟨0, ⟨k, 1, id, 0, 0, 0⟩, k, id, ms⟩ := by unfold castR; rw [if_neg (by rw [HTZ.out]; simp), if_neg (by rw [HVZ.out]; simp), if_neg (by rw [← hcc, h2]; simp)]
  rw [e1]
  subst h2
  clear e1 hcc
  have HV : Hid (∀ v, Below w1.heap.size w1 v → Calls Try.prog 26 #[.agg #[.int .i64 k, .int .i64 l, .slice a n cap], .iface 64 (.agg #[.int .i64 id])] v fun e w' => OutVr v w' e ⟨0, ⟨k, 1, id, 0, 0, 0⟩, k, id, ms⟩) := fun v hv => votedFor_block k l id a n cap ms v (by omega) (HC.out.below hv (Nat.le_refl _))
  go_enter Try.func9, Try.ntmps9
  go_wp2_with (first
    | (go_at_call 23; (with_reducible refine hpl.mono ?_); clear hpl; rintro e w2 ⟨p, rfl, hb2, HP⟩; rw [← HW1.out] at hb2 HP; obtain ⟨G, B, s, bs, rfl, hG⟩ := hplant p w2 HP; have HG2 : Hid (Gv w2 w1.heap.size G B s ns bs) := hG; have HB2 : Hid (Below w1.heap.size w1 w2) := hb2; obtain ⟨b0, b1, b2⟩ := cells3 (keepb HX0.out hb2).out; have hvf := HVF.out w2 hb2; clear hb2 HP hG)
    | (go_at_call 24; (with_reducible refine hvf.mono ?_); clear hvf; rintro e w3 ⟨rfl, hb3⟩; have HB3 : Hid (Below w1.heap.size w1 w3) := HB2.out.trans (hb3.mono HB2.out.size); obtain ⟨d0, d1, d2⟩ := cells3 (keepb HX0.out HB3.out).out; have hcf := HCF.out w3 G B s bs (HG2.out.below hb3); clear hb3)
    | (go_at_call 25; (with_reducible refine hcf.mono ?_); clear hcf; rintro e w5 ⟨rfl, hb5⟩; have HB5 : Hid (Below w1.heap.size w1 w5) := HB3.out.trans (hb5.mono HB3.out.size); obtain ⟨e0, e1, e2⟩ := cells3 (keepb HX0.out HB5.out).out; have hvt := HV.out w5 HB5.out; clear hb5)
    | (go_at_call 26; (with_reducible refine hvt.mono ?_); clear hvt; rintro e w4 ⟨va, vc, rfl, hO, hb4⟩; simp only [HN.out] at hO ⊢; have HO : Hid (w4.ownsRow w5.heap.size 74 3 (.slice va n vc) n (mcells ms)) := hO; have HB4 : Hid (Below w1.heap.size w1 w4) := HB5.out.trans (hb4.mono HB5.out.size); have HR3 := keepb HX2.out HB4.out; obtain ⟨y0, y1, y2, y3, y4, y5, y6, y7, y8, y9⟩ := cells10V HR3.out; have f0 := Joins.unfrozen_of_block HR3.out 0; have f1 := Joins.unfrozen_of_block HR3.out 1; have f2 := Joins.unfrozen_of_block HR3.out 2; have f3 := Joins.unfrozen_of_block HR3.out 3; have f4 := Joins.unfrozen_of_block HR3.out 4; have f5 := Joins.unfrozen_of_block HR3.out 5; have f6 := Joins.unfrozen_of_block HR3.out 6; have f7 := Joins.unfrozen_of_block HR3.out 7; have f8 := Joins.unfrozen_of_block HR3.out 8; have f9 := Joins.unfrozen_of_block HR3.out 9; clear hO hb4))
  obtain ⟨s0, s1, s2, s3, s4, s5, s6, s7, s8, s9⟩ := cells10V (set10V10 HR3.out (.int .i64 0) (.int .i64 k) (.int .i64 1) (.int .i64 id) (.int .i64 0) (.int .i64 0) (.int .i64 0) (.int .i64 k) (.int .i64 id) (.slice va n vc))
  exact bodyPost_ret (v := .agg #[.int .i64 0, .int .i64 k, .int .i64 1, .int .i64 id, .int .i64 0, .int .i64 0, .int .i64 0, .int .i64 k, .int .i64 id, .slice va n vc]) (by simp [results, Try.results9, go_sem, s0, s1, s2, s3, s4, s5, s6, s7, s8, s9]) rfl (vr_keep (V := w5) (v := ⟨k, 1, id, 0, 0, 0⟩) HN.out HO ⟨by omega, by have := HB5.out.size; have := HSZ.out; omega, HBL.out.trans (HB4.out.mono HBL.out.size)⟩)

set_option maxRecDepth 20000 in
set_option maxHeartbeats 4000000 in
theorem l11Cast_any (tn tc : Nat) (ta : Option Addr) (ns : List Mb) (k l id : Int) (a : Option Addr) (n cap : Nat) (ms : List Mb) (w : World) (htl : tn ≤ 1048576) (hT : MAt w ta tn ns) (hC : MAt w a n ms) (htz : treeR ns = 0) (hvz : voterR k l ms = 0) :
    Calls Try.prog 20 #[.slice ta tn tc, .agg #[.int .i64 k, .int .i64 l, .slice a n cap], .int .i64 id] w fun e w' => OutVr w w' e (castR ns k l ms id) := by
  obtain ⟨w1, hw1⟩ : ∃ W, W = ((w.alloc (.cells #[.int .i64 k, .int .i64 l, .slice a n cap] 34)).alloc (.cells #[.int .i64 0, .int .i64 0, .int .i64 0, .int .i64 0, .int .i64 0, .int .i64 0, .int .i64 0, .int .i64 0, .int .i64 0, .slice none 0 0] 36)) := ⟨_, rfl⟩
  have HW1 : Hid (w1 = ((w.alloc (.cells #[.int .i64 k, .int .i64 l, .slice a n cap] 34)).alloc (.cells #[.int .i64 0, .int .i64 0, .int .i64 0, .int .i64 0, .int .i64 0, .int .i64 0, .int .i64 0, .int .i64 0, .int .i64 0, .slice none 0 0] 36))) := hw1
  have HBL : Hid (Below w.heap.size w w1) := by rw [hw1]; exact below_box2 _ _
  have HX0 : Hid (w1.heap[w.heap.size]? = some (.cells #[.int .i64 k, .int .i64 l, .slice a n cap] 34 (0, 0))) := by rw [hw1]; exact block_at2
  have HX2 : Hid (w1.heap[w.heap.size + 1]? = some (.cells #[.int .i64 0, .int .i64 0, .int .i64 0, .int .i64 0, .int .i64 0, .int .i64 0, .int .i64 0, .int .i64 0, .int .i64 0, .slice none 0 0] 36 (0, 0))) := by rw [hw1]; exact heap_alloc_at _ _ _ (by simp)
  have HSZ : Hid (w1.heap.size = w.heap.size + 1 + 1) := by show _ = _; rw [hw1]; simp
  have HC : Hid (MAt w1 a n ms) := hC.below HBL.out (Nat.le_refl _)
  have HTC : Hid (MAt w1 ta tn ns) := hT.below HBL.out (Nat.le_refl _)
  have HN : Hid (ms.length = n) := hC.1
  have hn40 : n ≤ 40 := by rw [← HN.out]; exact (voterR_ok hvz).2.2.1
  have hat := l9At_any tn tc ta ns id w1 htl HTC.out
  have hab := l9Above_any tn tc ta ns l id w1 htl htz HTC.out
  have hcp := l11Copy_any k l a n cap ms w1 (by omega) HC.out
  obtain ⟨x, hx⟩ : ∃ x, x = nAt ns id := ⟨_, rfl⟩
  obtain ⟨rr, hrr⟩ : ∃ x, x = aboveB ns l id := ⟨_, rfl⟩
  rw [← hx] at hat
  rw [← hrr] at hab
  have hcR : castR ns k l ms id = if castC ns l id ≠ 0 then vrBad (castC ns l id) else ⟨0, ⟨k, 1, id, 0, 0, 0⟩, k, id, ms⟩ := by unfold castR; rw [if_neg (by rw [htz]; simp), if_neg (by rw [hvz]; simp)]
  have hcC : castC ns l id = if x < 0 then 4 else if l = id ∨ (l ≠ 0 ∧ rr = false) then 10 else 0 := by rw [hx, hrr]; rfl
  obtain ⟨b0, b1, b2⟩ := cells3 HX0.out
  obtain ⟨y0, y1, y2, y3, y4, y5, y6, y7, y8, y9⟩ := cells10V HX2.out; have f0 := Joins.unfrozen_of_block HX2.out 0; have f1 := Joins.unfrozen_of_block HX2.out 1; have f2 := Joins.unfrozen_of_block HX2.out 2; have f3 := Joins.unfrozen_of_block HX2.out 3; have f4 := Joins.unfrozen_of_block HX2.out 4; have f5 := Joins.unfrozen_of_block HX2.out 5; have f6 := Joins.unfrozen_of_block HX2.out 6; have f7 := Joins.unfrozen_of_block HX2.out 7; have f8 := Joins.unfrozen_of_block HX2.out 8; have f9 := Joins.unfrozen_of_block HX2.out 9
  clear hC hT htz hvz hx hrr
  rw [hw1] at hat hab hcp b0 b1 b2 y0 f0 y1 f1 y2 f2 y3 f3 y4 f4 y5 f5 y6 f6 y7 f7 y8 f8 y9 f9
  clear hw1
  by_cases h0 : x < 0
  · rw [if_pos h0] at hcC
    rw [hcC, if_pos (by simp)] at hcR
    rw [hcR]
    clear hcR hcC hab hcp
    go_enter Try.func20, Try.ntmps20
    go_wp2_with (first | (go_at_call 38; (with_reducible refine hat.mono ?_); clear hat; rintro e w' ⟨rfl, hw⟩; have hw2 := hw.symm; subst hw2))
    have hX := heap_alloc_at (w.alloc (.cells #[.int .i64 k, .int .i64 l, .slice a n cap] 34)) (.cells #[.int .i64 4, .int .i64 0, .int .i64 0, .int .i64 0, .int .i64 0, .int .i64 0, .int .i64 0, .int .i64 0, .int .i64 0, .slice none 0 0] 36) (w.heap.size + 1) (by simp)
    obtain ⟨s0, s1, s2, s3, s4, s5, s6, s7, s8, s9⟩ := cells10V hX
    exact bodyPost_ret (v := .agg #[.int .i64 4, .int .i64 0, .int .i64 0, .int .i64 0, .int .i64 0, .int .i64 0, .int .i64 0, .int .i64 0, .int .i64 0, .slice none 0 0]) (by simp [results, Try.results20, go_sem, s0, s1, s2, s3, s4, s5, s6, s7, s8, s9]) rfl ⟨none, 0, rfl, World.ownsRow_nil _ _ _ _, below_box2 _ _⟩
  rw [if_neg h0] at hcC
  by_cases hli : l = id
  · rw [if_pos (.inl hli)] at hcC
    rw [hcC, if_pos (by simp)] at hcR
    rw [hcR]
    have hn1 : (l == id) = true := by simpa using hli
    clear hcR hcC hab hcp hli
    go_enter Try.func20, Try.ntmps20
    go_wp2_with (first | (go_at_call 38; (with_reducible refine hat.mono ?_); clear hat; rintro e w' ⟨rfl, hw⟩; have hw2 := hw.symm; subst hw2))
    have hX := heap_alloc_at (w.alloc (.cells #[.int .i64 k, .int .i64 l, .slice a n cap] 34)) (.cells #[.int .i64 10, .int .i64 0, .int .i64 0, .int .i64 0, .int .i64 0, .int .i64 0, .int .i64 0, .int .i64 0, .int .i64 0, .slice none 0 0] 36) (w.heap.size + 1) (by simp)
    obtain ⟨s0, s1, s2, s3, s4, s5, s6, s7, s8, s9⟩ := cells10V hX
    exact bodyPost_ret (v := .agg #[.int .i64 10, .int .i64 0, .int .i64 0, .int .i64 0, .int .i64 0, .int .i64 0, .int .i64 0, .int .i64 0, .int .i64 0, .slice none 0 0]) (by simp [results, Try.results20, go_sem, s0, s1, s2, s3, s4, s5, s6, s7, s8, s9]) rfl ⟨none, 0, rfl, World.ownsRow_nil _ _ _ _, below_box2 _ _⟩
  have hn1 : (l == id) = false := by simpa using hli
  by_cases hb : l ≠ 0 ∧ rr = false
  · obtain ⟨hl0, rfl⟩ := hb
    rw [if_pos (.inr ⟨hl0, rfl⟩)] at hcC
    rw [hcC, if_pos (by simp)] at hcR
    rw [hcR]
    have hn2 : (l != 0) = true := by simpa using hl0
    clear hcR hcC hcp hli hl0
    go_enter Try.func20, Try.ntmps20
    go_wp2_with (first | (go_at_call 38; (with_reducible refine hat.mono ?_); clear hat; rintro e w' ⟨rfl, hw⟩; have hw2 := hw.symm; subst hw2) | (go_at_call 39; (with_reducible refine hab.mono ?_); clear hab; rintro e w' ⟨rfl, hw⟩; have hw2 := hw.symm; subst hw2))
    have hX := heap_alloc_at (w.alloc (.cells #[.int .i64 k, .int .i64 l, .slice a n cap] 34)) (.cells #[.int .i64 10, .int .i64 0, .int .i64 0, .int .i64 0, .int .i64 0, .int .i64 0, .int .i64 0, .int .i64 0, .int .i64 0, .slice none 0 0] 36) (w.heap.size + 1) (by simp)
    obtain ⟨s0, s1, s2, s3, s4, s5, s6, s7, s8, s9⟩ := cells10V hX
    exact bodyPost_ret (v := .agg #[.int .i64 10, .int .i64 0, .int .i64 0, .int .i64 0, .int .i64 0, .int .i64 0, .int .i64 0, .int .i64 0, .int .i64 0, .slice none 0 0]) (by simp [results, Try.results20, go_sem, s0, s1, s2, s3, s4, s5, s6, s7, s8, s9]) rfl ⟨none, 0, rfl, World.ownsRow_nil _ _ _ _, below_box2 _ _⟩
  rw [if_neg (fun h => h.elim (fun e => hli e) (fun e => hb e))] at hcC
  rw [hcC, if_neg (by simp)] at hcR
  rw [hcR]
  rw [← HW1.out] at hcp
  have HCP : Hid (Calls Try.prog 40 #[.agg #[.int .i64 k, .int .i64 l, .slice a n cap]] w1 fun e w' => OutVo w1 w' e k l n ms) := hcp
  clear hcR hcC y0 f0 y1 f1 y2 f2 y3 f3 y4 f4 y5 f5 y6 f6 y7 f7 y8 f8 y9 f9
  have hcp := HCP.out
  rw [HW1.out] at hcp
  by_cases hl0 : l = 0
  · have hn2 : (l != 0) = false := by simpa using hl0
    clear hl0 hli hb hab
    go_enter Try.func20, Try.ntmps20
    go_wp2_with (first | (go_at_call 38; (with_reducible refine hat.mono ?_); clear hat; rintro e w' ⟨rfl, hw⟩; have hw2 := hw.symm; subst hw2) | (go_at_call 40; (with_reducible refine hcp.mono ?_); clear hcp; rintro e w3 ⟨va, vc, rfl, hO, hb3⟩; rw [← HW1.out] at hO hb3; have HU2 : Hid (UAt w1 ((w3.alloc (.cells #[.int .i64 k, .int .i64 id, .slice va n vc] 34))) w3.heap.size k id va n vc ms) := ⟨hb3.size, hb3.trans ((below_box _).mono hb3.size), heap_alloc_new _ _, hO.alloc _⟩; have HB4 : Hid (Below w1.heap.size w1 (w3.alloc (.cells #[.int .i64 k, .int .i64 id, .slice va n vc] 34))) := HU2.out.bel; obtain ⟨d0, d1, d2⟩ := cells3 (keepb HX0.out HB4.out).out; have HR3 := keepb HX2.out HB4.out; obtain ⟨y0, y1, y2, y3, y4, y5, y6, y7, y8, y9⟩ := cells10V HR3.out; have f0 := Joins.unfrozen_of_block HR3.out 0; have f1 := Joins.unfrozen_of_block HR3.out 1; have f2 := Joins.unfrozen_of_block HR3.out 2; have f3 := Joins.unfrozen_of_block HR3.out 3; have f4 := Joins.unfrozen_of_block HR3.out 4; have f5 := Joins.unfrozen_of_block HR3.out 5; have f6 := Joins.unfrozen_of_block HR3.out 6; have f7 := Joins.unfrozen_of_block HR3.out 7; have f8 := Joins.unfrozen_of_block HR3.out 8; have f9 := Joins.unfrozen_of_block HR3.out 9; have HO := show Hid (World.ownsRow (w3.alloc (.cells #[.int .i64 k, .int .i64 id, .slice va n vc] 34)) w1.heap.size 74 3 (.slice va n vc) n (mcells ms)) from HU2.out.row; have HBZ : Hid (Below w1.heap.size w1 w1) := Below.refl _ _; clear hO hb3))
    obtain ⟨s0, s1, s2, s3, s4, s5, s6, s7, s8, s9⟩ := cells10V (set10V10 HR3.out (.int .i64 0) (.int .i64 k) (.int .i64 1) (.int .i64 id) (.int .i64 0) (.int .i64 0) (.int .i64 0) (.int .i64 k) (.int .i64 id) (.slice va n vc))
    exact bodyPost_ret (v := .agg #[.int .i64 0, .int .i64 k, .int .i64 1, .int .i64 id, .int .i64 0, .int .i64 0, .int .i64 0, .int .i64 k, .int .i64 id, .slice va n vc]) (by simp [results, Try.results20, go_sem, s0, s1, s2, s3, s4, s5, s6, s7, s8, s9]) rfl (vr_keep (V := w1) (v := ⟨k, 1, id, 0, 0, 0⟩) HN.out HO ⟨by omega, by have := HBZ.out.size; have := HSZ.out; omega, HBL.out.trans (HB4.out.mono HBL.out.size)⟩)
  · obtain rfl : rr = true := by
      cases rr
      · exact absurd ⟨hl0, rfl⟩ hb
      · rfl
    have hn2 : (l != 0) = true := by simpa using hl0
    clear hl0 hli hb
    go_enter Try.func20, Try.ntmps20
    go_wp2_with (first | (go_at_call 38; (with_reducible refine hat.mono ?_); clear hat; rintro e w' ⟨rfl, hw⟩; have hw2 := hw.symm; subst hw2) | (go_at_call 39; (with_reducible refine hab.mono ?_); clear hab; rintro e w' ⟨rfl, hw⟩; have hw2 := hw.symm; subst hw2) | (go_at_call 40; (with_reducible refine hcp.mono ?_); clear hcp; rintro e w3 ⟨va, vc, rfl, hO, hb3⟩; rw [← HW1.out] at hO hb3; have HU2 : Hid (UAt w1 ((w3.alloc (.cells #[.int .i64 k, .int .i64 id, .slice va n vc] 34))) w3.heap.size k id va n vc ms) := ⟨hb3.size, hb3.trans ((below_box _).mono hb3.size), heap_alloc_new _ _, hO.alloc _⟩; have HB4 : Hid (Below w1.heap.size w1 (w3.alloc (.cells #[.int .i64 k, .int .i64 id, .slice va n vc] 34))) := HU2.out.bel; obtain ⟨d0, d1, d2⟩ := cells3 (keepb HX0.out HB4.out).out; have HR3 := keepb HX2.out HB4.out; obtain ⟨y0, y1, y2, y3, y4, y5, y6, y7, y8, y9⟩ := cells10V HR3.out; have f0 := Joins.unfrozen_of_block HR3.out 0; have f1 := Joins.unfrozen_of_block HR3.out 1; have f2 := Joins.unfrozen_of_block HR3.out 2; have f3 := Joins.unfrozen_of_block HR3.out 3; have f4 := Joins.unfrozen_of_block HR3.out 4; have f5 := Joins.unfrozen_of_block HR3.out 5; have f6 := Joins.unfrozen_of_block HR3.out 6; have f7 := Joins.unfrozen_of_block HR3.out 7; have f8 := Joins.unfrozen_of_block HR3.out 8; have f9 := Joins.unfrozen_of_block HR3.out 9; have HO := show Hid (World.ownsRow (w3.alloc (.cells #[.int .i64 k, .int .i64 id, .slice va n vc] 34)) w1.heap.size 74 3 (.slice va n vc) n (mcells ms)) from HU2.out.row; have HBZ : Hid (Below w1.heap.size w1 w1) := Below.refl _ _; clear hO hb3))
    obtain ⟨s0, s1, s2, s3, s4, s5, s6, s7, s8, s9⟩ := cells10V (set10V10 HR3.out (.int .i64 0) (.int .i64 k) (.int .i64 1) (.int .i64 id) (.int .i64 0) (.int .i64 0) (.int .i64 0) (.int .i64 k) (.int .i64 id) (.slice va n vc))
    exact bodyPost_ret (v := .agg #[.int .i64 0, .int .i64 k, .int .i64 1, .int .i64 id, .int .i64 0, .int .i64 0, .int .i64 0, .int .i64 k, .int .i64 id, .slice va n vc]) (by simp [results, Try.results20, go_sem, s0, s1, s2, s3, s4, s5, s6, s7, s8, s9]) rfl (vr_keep (V := w1) (v := ⟨k, 1, id, 0, 0, 0⟩) HN.out HO ⟨by omega, by have := HBZ.out.size; have := HSZ.out; omega, HBL.out.trans (HB4.out.mono HBL.out.size)⟩)

set_option maxRecDepth 20000 in
set_option maxHeartbeats 4000000 in
theorem sCastFor_any (tn tc : Nat) (ta : Option Addr) (ns : List Mb) (k l id : Int) (a : Option Addr) (n cap : Nat) (ms : List Mb) (w : World) (htl : tn ≤ 1048576) (htc : tn ≤ tc) (hT : MAt w ta tn ns) (hl : n ≤ maxLen) (hC : MAt w a n ms) :
    Calls Try.prog 6 #[.slice ta tn tc, .agg #[.int .i64 k, .int .i64 l, .slice a n cap], .int .i64 id] w fun e w' => OutVr w w' e (castR ns k l ms id) := by
  obtain ⟨w1, hw1⟩ : ∃ W, W = ((w.alloc (.cells #[.int .i64 k, .int .i64 l, .slice a n cap] 34)).alloc (.cells #[.int .i64 0, .int .i64 0, .int .i64 0, .int .i64 0, .int .i64 0, .int .i64 0, .int .i64 0, .int .i64 0, .int .i64 0, .slice none 0 0] 36)) := ⟨_, rfl⟩
  have HW1 : Hid (w1 = ((w.alloc (.cells #[.int .i64 k, .int .i64 l, .slice a n cap] 34)).alloc (.cells #[.int .i64 0, .int .i64 0, .int .i64 0, .int .i64 0, .int .i64 0, .int .i64 0, .int .i64 0, .int .i64 0, .int .i64 0, .slice none 0 0] 36))) := hw1
  have HBL : Hid (Below w.heap.size w w1) := by rw [hw1]; exact below_box2 _ _
  have HX0 : Hid (w1.heap[w.heap.size]? = some (.cells #[.int .i64 k, .int .i64 l, .slice a n cap] 34 (0, 0))) := by rw [hw1]; exact block_at2
  have HX2 : Hid (w1.heap[w.heap.size + 1]? = some (.cells #[.int .i64 0, .int .i64 0, .int .i64 0, .int .i64 0, .int .i64 0, .int .i64 0, .int .i64 0, .int .i64 0, .int .i64 0, .slice none 0 0] 36 (0, 0))) := by rw [hw1]; exact heap_alloc_at _ _ _ (by simp)
  have HSZ : Hid (w1.heap.size = w.heap.size + 1 + 1) := by show _ = _; rw [hw1]; simp
  have HC : Hid (MAt w1 a n ms) := hC.below HBL.out (Nat.le_refl _)
  have HTC : Hid (MAt w1 ta tn ns) := hT.below HBL.out (Nat.le_refl _)
  have HN : Hid (ms.length = n) := hC.1
  have hpl := l9Fault_any tn tc ta ns w1 htc HTC.out
  obtain ⟨cd, hcd⟩ : ∃ x, x = treeR ns := ⟨_, rfl⟩
  rw [← hcd, hw1] at hpl
  clear hC hT hw1
  by_cases h0 : cd = 0
  rotate_left
  · have e1 : castR ns k l ms id = vrBad cd := by unfold castR; rw [if_pos (by rw [← hcd]; exact h0), hcd]
    rw [e1]
    have hcn : (cd != 0) = true := by simpa using h0
    clear e1 hcd h0
    go_enter Try.func6, Try.ntmps6
    go_wp2_with (go_at_call 18; (with_reducible refine hpl.mono ?_); clear hpl; rintro e w2 ⟨rfl, hb2⟩; rw [← HW1.out] at hb2; have HR3 := keepb HX2.out hb2; obtain ⟨y0, y1, y2, y3, y4, y5, y6, y7, y8, y9⟩ := cells10V HR3.out; have f0 := Joins.unfrozen_of_block HR3.out 0; have f1 := Joins.unfrozen_of_block HR3.out 1; have f2 := Joins.unfrozen_of_block HR3.out 2; have f3 := Joins.unfrozen_of_block HR3.out 3; have f4 := Joins.unfrozen_of_block HR3.out 4; have f5 := Joins.unfrozen_of_block HR3.out 5; have f6 := Joins.unfrozen_of_block HR3.out 6; have f7 := Joins.unfrozen_of_block HR3.out 7; have f8 := Joins.unfrozen_of_block HR3.out 8; have f9 := Joins.unfrozen_of_block HR3.out 9; have HB2 : Hid (Below w.heap.size w w2) := HBL.out.trans (hb2.mono HBL.out.size); clear hb2)
    obtain ⟨s0, s1, s2, s3, s4, s5, s6, s7, s8, s9⟩ := cells10V (set10V10 HR3.out (.int .i64 cd) (.int .i64 0) (.int .i64 0) (.int .i64 0) (.int .i64 0) (.int .i64 0) (.int .i64 0) (.int .i64 0) (.int .i64 0) (.slice none 0 0))
    exact bodyPost_ret (v := .agg #[.int .i64 cd, .int .i64 0, .int .i64 0, .int .i64 0, .int .i64 0, .int .i64 0, .int .i64 0, .int .i64 0, .int .i64 0, .slice none 0 0]) (by simp [results, Try.results6, go_sem, s0, s1, s2, s3, s4, s5, s6, s7, s8, s9]) rfl (vr_code HR3 ⟨by omega, HB2.out⟩)
  have HTZ : Hid (treeR ns = 0) := by show _ = _; rw [← hcd]; exact h0
  subst h0
  clear hcd
  obtain ⟨vd, hvd⟩ : ∃ x, x = voterR k l ms := ⟨_, rfl⟩
  have HVF : Hid (∀ v, Below w1.heap.size w1 v → Calls Try.prog 19 #[.pointer (some ⟨w.heap.size, 0, none⟩)] v fun e w' => e = .returned (.int .i64 vd) ∧ Below v.heap.size v w') := fun v hv => by rw [hvd]; exact l11Fault_any w.heap.size n cap a ms k l v hl (HC.out.below hv (Nat.le_refl _)) (keepb HX0.out hv).out
  by_cases h1 : vd = 0
  rotate_left
  · have e1 : castR ns k l ms id = vrBad vd := by unfold castR; rw [if_neg (by rw [HTZ.out]; simp), if_pos (by rw [← hvd]; exact h1), hvd]
    rw [e1]
    have hcn : (vd != 0) = true := by simpa using h1
    clear e1 hvd h1
    go_enter Try.func6, Try.ntmps6
    go_wp2_with (first
      | (go_at_call 18; (with_reducible refine hpl.mono ?_); clear hpl; rintro e w2 ⟨rfl, hb2⟩; rw [← HW1.out] at hb2; have HB2 : Hid (Below w1.heap.size w1 w2) := hb2; have hvf := HVF.out w2 hb2; clear hb2)
      | (go_at_call 19; (with_reducible refine hvf.mono ?_); clear hvf; rintro e w3 ⟨rfl, hb3⟩; have HB3 : Hid (Below w1.heap.size w1 w3) := HB2.out.trans (hb3.mono HB2.out.size); have HR3 := keepb HX2.out HB3.out; obtain ⟨y0, y1, y2, y3, y4, y5, y6, y7, y8, y9⟩ := cells10V HR3.out; have f0 := Joins.unfrozen_of_block HR3.out 0; have f1 := Joins.unfrozen_of_block HR3.out 1; have f2 := Joins.unfrozen_of_block HR3.out 2; have f3 := Joins.unfrozen_of_block HR3.out 3; have f4 := Joins.unfrozen_of_block HR3.out 4; have f5 := Joins.unfrozen_of_block HR3.out 5; have f6 := Joins.unfrozen_of_block HR3.out 6; have f7 := Joins.unfrozen_of_block HR3.out 7; have f8 := Joins.unfrozen_of_block HR3.out 8; have f9 := Joins.unfrozen_of_block HR3.out 9; clear hb3))
    obtain ⟨s0, s1, s2, s3, s4, s5, s6, s7, s8, s9⟩ := cells10V (set10V10 HR3.out (.int .i64 vd) (.int .i64 0) (.int .i64 0) (.int .i64 0) (.int .i64 0) (.int .i64 0) (.int .i64 0) (.int .i64 0) (.int .i64 0) (.slice none 0 0))
    exact bodyPost_ret (v := .agg #[.int .i64 vd, .int .i64 0, .int .i64 0, .int .i64 0, .int .i64 0, .int .i64 0, .int .i64 0, .int .i64 0, .int .i64 0, .slice none 0 0]) (by simp [results, Try.results6, go_sem, s0, s1, s2, s3, s4, s5, s6, s7, s8, s9]) rfl (vr_code HR3 ⟨by omega, HBL.out.trans (HB3.out.mono HBL.out.size)⟩)
  have HVZ : Hid (voterR k l ms = 0) := by show _ = _; rw [← hvd]; exact h1
  subst h1
  clear hvd
  obtain ⟨r, hr⟩ : ∃ r, r = castR ns k l ms id := ⟨_, rfl⟩
  have HCH : Hid (∀ v, Below w1.heap.size w1 v → Calls Try.prog 20 #[.slice ta tn tc, .agg #[.int .i64 k, .int .i64 l, .slice a n cap], .int .i64 id] v fun e w' => OutVr v w' e r) := fun v hv => by
    rw [hr]
    exact l11Cast_any tn tc ta ns k l id a n cap ms v htl (HTC.out.below hv (Nat.le_refl _)) (HC.out.below hv (Nat.le_refl _)) HTZ.out HVZ.out
  rw [← hr]
  clear hr
  obtain ⟨rc, rv, rk, rl, rm⟩ := r
  obtain ⟨m, hm⟩ : ∃ m, m = rm.length := ⟨_, rfl⟩
  have HML : Hid (rm.length = m) := hm.symm
  clear hm
  go_enter Try.func6, Try.ntmps6
  go_wp2_with (first
    | (go_at_call 18; (with_reducible refine hpl.mono ?_); clear hpl; rintro e w2 ⟨rfl, hb2⟩; rw [← HW1.out] at hb2; have HB2 : Hid (Below w1.heap.size w1 w2) := hb2; have hvf := HVF.out w2 hb2; clear hb2)
    | (go_at_call 19; (with_reducible refine hvf.mono ?_); clear hvf; rintro e w3 ⟨rfl, hb3⟩; have HB3 : Hid (Below w1.heap.size w1 w3) := HB2.out.trans (hb3.mono HB2.out.size); obtain ⟨d0, d1, d2⟩ := cells3 (keepb HX0.out HB3.out).out; have hch := HCH.out w3 HB3.out; clear hb3)
    | (go_at_call 20; (with_reducible refine hch.mono ?_); clear hch; rintro e w4 ⟨va, vc, rfl, hO, hb4⟩; simp only [HML.out] at hO ⊢; have HO : Hid (w4.ownsRow w3.heap.size 74 3 (.slice va m vc) m (mcells rm)) := hO; have HB4 : Hid (Below w1.heap.size w1 w4) := HB3.out.trans (hb4.mono HB3.out.size); have HR3 := keepb HX2.out HB4.out; obtain ⟨y0, y1, y2, y3, y4, y5, y6, y7, y8, y9⟩ := cells10V HR3.out; have f0 := Joins.unfrozen_of_block HR3.out 0; have f1 := Joins.unfrozen_of_block HR3.out 1; have f2 := Joins.unfrozen_of_block HR3.out 2; have f3 := Joins.unfrozen_of_block HR3.out 3; have f4 := Joins.unfrozen_of_block HR3.out 4; have f5 := Joins.unfrozen_of_block HR3.out 5; have f6 := Joins.unfrozen_of_block HR3.out 6; have f7 := Joins.unfrozen_of_block HR3.out 7; have f8 := Joins.unfrozen_of_block HR3.out 8; have f9 := Joins.unfrozen_of_block HR3.out 9; clear hO hb4))
  obtain ⟨s0, s1, s2, s3, s4, s5, s6, s7, s8, s9⟩ := cells10V (set10V10 HR3.out (.int .i64 rc) (.int .i64 rv.k) (.int .i64 rv.d) (.int .i64 rv.b) (.int .i64 rv.p) (.int .i64 rv.q) (.int .i64 rv.t) (.int .i64 rk) (.int .i64 rl) (.slice va m vc))
  exact bodyPost_ret (v := .agg #[.int .i64 rc, .int .i64 rv.k, .int .i64 rv.d, .int .i64 rv.b, .int .i64 rv.p, .int .i64 rv.q, .int .i64 rv.t, .int .i64 rk, .int .i64 rl, .slice va m vc]) (by simp [results, Try.results6, go_sem, s0, s1, s2, s3, s4, s5, s6, s7, s8, s9]) rfl (vr_keepC HML.out HO ⟨by omega, by have := HB3.out.size; have := HSZ.out; omega, HBL.out.trans (HB4.out.mono HBL.out.size)⟩)

end Go.Proofs.Ytglpbkicmpmepaa
