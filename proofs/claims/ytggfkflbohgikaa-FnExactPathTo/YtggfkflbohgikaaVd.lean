/- PathTo: the specification's. -/
import Derived.Test.YtggfkflbohgikaaVb
namespace Go.Proofs.Ytggfkflbohgikaa
open Go.RowKit Go.Maps Go.WideMaps

theorem own_int1 {W : World} {lo X : Nat} {k : Int} (hX : W.heap[X]? = some (.cells #[.int .i64 k] 2 (0, 0))) (hlo : lo ≤ X) : W.ownsRow lo 2 1 (.slice (some ⟨X, 0, none⟩) 1 1) 1 (ints [k]) :=
  ⟨rfl, .inr ⟨X, 1, #[.int .i64 k], rfl, hlo, hX, Nat.le_refl _, by unfold maxLen; omega, rfl, rfl⟩⟩
/-- A number ahead of others. -/
theorem cons_added {W : World} {lo Y g k c : Nat} {out : List Int} {id : Int} (hY : W.heap[Y]? = some (.cells #[.int .i64 id] 2 (0, 0))) (hlo : lo ≤ Y) (hO : W.ownsRow lo 2 1 (.slice (some ⟨g, 0, none⟩) k c) k (ints out)) (hk : out.length = k) (h : k ≤ 1000) (hW : lo ≤ W.heap.size) :
    ∃ g' cap w5, (Builtin.append_ #[24, 24] 24 #[.slice (some ⟨Y, 0, none⟩) 1 1, .slice (some ⟨g, 0, none⟩) k c]).run Try.prog W = .ok (.slice (some ⟨g', 0, none⟩) (k + 1) cap) w5 ∧
      Hid (w5.ownsRow lo 2 1 (.slice (some ⟨g', 0, none⟩) (k + 1) cap) (k + 1) (ints (id :: out)) ∧ W.grownBy w5 (some Y)) := by
  obtain ⟨i0, hi, hz0, hz1, hz2⟩ := info_parts Try.infoI64
  obtain ⟨v', w5, hrun, hown', hgrow, hsome⟩ := run_append_own (P := Try.prog) W lo 24 24 2 i0 (.int .i64 0) 1 8 Try.underlying24 hi hz0 hz1 hz2 rfl (by decide) (.slice (some ⟨Y, 0, none⟩) 1 1) 1 (ints [id]) (own_int1 hY hlo) ⟨g, 0, none⟩ k c (ints out) (by simp [ints, hk]) (news_ints (IAt.owned hO hk)) (one_ints out) (by unfold maxLen; omega) (by omega) hW
  rw [Nat.add_comm 1 k] at hown'
  obtain ⟨g', cap, rfl⟩ := ownsRow_succ hown'
  exact ⟨g', cap, w5, hrun, hown', hgrow⟩

set_option maxRecDepth 20000 in
set_option maxHeartbeats 4000000 in
theorem l9Path_any (n c : Nat) (ad : Option Addr) (ms : List Mb) (id : Int) (w : World) (hn : n ≤ 1048576) (hz : treeR ms = 0) (hC : MAt w ad n ms) (hi : id = 0 ∨ 0 ≤ nAt ms id) :
    Calls Try.prog 28 #[.slice ad n c, .int .i64 id] w fun e w' => ∃ va vc, e = .returned (.slice va (pathF ms (ms.length + 1) id).length vc) ∧ w'.ownsRow w.heap.size 2 1 (.slice va (pathF ms (ms.length + 1) id).length vc) (pathF ms (ms.length + 1) id).length (ints (pathF ms (ms.length + 1) id)) ∧ Below w.heap.size w w' := by
  have HC : Hid (MAt w ad n ms) := hC
  have HMN : Hid (ms.length = n) := hC.1
  have HZ : Hid (treeR ms = 0) := hz
  obtain ⟨L, hL⟩ : ∃ L, L = pathF ms (ms.length + 1) id := ⟨_, rfl⟩
  rw [← hL]
  have HL : Hid (L = pathF ms (ms.length + 1) id) := hL
  have hLl : L.length ≤ 61 := by rw [hL]; have := pathF_len ms (ms.length + 1) id; have := tree_few hz; omega
  obtain ⟨N, hN⟩ : ∃ N, N = L.length := ⟨_, rfl⟩
  rw [← hN] at hLl ⊢
  have HN : Hid (L.length = N) := hN.symm
  have HI : Hid (id = 0 ∨ 0 ≤ nAt ms id) := hi
  have HF0 : Hid (nAt ms id < ((ms.length + 1 : Nat) : Int)) := by
    show _ < _
    rcases nAt_lt ms id with e | ⟨j, h1, h2, _⟩ <;> omega
  have HE : Hid ((w.alloc (.cells #[] 2)).heap[w.heap.size]? = some (.cells #[] 2 (0, 0))) := heap_alloc_new _ _
  clear hC hz hL hN hi
  go_enter Try.func28, Try.ntmps28
  go_wp2
  go_loopw [1, 5] (fun u v wr => ∃ (b' : Int) (f k : Nat) (acc : List Int) (g : Nat) (vc : Nat), u = .int .i64 b' ∧ v = .slice (some ⟨g, 0, none⟩) k vc ∧ k ≤ 61 ∧ Below w.heap.size w wr ∧ Hid (acc.length = k) ∧ Hid (L = pathF ms f b' ++ acc) ∧ Hid (nAt ms b' < (f : Int)) ∧ Hid (b' = 0 ∨ 0 ≤ nAt ms b') ∧ Hid (wr.ownsRow w.heap.size 2 1 (.slice (some ⟨g, 0, none⟩) k vc) k (ints acc))) (fun u _ _ => (nAt ms (intOf u) + 1).toNat)
  case atStart => exact ⟨id, _, 0, [], _, 0, rfl, rfl, by omega, below_box _, rfl, by show _ = _; rw [HL.out]; simp, HF0, HI, own_empty HE.out (Nat.le_refl _)⟩
  case round =>
    obtain ⟨b', f, k, acc, g, vc, rfl, rfl, hk, hbel, HAC, HT, HF, HIb, HO⟩ := hrel
    by_cases h0 : b' = 0
    · subst h0
      have hpf : pathF ms f 0 = [] := by
        cases f with
        | zero => rfl
        | succ f => rw [pathF, if_pos rfl]
      have hacc : acc = L := by have := HT.out; rw [hpf] at this; simpa using this.symm
      have HACC : Hid (acc = L) := hacc
      obtain rfl : k = N := by rw [← HN.out, ← HAC.out, ← hacc]
      clear hpf hacc
      go_wp2
      go_ret
      exact ⟨_, vc, rfl, by have := HO.out; rw [HACC.out] at this; exact this, hbel⟩
    have h0n : (b' != 0) = true := by simpa using h0
    have hpos : 0 ≤ nAt ms b' := HIb.out.resolve_left h0
    obtain ⟨i, hi⟩ : ∃ x, x = nAt ms b' := ⟨_, rfl⟩
    rw [← hi] at hpos
    obtain ⟨j, rfl⟩ := Int.eq_ofNat_of_zero_le hpos
    have hjn : j < n := by
      rcases nAt_lt ms b' with e | ⟨q, h1, h2, _⟩
      · rw [← hi] at e; omega
      · rw [← hi] at h2; have := HMN.out; omega
    obtain ⟨f', rfl⟩ : ∃ f', f = f' + 1 := ⟨f - 1, by have := HF.out; rw [← hi] at this; omega⟩
    obtain ⟨pv, hpv⟩ : ∃ x, x = (ms.getD j Z3).2.1 := ⟨_, rfl⟩
    have HT2 : Hid (L = pathF ms f' pv ++ (b' :: acc)) := by
      show _ = _
      rw [HT.out, pathF, if_neg h0, ← hi, hpv]
      simp
    have hpl := prev_lt HZ.out (show j < ms.length by rw [HMN.out]; exact hjn)
    rw [← hpv] at hpl
    have HP2 : Hid (pv = 0 ∨ 0 ≤ nAt ms pv) := by rcases hpl with e | ⟨e, _⟩; exact .inl e; exact .inr e
    have hlt : nAt ms pv < (j : Int) := by
      rcases hpl with e | ⟨_, e⟩
      · rw [e, no_zero HZ.out]; omega
      · exact e
    have HF2 : Hid (nAt ms pv < (f' : Int)) := by show _ < _; have := HF.out; rw [← hi] at this; omega
    have HM : Hid ((nAt ms pv + 1).toNat < (nAt ms b' + 1).toNat) := by show _ < _; rw [← hi]; rcases nAt_lt ms pv with e | ⟨q, _, e, _⟩ <;> omega
    have hk2 : k + 1 ≤ 61 := by
      have e1 := congrArg List.length HT2.out
      simp at e1
      have := HN.out
      have := HAC.out
      omega
    have hsz := hbel.size
    obtain ⟨g5, cap, w5, hrun, HC5⟩ := cons_added (id := b') (Y := wr.heap.size) (heap_alloc_at _ (.cells #[.int .i64 b'] 2) _ rfl) hsz (HO.out.alloc _) HAC.out (by omega) (by simp; omega)
    have HB5 : Hid (Below w.heap.size w w5) := (hbel.trans ((below_box _).mono hbel.size)).grown HC5.out.2 (by simp; omega) (fun k hk => by cases hk; omega)
    have hA := l9At_any n c ad ms b' w5 hn (HC.out.below HB5.out (Nat.le_refl _))
    rw [← hi] at hA
    rcases HC.out.2 with q0 | ⟨bb, off, e0, l0, d0⟩
    · omega
    subst e0
    have y1 := (HB5.out.cell (p := ⟨bb, off + j * 3 + 1, none⟩) l0).trans (d0 j hjn).2.1
    rw [← hpv] at y1
    have hki : (j : Int) < (n : Int) := by omega
    have HAC2 : Hid ((b' :: acc).length = k + 1) := by show _ = _; rw [← HAC.out]; simp
    clear hi hpv d0 hlt HT HF HIb hpl hsz
    go_wp2_with (first
      | (at_builtin; go_must (refine wpList_append_runC (by rfl) _ _ _ (by rfl) (by rfl) (by rfl) hrun ?_); clear hrun)
      | (go_at_call 27; (with_reducible refine hA.mono ?_); clear hA; rintro e w' ⟨rfl, hw⟩; have hw2 := hw.symm; subst hw2))
    go_roundw
    case rel => exact ⟨pv, f', k + 1, b' :: acc, _, _, rfl, rfl, hk2, HB5.out, HAC2, HT2, HF2, HP2, HC5.out.1⟩
    case measure => exact HM.out

set_option maxRecDepth 20000 in
set_option maxHeartbeats 4000000 in
theorem sPathTo_any (n c : Nat) (ad : Option Addr) (ms : List Mb) (x : Int) (w : World) (hn : n ≤ 1048576) (hC : n ≤ c ∧ c ≤ maxLen ∧ MAt w ad n ms) :
    Calls Try.prog 7 #[.slice ad n c, .int .i64 x] w fun e w' => OutIs w w' e (pathR ms x).1 (pathR ms x).2 := by
  have hbx : Below w.heap.size w (w.alloc (.cells #[.int .i64 0, .slice none 0 0] 26)) := below_box _
  have HBX : Hid (Below w.heap.size w (w.alloc (.cells #[.int .i64 0, .slice none 0 0] 26))) := hbx
  have HX : Hid ((w.alloc (.cells #[.int .i64 0, .slice none 0 0] 26)).heap[w.heap.size]? = some (.cells #[.int .i64 0, .slice none 0 0] 26 (0, 0))) := heap_alloc_new _ _
  have h := l9Fault_any n c ad ms _ hC.1 (hC.2.2.below hbx (Nat.le_refl _))
  have HC : Hid (MAt w ad n ms) := hC.2.2
  obtain ⟨cd, hcd⟩ : ∃ x, x = treeR ms := ⟨_, rfl⟩
  rw [← hcd] at h
  by_cases h0 : cd = 0
  rotate_left
  · have e1 : pathR ms x = (cd, []) := by unfold pathR; rw [← hcd, if_pos h0]
    rw [e1]
    have hcn2 : (cd != 0) = true := by simpa using h0
    clear e1 hcd hC hbx
    go_enter Try.func7, Try.ntmps7
    go_wp2_with (go_at_call 26; (with_reducible refine h.mono ?_); clear h; rintro e w2 ⟨rfl, hb2⟩; have HB2 : Hid (Below w.heap.size w w2) := HBX.out.trans (hb2.mono HBX.out.size); have HX2 := keepb HX.out hb2; obtain ⟨x0, x1, f0, f1, _⟩ := res_cells HX2.out (Below.refl w2.heap.size _) (lt_of_block HX2.out); clear hb2)
    obtain ⟨_, s1, s2⟩ := two_set HX2.out (.int .i64 cd) (.slice none 0 0)
    exact bodyPost_ret (v := .agg #[.int .i64 cd, .slice none 0 0]) (by simp [results, Try.results7, go_sem, s1, s2]) rfl (outi_code (Nat.le_refl _) HB2.out)
  have HZ : Hid (treeR ms = 0) := by show _ = _; rw [← hcd]; exact h0
  subst h0
  obtain ⟨i1, hi1⟩ : ∃ z, z = nAt ms x := ⟨_, rfl⟩
  have HI1 : Hid (nAt ms x = i1) := hi1.symm
  by_cases hnone : x ≠ 0 ∧ nAt ms x < 0
  · have e1 : pathR ms x = (4, []) := by unfold pathR; rw [← hcd, if_neg (by simp), if_pos hnone]
    rw [e1]
    have hx0 : (x != 0) = true := by simpa using hnone.1
    have hneg : i1 < 0 := by rw [hi1]; exact hnone.2
    clear e1 hcd hC hbx hnone hi1
    go_enter Try.func7, Try.ntmps7
    go_wp2_with (first
      | (go_at_call 26; (with_reducible refine h.mono ?_); clear h; rintro e w2 ⟨rfl, hb2⟩; have HB2 : Hid (Below w.heap.size w w2) := HBX.out.trans (hb2.mono HBX.out.size); have HX2 := keepb HX.out hb2; obtain ⟨x0, x1, f0, f1, _⟩ := res_cells HX2.out (Below.refl w2.heap.size _) (lt_of_block HX2.out); have hA := l9At_any n c ad ms x w2 hn (HC.out.below HB2.out (Nat.le_refl _)); rw [HI1.out] at hA; clear hb2)
      | (go_at_call 27; (with_reducible refine hA.mono ?_); clear hA; rintro e w' ⟨rfl, hw⟩; have hw2 := hw.symm; subst hw2))
    obtain ⟨_, s1, s2⟩ := two_set HX2.out (.int .i64 4) (.slice none 0 0)
    exact bodyPost_ret (v := .agg #[.int .i64 4, .slice none 0 0]) (by simp [results, Try.results7, go_sem, s1, s2]) rfl (outi_code (Nat.le_refl _) HB2.out)
  obtain ⟨L, hL⟩ : ∃ L, L = pathF ms (ms.length + 1) x := ⟨_, rfl⟩
  have HL : Hid (L = pathF ms (ms.length + 1) x) := hL
  have e1 : pathR ms x = (0, L) := by unfold pathR; rw [← hcd, if_neg (by simp), if_neg hnone, hL]
  rw [e1]
  have hin : x = 0 ∨ 0 ≤ nAt ms x := by
    by_cases e : x = 0
    · exact .inl e
    · exact .inr (by have : ¬ nAt ms x < 0 := fun q => hnone ⟨e, q⟩; omega)
  have HIN : Hid (x = 0 ∨ 0 ≤ nAt ms x) := hin
  have hneg : x = 0 ∨ ((x != 0) = true ∧ ¬ i1 < 0) := by
    rcases hin with e | e
    · exact .inl e
    · by_cases q : x = 0
      · exact .inl q
      · exact .inr ⟨by simpa using q, by rw [hi1]; omega⟩
  clear e1 hcd hC hbx hnone hL hin hi1
  rcases hneg with rfl | ⟨hx0, hneg⟩
  · go_enter Try.func7, Try.ntmps7
    go_wp2_with (first
      | (go_at_call 26; (with_reducible refine h.mono ?_); clear h; rintro e w2 ⟨rfl, hb2⟩; have HB2 : Hid (Below w.heap.size w w2) := HBX.out.trans (hb2.mono HBX.out.size); have HX2 := keepb HX.out hb2; have hpath := l9Path_any n c ad ms 0 w2 hn HZ.out (HC.out.below HB2.out (Nat.le_refl _)) HIN.out; rw [← HL.out] at hpath; clear hb2)
      | (go_at_call 28; (with_reducible refine hpath.mono ?_); clear hpath; rintro e w3 ⟨va, vc, rfl, hO3, hb3⟩; have HO3 : Hid (w3.ownsRow w2.heap.size 2 1 (.slice va L.length vc) L.length (ints L)) := hO3; have HB3 : Hid (Below w.heap.size w w3) := HB2.out.trans (hb3.mono HB2.out.size); have HX3 := keepb HX2.out hb3; obtain ⟨x0, x1, f0, f1, _⟩ := res_cells HX3.out (Below.refl w3.heap.size _) (lt_of_block HX3.out); clear hb3 hO3))
    obtain ⟨_, s1, s2⟩ := two_set HX3.out (.int .i64 0) (.slice va L.length vc)
    exact bodyPost_ret (v := .agg #[.int .i64 0, .slice va L.length vc]) (by simp [results, Try.results7, go_sem, s1, s2]) rfl (outi_ints rfl (Nat.le_refl _) (lt_of_block HX2.out) HB3.out HO3.out)
  · go_enter Try.func7, Try.ntmps7
    go_wp2_with (first
      | (go_at_call 26; (with_reducible refine h.mono ?_); clear h; rintro e w2 ⟨rfl, hb2⟩; have HB2 : Hid (Below w.heap.size w w2) := HBX.out.trans (hb2.mono HBX.out.size); have HX2 := keepb HX.out hb2; have hA := l9At_any n c ad ms x w2 hn (HC.out.below HB2.out (Nat.le_refl _)); rw [HI1.out] at hA; have hpath := l9Path_any n c ad ms x w2 hn HZ.out (HC.out.below HB2.out (Nat.le_refl _)) HIN.out; rw [← HL.out] at hpath; clear hb2)
      | (go_at_call 27; (with_reducible refine hA.mono ?_); clear hA; rintro e w' ⟨rfl, hw⟩; have hw2 := hw.symm; subst hw2)
      | (go_at_call 28; (with_reducible refine hpath.mono ?_); clear hpath; rintro e w3 ⟨va, vc, rfl, hO3, hb3⟩; have HO3 : Hid (w3.ownsRow w2.heap.size 2 1 (.slice va L.length vc) L.length (ints L)) := hO3; have HB3 : Hid (Below w.heap.size w w3) := HB2.out.trans (hb3.mono HB2.out.size); have HX3 := keepb HX2.out hb3; obtain ⟨x0, x1, f0, f1, _⟩ := res_cells HX3.out (Below.refl w3.heap.size _) (lt_of_block HX3.out); clear hb3 hO3))
    obtain ⟨_, s1, s2⟩ := two_set HX3.out (.int .i64 0) (.slice va L.length vc)
    exact bodyPost_ret (v := .agg #[.int .i64 0, .slice va L.length vc]) (by simp [results, Try.results7, go_sem, s1, s2]) rfl (outi_ints rfl (Nat.le_refl _) (lt_of_block HX2.out) HB3.out HO3.out)

end Go.Proofs.Ytggfkflbohgikaa
