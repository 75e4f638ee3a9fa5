/- AddNode: the specification's. -/
import Derived.Test.YtinlhghlmfcbfaaVf
import Derived.Test.YtinlhghlmfcbfaaEi
namespace Go.Proofs.Ytinlhghlmfcbfaa
open Go.RowKit Go.Maps Go.WideMaps

/-- An append in a region that draws its order, out of its own run. -/
theorem step_append_runN {P : Program} {w : World} {ops : Array Oper} {o : Oper} {a : Act} {K : Act → World → Prop} {Q : Exit → Act → World → Prop} {E : Prop} (hgd : o.guard = none) (s x : Operand) (t : TypeId)
    (ho : o.op = .call { callee := .builtin .append, args := #[s, x], argTypes := #[t, t] }) {v u v' : Value} {w' : World} (hs : a.eval s = v) (hx : a.eval x = u) (hrun : (Builtin.append_ #[t, t] o.type #[v, u]).run P w = .ok v' w') (h : K (a.put o.dst v') w') :
    if Region.wanted o (yielded ops a.tmps) = true then Oper.wp P o a w K Q else E := by
  have hw : Region.wanted o (yielded ops a.tmps) = true := by simp [Region.wanted, hgd]
  rw [if_pos hw]
  unfold Oper.wp
  simp [execOp, ho, resolve, invoke, builtin, hs, hx, hrun, Result.andThen]
  exact h
theorem news_nodes {W : World} {b off n : Nat} {ms : List Mb} (hx : MAt W (some ⟨b, off, none⟩) n ms) : ∀ j u, (mcells ms)[j]? = some u → W.cell? ((⟨b, off, none⟩ : Addr).add j) = some u := fun j u hj => by
  have hl := hx.1
  have hjm : j < n * 3 := by
    have := (List.getElem?_eq_some_iff.1 hj).1
    rw [mcells_length, hl] at this
    exact this
  rcases hx.2 with h0 | ⟨b', o, e, _, hc⟩
  · omega
  cases e
  have hat := mcells_at ms (j / 3) (by omega)
  have hcc := hc (j / 3) (by omega)
  have ea : (⟨b, off, none⟩ : Addr).add j = ⟨b, off + j, none⟩ := by simp [Addr.add]
  have e3 : j % 3 = 0 ∨ j % 3 = 1 ∨ j % 3 = 2 := by omega
  rcases e3 with e | e | e
  · rw [ea, show off + j = off + j / 3 * 3 by omega, hcc.1]
    rw [show j = j / 3 * 3 by omega, hat.1] at hj
    exact hj
  · rw [ea, show off + j = off + j / 3 * 3 + 1 by omega, hcc.2.1]
    rw [show j = j / 3 * 3 + 1 by omega, hat.2.1] at hj
    exact hj
  · rw [ea, show off + j = off + j / 3 * 3 + 2 by omega, hcc.2.2]
    rw [show j = j / 3 * 3 + 2 by omega, hat.2.2] at hj
    exact hj
/-- Nodes appended to an empty row that has just been laid. -/
theorem nodes_one {V : World} {lo X b off n c : Nat} {ms : List Mb} (hX : V.heap[X]? = some (.cells #[] 40 (0, 0))) (hlo : lo ≤ X) (hM : MAt V (some ⟨b, off, none⟩) n ms) (hn : n ≤ 60) (hV : lo ≤ V.heap.size) :
    ∃ g cap v1, (Builtin.append_ #[24, 24] 24 #[.slice (some ⟨X, 0, none⟩) 0 0, .slice (some ⟨b, off, none⟩) n c]).run Try.prog V = .ok (.slice (some ⟨g, 0, none⟩) n cap) v1 ∧ v1.ownsRow lo 40 3 (.slice (some ⟨g, 0, none⟩) n cap) n (mcells ms) ∧ V.grownBy v1 (some X) := by
  obtain ⟨i0, hi, hz0, hz1, hz2⟩ := info_parts Try.infoNd
  have hown := own_empty (size := 3) hX hlo
  obtain ⟨v', w3, hrun, hown', hgrow, hsome⟩ := run_append_own (P := Try.prog) V lo 24 24 40 i0 (.agg #[.int .i64 0, .int .i64 0, .int .i64 0]) 3 24 Try.underlying24 hi hz0 hz1 hz2 rfl (by decide) (.slice (some ⟨X, 0, none⟩) 0 0) 0 [] hown ⟨b, off, none⟩ n c (mcells ms) (by rw [mcells_length, hM.1]) (news_nodes hM) mcells_one (by unfold maxLen; omega) (by omega) hV
  rw [Nat.zero_add, List.nil_append] at hown'
  rcases id hown'.2 with ⟨e1, _⟩ | ⟨g, cap, cur, e1, _⟩
  · have := hsome.1 e1; simp at this
  · subst e1
    exact ⟨g, cap, w3, hrun, hown', hgrow⟩

theorem blk_two {w3 : World} (o o' : Obj) : (((w3.alloc o).alloc o').drew).heap[w3.heap.size]? = some o ∧ (((w3.alloc o).alloc o').drew).heap[w3.heap.size + 1]? = some o' := by
  refine ⟨?_, ?_⟩
  · exact ((below_box (w := w3.alloc o) o').block _ (by simp)).trans (heap_alloc_new _ _)
  · exact heap_alloc_at (w3.alloc o) o' _ (by simp)

set_option maxRecDepth 20000 in
set_option maxHeartbeats 8000000 in
theorem sAddNode_any (n c b off : Nat) (ms : List Mb) (id pv ht : Int) (w : World) (hn : n ≤ 1048576) (hC : n ≤ c ∧ c ≤ maxLen ∧ MAt w (some ⟨b, off, none⟩) n ms) :
    Calls Try.prog 48 #[.slice (some ⟨b, off, none⟩) n c, .agg #[.int .i64 id, .int .i64 pv, .int .i64 ht]] w fun e w' => OutNs w w' e (addNR ms (id, pv, ht)).1 (addNR ms (id, pv, ht)).2 := by
  obtain ⟨W, hW⟩ : ∃ W, W = (w.alloc (.cells #[.int .i64 id, .int .i64 pv, .int .i64 ht] 40)).alloc (.cells #[.int .i64 0, .slice none 0 0] 42) := ⟨_, rfl⟩
  have hbx : Below w.heap.size w W := by rw [hW]; exact below_box2 _ _
  have HBX : Hid (Below w.heap.size w W) := hbx
  have HW : Hid (W = (w.alloc (.cells #[.int .i64 id, .int .i64 pv, .int .i64 ht] 40)).alloc (.cells #[.int .i64 0, .slice none 0 0] 42)) := hW
  have HX : Hid (W.heap[w.heap.size + 1]? = some (.cells #[.int .i64 0, .slice none 0 0] 42 (0, 0))) := by
    show _ = _
    rw [hW]
    exact heap_alloc_at _ _ _ (by simp)
  have HNB : Hid (W.heap[w.heap.size]? = some (.cells #[.int .i64 id, .int .i64 pv, .int .i64 ht] 40 (0, 0))) := by
    show _ = _
    rw [hW]
    exact ((below_box (w := w.alloc (.cells #[.int .i64 id, .int .i64 pv, .int .i64 ht] 40)) _).block _ (by simp)).trans (heap_alloc_new _ _)
  have h := l9Fault_any n c (some ⟨b, off, none⟩) ms W hC.1 (hC.2.2.below hbx (Nat.le_refl _))
  have HM : Hid (MAt w (some ⟨b, off, none⟩) n ms) := hC.2.2
  have HN : Hid (ms.length = n) := hC.2.2.1
  rw [hW] at h
  obtain ⟨cd, hcd⟩ : ∃ x, x = treeR ms := ⟨_, rfl⟩
  rw [← hcd] at h
  by_cases h0 : cd = 0
  rotate_left
  · have e1 : addNR ms (id, pv, ht) = (cd, []) := by unfold addNR; rw [← hcd, if_pos h0]
    rw [e1]
    have hcn2 : (cd != 0) = true := by simpa using h0
    clear e1 hcd hC hbx hW
    go_enter Try.func48, Try.ntmps48
    go_wp2_with (go_at_call 25; (with_reducible refine h.mono ?_); clear h; rintro e w2 ⟨rfl, hb2⟩; rw [← HW.out] at hb2; have HB2 : Hid (Below w.heap.size w w2) := HBX.out.trans (hb2.mono HBX.out.size); have HX2 := keepb HX.out hb2; obtain ⟨x0, x1, f0, f1, _⟩ := res_cells HX2.out (Below.refl w2.heap.size _) (lt_of_block HX2.out); clear hb2)
    obtain ⟨_, s1, s2⟩ := two_set HX2.out (.int .i64 cd) (.slice none 0 0)
    exact bodyPost_ret (v := .agg #[.int .i64 cd, .slice none 0 0]) (by simp [results, Try.results48, go_sem, s1, s2]) rfl (outn_code (by omega) HB2.out)
  have HZ : Hid (treeR ms = 0) := by show _ = _; rw [← hcd]; exact h0
  have hok : HtOk ms := fun g hg => by
    obtain ⟨j, hj, e⟩ := List.getElem_of_mem hg
    have := nodeR_ht (tree_node HZ.out hj)
    rw [show ms.getD j Z3 = g by simp [List.getD, hj, e]] at this
    omega
  have HOK : Hid (HtOk ms) := hok
  subst h0
  have hn60 : n ≤ 60 := by rw [← HN.out]; exact tree_len HZ.out
  obtain ⟨nc, hnc⟩ : ∃ x, x = nodeR ms id pv ht := ⟨_, rfl⟩
  have HNC : Hid (nodeR ms id pv ht = nc) := hnc.symm
  by_cases ha : nc = 0
  rotate_left
  · have e1 : addNR ms (id, pv, ht) = (nc, []) := by
      have e2 : addR ms id pv ht = nc := by unfold addR; rw [← hnc, if_pos ha]
      unfold addNR
      rw [← hcd, if_neg (by simp)]
      simp only
      rw [e2, if_pos ha]
    rw [e1]
    have hcn2 : (nc != 0) = true := by simpa using ha
    clear e1 hcd hC hbx hW hnc hok
    go_enter Try.func48, Try.ntmps48
    go_wp2_with (first
      | (go_at_call 25; (with_reducible refine h.mono ?_); clear h; rintro e w2 ⟨rfl, hb2⟩; rw [← HW.out] at hb2; have HB2 : Hid (Below w.heap.size w w2) := HBX.out.trans (hb2.mono HBX.out.size); have HBW : Hid (Below W.heap.size W w2) := hb2; have HN2 := keepb HNB.out hb2; obtain ⟨n0, n1, n2⟩ := cells3 HN2.out; have hnode := l9Node_any n c (some ⟨b, off, none⟩) ms id pv ht w2 hn HOK.out (HM.out.below HB2.out (Nat.le_refl _)); rw [HNC.out] at hnode; clear hb2)
      | (go_at_call 40; (with_reducible refine hnode.mono ?_); clear hnode; rintro e w3 ⟨rfl, hb3⟩; have HB3 : Hid (Below w.heap.size w w3) := HB2.out.trans (hb3.mono HB2.out.size); have HX3 := keepb (keepb HX.out HBW.out).out hb3; obtain ⟨x0, x1, f0, f1, _⟩ := res_cells HX3.out (Below.refl w3.heap.size _) (lt_of_block HX3.out); clear hb3))
    obtain ⟨_, s1, s2⟩ := two_set HX3.out (.int .i64 nc) (.slice none 0 0)
    exact bodyPost_ret (v := .agg #[.int .i64 nc, .slice none 0 0]) (by simp [results, Try.results48, go_sem, s1, s2]) rfl (outn_code (by omega) HB3.out)
  subst ha
  by_cases h60 : 60 ≤ n
  · have e1 : addNR ms (id, pv, ht) = (2, []) := by
      have e2 : addR ms id pv ht = 2 := by unfold addR; rw [← hnc, if_neg (by simp), if_pos (by rw [HN.out]; exact h60)]
      unfold addNR
      rw [← hcd, if_neg (by simp)]
      simp only
      rw [e2, if_pos (by simp)]
    rw [e1]
    have hki : (60 : Int) ≤ (n : Int) := by omega
    clear e1 hcd hC hbx hW hnc hok
    go_enter Try.func48, Try.ntmps48
    go_wp2_with (first
      | (go_at_call 25; (with_reducible refine h.mono ?_); clear h; rintro e w2 ⟨rfl, hb2⟩; rw [← HW.out] at hb2; have HB2 : Hid (Below w.heap.size w w2) := HBX.out.trans (hb2.mono HBX.out.size); have HBW : Hid (Below W.heap.size W w2) := hb2; have HN2 := keepb HNB.out hb2; obtain ⟨n0, n1, n2⟩ := cells3 HN2.out; have hnode := l9Node_any n c (some ⟨b, off, none⟩) ms id pv ht w2 hn HOK.out (HM.out.below HB2.out (Nat.le_refl _)); rw [HNC.out] at hnode; clear hb2)
      | (go_at_call 40; (with_reducible refine hnode.mono ?_); clear hnode; rintro e w3 ⟨rfl, hb3⟩; have HB3 : Hid (Below w.heap.size w w3) := HB2.out.trans (hb3.mono HB2.out.size); have HX3 := keepb (keepb HX.out HBW.out).out hb3; obtain ⟨x0, x1, f0, f1, _⟩ := res_cells HX3.out (Below.refl w3.heap.size _) (lt_of_block HX3.out); clear hb3))
    obtain ⟨_, s1, s2⟩ := two_set HX3.out (.int .i64 2) (.slice none 0 0)
    exact bodyPost_ret (v := .agg #[.int .i64 2, .slice none 0 0]) (by simp [results, Try.results48, go_sem, s1, s2]) rfl (outn_code (by omega) HB3.out)
  have e1 : addNR ms (id, pv, ht) = (0, ms ++ [(id, pv, ht)]) := by
    have e2 : addR ms id pv ht = 0 := by unfold addR; rw [← hnc, if_neg (by simp), if_neg (by rw [HN.out]; exact h60)]
    unfold addNR
    rw [← hcd, if_neg (by simp)]
    simp only
    rw [e2, if_neg (by simp)]
  rw [e1]
  obtain ⟨L, hL⟩ : ∃ L, L = ms ++ [(id, pv, ht)] := ⟨_, rfl⟩
  have HLL : Hid (L.length = n + 1) := by show _ = _; rw [hL]; simp; exact HN.out
  simp only
  rw [← hL]
  have HL : Hid (ms ++ [(id, pv, ht)] = L) := hL.symm
  have hki : ¬ (60 : Int) ≤ (n : Int) := by omega
  clear e1 hcd hC hbx hW hnc hok hL
  go_enter Try.func48, Try.ntmps48
  go_wp2_with (first
    | (go_at_call 25; (with_reducible refine h.mono ?_); clear h; rintro e w2 ⟨rfl, hb2⟩; rw [← HW.out] at hb2; have HB2 : Hid (Below w.heap.size w w2) := HBX.out.trans (hb2.mono HBX.out.size); have HBW : Hid (Below W.heap.size W w2) := hb2; have HN2 := keepb HNB.out hb2; obtain ⟨n0, n1, n2⟩ := cells3 HN2.out; have hnode := l9Node_any n c (some ⟨b, off, none⟩) ms id pv ht w2 hn HOK.out (HM.out.below HB2.out (Nat.le_refl _)); rw [HNC.out] at hnode; clear hb2)
    | (go_at_call 40; (with_reducible refine hnode.mono ?_); clear hnode; rintro e w3 ⟨rfl, hb3⟩; have HB3 : Hid (Below w.heap.size w w3) := HB2.out.trans (hb3.mono HB2.out.size); have HX3 := keepb (keepb HX.out HBW.out).out hb3; have HN3 := keepb HN2.out hb3; clear n0 n1 n2 hb3))
  have hM3 : MAt w3 (some ⟨b, off, none⟩) n ms := HM.out.below HB3.out (Nat.le_refl _)
  have keyA := fun (V : World) (X : Nat) (q1 : Below w3.heap.size w3 V) (q2 : V.heap[X]? = some (.cells #[] 40 (0, 0))) (q3 : w3.heap.size ≤ X) => nodes_one (c := c) q2 q3 (hM3.below q1 (Nat.le_refl _)) hn60 q1.size
  have bE : Below w3.heap.size w3 (w3.alloc (.cells #[] 40)).drew := (below_box _).drew
  have bB : Below w3.heap.size w3 (((w3.alloc (.cells #[] 40)).alloc (.cells #[.int .i64 id, .int .i64 pv, .int .i64 ht] 40)).drew) := (below_box2 _ _).drew
  have bC : Below w3.heap.size w3 (((w3.alloc (.cells #[.int .i64 id, .int .i64 pv, .int .i64 ht] 40)).alloc (.cells #[] 40)).drew) := (below_box2 _ _).drew
  obtain ⟨gA, cA, vA, hA1, rA, qA⟩ := keyA _ w3.heap.size bE (heap_alloc_new _ _) (Nat.le_refl _)
  obtain ⟨gB, cB, vB, hB1, rB, qB⟩ := keyA _ w3.heap.size bB (blk_two _ _).1 (Nat.le_refl _)
  obtain ⟨gC, cC, vC, hC1, rC, qC⟩ := keyA _ (w3.heap.size + 1) bC (blk_two _ _).2 (by omega)
  have dA : Below w3.heap.size w3 vA := bE.grown qA bE.size (fun k e => by cases e; omega)
  have dB : Below w3.heap.size w3 vB := bB.grown qB bB.size (fun k e => by cases e; omega)
  have dC : Below w3.heap.size w3 vC := bC.grown qC bC.size (fun k e => by cases e; omega)
  obtain ⟨gA2, cA2, uA, hA2, HA2⟩ := node_added (o := (id, pv, ht)) (X := vA.heap.size) (rA.alloc (.cells #[.int .i64 id, .int .i64 pv, .int .i64 ht] 40)) (heap_alloc_new _ _) (by omega) (by have := dA.size; simp; omega)
  obtain ⟨gB2, cB2, uB, hB2, HB2'⟩ := node_added (o := (id, pv, ht)) (X := w3.heap.size + 1) rB ((qB.block _ (by simp) (by simp)).trans (blk_two _ _).2) (by omega) dB.size
  obtain ⟨gC2, cC2, uC, hC2, HC2⟩ := node_added (o := (id, pv, ht)) (X := w3.heap.size) rC ((qC.block _ (by simp; omega) (by simp)).trans (blk_two _ _).1) (by omega) dC.size
  have fA : Below w3.heap.size w3 uA := (dA.trans ((below_box _).mono dA.size)).grown HA2.out.2 (by have := dA.size; simp; omega) (fun k hk => (rA.lt k hk).1)
  have fB : Below w3.heap.size w3 uB := dB.grown HB2'.out.2 dB.size (fun k hk => (rB.lt k hk).1)
  have fC : Below w3.heap.size w3 uC := dC.grown HC2.out.2 dC.size (fun k hk => (rC.lt k hk).1)
  have fin : ∀ u g k, Below w3.heap.size w3 u → u.ownsRow w3.heap.size 40 3 (.slice (some ⟨g, 0, none⟩) (n + 1) k) (n + 1) (mcells (ms ++ [(id, pv, ht)])) →
      u.cell? ⟨w.heap.size + 1, 0, none⟩ = some (.int .i64 0) ∧ u.cell? ⟨w.heap.size + 1, 1, none⟩ = some (.slice none 0 0) ∧ u.frozen? ⟨w.heap.size + 1, 0, none⟩ = false ∧ u.frozen? ⟨w.heap.size + 1, 1, none⟩ = false ∧
      Hid (((u.setCell ⟨w.heap.size + 1, 0, none⟩ (.int .i64 0)).setCell ⟨w.heap.size + 1, 1, none⟩ (.slice (some ⟨g, 0, none⟩) (n + 1) k)).cell? ⟨w.heap.size + 1, 0, none⟩ = some (.int .i64 0) ∧ ((u.setCell ⟨w.heap.size + 1, 0, none⟩ (.int .i64 0)).setCell ⟨w.heap.size + 1, 1, none⟩ (.slice (some ⟨g, 0, none⟩) (n + 1) k)).cell? ⟨w.heap.size + 1, 1, none⟩ = some (.slice (some ⟨g, 0, none⟩) (n + 1) k) ∧
        OutNs w ((u.setCell ⟨w.heap.size + 1, 0, none⟩ (.int .i64 0)).setCell ⟨w.heap.size + 1, 1, none⟩ (.slice (some ⟨g, 0, none⟩) (n + 1) k)) (.returned (.agg #[.int .i64 0, .slice (some ⟨g, 0, none⟩) (n + 1) k])) 0 L) := fun u g k hb hr => by
    have hXu := (keepb HX3.out hb).out
    obtain ⟨y0, y1, y2, y3, _⟩ := res_cells hXu (Below.refl u.heap.size _) (lt_of_block hXu)
    obtain ⟨_, s1, s2⟩ := two_set hXu (.int .i64 0) (.slice (some ⟨g, 0, none⟩) (n + 1) k)
    rw [HL.out] at hr
    exact ⟨y0, y1, y2, y3, s2, s1, outn_nodes HLL.out (by omega) (lt_of_block HX3.out) (HB3.out.trans (hb.mono HB3.out.size)) hr⟩
  obtain ⟨a0, a1, a2, a3, HFA⟩ := fin uA gA2 cA2 fA HA2.out.1
  obtain ⟨b0, b1, b2, b3, HFB⟩ := fin uB gB2 cB2 fB HB2'.out.1
  obtain ⟨c0, c1, c2, c3, HFC⟩ := fin uC gC2 cC2 fC HC2.out.1
  obtain ⟨n0, n1, n2⟩ := cells3 HN3.out
  obtain ⟨p0, p1, p2⟩ := cells3 (keepb HN3.out bE).out
  obtain ⟨q0, q1, q2⟩ := cells3 (keepb HN3.out dA).out
  clear fin fA fB fC dA dB dC qA qB qC rA rB rC bE bB bC keyA hM3 HA2 HB2' HC2
  go_region_law (first | (refine step_append_runN (by rfl) (.tmp 24) (.tmp 25) 24 (by rfl) (v := .slice (some ⟨w3.heap.size, 0, none⟩) 0 0) (u := .slice (some ⟨b, off, none⟩) n c) (v' := .slice (some ⟨gA, 0, none⟩) n cA) (w' := vA) (by rfl) (by rfl) ?_ ?_; (with_reducible exact hA1)) | (refine step_append_runN (by rfl) (.tmp 24) (.tmp 25) 24 (by rfl) (v := .slice (some ⟨w3.heap.size, 0, none⟩) 0 0) (u := .slice (some ⟨b, off, none⟩) n c) (v' := .slice (some ⟨gB, 0, none⟩) n cB) (w' := vB) (by rfl) (by rfl) ?_ ?_; (with_reducible exact hB1)) | (refine step_append_runN (by rfl) (.tmp 24) (.tmp 25) 24 (by rfl) (v := .slice (some ⟨w3.heap.size + 1, 0, none⟩) 0 0) (u := .slice (some ⟨b, off, none⟩) n c) (v' := .slice (some ⟨gC, 0, none⟩) n cC) (w' := vC) (by rfl) (by rfl) ?_ ?_; (with_reducible exact hC1)) | (refine step_append_runN (by rfl) (.tmp 26) (.tmp 28) 24 (by rfl) (v := .slice (some ⟨gA, 0, none⟩) n cA) (u := .slice (some ⟨vA.heap.size, 0, none⟩) 1 1) (v' := .slice (some ⟨gA2, 0, none⟩) (n + 1) cA2) (w' := uA) (by rfl) (by rfl) ?_ ?_; (with_reducible exact hA2)) | (refine step_append_runN (by rfl) (.tmp 26) (.tmp 28) 24 (by rfl) (v := .slice (some ⟨gB, 0, none⟩) n cB) (u := .slice (some ⟨w3.heap.size + 1, 0, none⟩) 1 1) (v' := .slice (some ⟨gB2, 0, none⟩) (n + 1) cB2) (w' := uB) (by rfl) (by rfl) ?_ ?_; (with_reducible exact hB2)) | (refine step_append_runN (by rfl) (.tmp 26) (.tmp 28) 24 (by rfl) (v := .slice (some ⟨gC, 0, none⟩) n cC) (u := .slice (some ⟨w3.heap.size, 0, none⟩) 1 1) (v' := .slice (some ⟨gC2, 0, none⟩) (n + 1) cC2) (w' := uC) (by rfl) (by rfl) ?_ ?_; (with_reducible exact hC2)))
  all_goals
    go_wp2
    first | exact bodyPost_ret (v := .agg #[.int .i64 0, .slice (some ⟨gA2, 0, none⟩) (n + 1) cA2]) (by simp [results, Try.results48, go_sem, HFA.out.1, HFA.out.2.1]) rfl HFA.out.2.2 | exact bodyPost_ret (v := .agg #[.int .i64 0, .slice (some ⟨gB2, 0, none⟩) (n + 1) cB2]) (by simp [results, Try.results48, go_sem, HFB.out.1, HFB.out.2.1]) rfl HFB.out.2.2 | exact bodyPost_ret (v := .agg #[.int .i64 0, .slice (some ⟨gC2, 0, none⟩) (n + 1) cC2]) (by simp [results, Try.results48, go_sem, HFC.out.1, HFC.out.2.1]) rfl HFC.out.2.2

end Go.Proofs.Ytinlhghlmfcbfaa
