/- AddNode: the program's. -/
import Derived.Test.YtinlhghlmfcbfaaNe
import Derived.Test.YtinlhghlmfcbfaaLa
import Derived.Test.YtinlhghlmfcbfaaEe
import Derived.Test.YtinlhghlmfcbfaaEh
namespace Go.Proofs.Ytinlhghlmfcbfaa
open Go.RowKit Go.Maps Go.WideMaps

/-- One more: what the append leaves. -/
theorem node_added {W : World} {lo X j : Nat} {v : Value} {ms : List Mb} {o : Mb} (h : W.ownsRow lo 40 3 v j (mcells ms)) (hX : W.heap[X]? = some (.cells #[.int .i64 o.1, .int .i64 o.2.1, .int .i64 o.2.2] 40 (0, 0))) (hj : j ≤ 1000) (hlo : lo ≤ W.heap.size) :
    ∃ g cap w5, (Builtin.append_ #[24, 24] 24 #[v, .slice (some ⟨X, 0, none⟩) 1 1]).run Try.prog W = .ok (.slice (some ⟨g, 0, none⟩) (j + 1) cap) w5 ∧
      Hid (w5.ownsRow lo 40 3 (.slice (some ⟨g, 0, none⟩) (j + 1) cap) (j + 1) (mcells (ms ++ [o])) ∧ W.grownBy w5 v.ownBlock) := by
  obtain ⟨i0, hi, hz0, hz1, hz2⟩ := info_parts Try.infoNd
  obtain ⟨v', w5, hrun, hown', hgrow, hsome⟩ := run_append_own (P := Try.prog) W lo 24 24 40 i0 (.agg #[.int .i64 0, .int .i64 0, .int .i64 0]) 3 24 Try.underlying24 hi hz0 hz1 hz2 rfl (by decide) v j (mcells ms) h ⟨X, 0, none⟩ 1 1 [.int .i64 o.1, .int .i64 o.2.1, .int .i64 o.2.2] rfl (World.news_of_block hX) (by
    intro z hz
    simp only [List.mem_cons, List.not_mem_nil, or_false] at hz
    rcases hz with rfl | rfl | rfl <;> rfl) (by unfold maxLen; omega) (by omega) hlo
  obtain ⟨g, cap, rfl⟩ := ownsRow_succ hown'
  refine ⟨g, cap, w5, hrun, ?_, hgrow⟩
  rw [mcells_snoc]
  exact hown'

def addNR (ms : List Mb) (o : Mb) : Int × List Mb := if treeR ms ≠ 0 then (treeR ms, []) else if addR ms o.1 o.2.1 o.2.2 ≠ 0 then (addR ms o.1 o.2.1 o.2.2, []) else (0, ms ++ [o])
def OutNs (w w' : World) (e : Ending) (cd : Int) (ns : List Mb) : Prop :=
  ∃ va vc, e = .returned (.agg #[.int .i64 cd, .slice va ns.length vc]) ∧ w'.ownsRow w.heap.size 40 3 (.slice va ns.length vc) ns.length (mcells ns) ∧ Below w.heap.size w w'
theorem outn_code {w W : World} {R : Nat} {cd : Int} (hR : w.heap.size ≤ R) (hb : Below w.heap.size w W) : OutNs w ((W.setCell ⟨R, 0, none⟩ (.int .i64 cd)).setCell ⟨R, 1, none⟩ (.slice none 0 0)) (.returned (.agg #[.int .i64 cd, .slice none 0 0])) cd [] :=
  ⟨none, 0, rfl, ⟨rfl, .inl ⟨rfl, rfl⟩⟩, (hb.setCell (p := ⟨R, 0, none⟩) hR _).setCell (p := ⟨R, 1, none⟩) hR _⟩
theorem outn_nodes {w W : World} {R lo n : Nat} {ns : List Mb} {va : Option Addr} {vc : Nat} (hn : ns.length = n) (hR : w.heap.size ≤ R) (hlo : R < lo) (hb : Below w.heap.size w W) (hO : W.ownsRow lo 40 3 (.slice va n vc) n (mcells ns)) :
    OutNs w ((W.setCell ⟨R, 0, none⟩ (.int .i64 0)).setCell ⟨R, 1, none⟩ (.slice va n vc)) (.returned (.agg #[.int .i64 0, .slice va n vc])) 0 ns := by
  subst hn
  exact ⟨va, vc, rfl, Joins.ownsRow_le (ownsRow_setCell_below (ownsRow_setCell_below hO (a := ⟨R, 0, none⟩) hlo _) (a := ⟨R, 1, none⟩) hlo _) (by omega), (hb.setCell (p := ⟨R, 0, none⟩) hR _).setCell (p := ⟨R, 1, none⟩) hR _⟩

set_option maxRecDepth 20000 in
set_option maxHeartbeats 2000000 in
theorem tree_any (lo G B : Nat) (s : Value) (ms : List Mb) (bs : List Nat) (w : World) (hl : ms.length ≤ 60) (hG : Gv w lo G B s ms bs) :
    Calls Try.prog 38 #[.pointer (some ⟨G, 0, none⟩)] w fun e w' => ∃ va vc, e = .returned (.slice va ms.length vc) ∧ w'.ownsRow w.heap.size 40 3 (.slice va ms.length vc) ms.length (mcells ms) ∧ Below w.heap.size w w' := by
  obtain ⟨sa, sc, rfl⟩ := hG.slice
  obtain ⟨n, hn⟩ : ∃ n, n = ms.length := ⟨_, rfl⟩
  have HN : Hid (ms.length = n) := hn.symm
  have HG : Hid (Gv w lo G B (.slice sa ms.length sc) ms bs) := hG
  have c0 : w.cell? ⟨G, 0, none⟩ = some (.slice sa n sc) := by
    have := hG.box
    rw [HN.out] at this
    unfold World.cell?; rw [this]; rfl
  rw [← hn] at hl ⊢
  clear hG hn
  go_enter Try.func38, Try.ntmps38
  go_wp2
  go_loopw [3, 11] (fun v i wr => ∃ j : Nat, j ≤ n ∧ i = .int .i64 j ∧ Below w.heap.size w wr ∧ ∃ va vc, v = .slice va j vc ∧ Hid (wr.ownsRow w.heap.size 40 3 (.slice va j vc) j (mcells (ms.take j)))) (fun _ i _ => n - (intOf i).toNat)
  case atStart => exact ⟨0, Nat.zero_le _, rfl, Below.refl _ _, none, 0, rfl, ⟨rfl, .inl ⟨rfl, rfl⟩⟩⟩
  case round =>
    obtain ⟨j, hj, rfl, hbel, va, vc, rfl, HO⟩ := hrel
    by_cases hlt : j < n
    · have hj2 : j < ms.length := by rw [HN.out]; exact hlt
      obtain ⟨X, hX⟩ : ∃ X, X = bs.getD j 0 := ⟨_, rfl⟩
      obtain ⟨g, cap, e⟩ : ∃ g cap, Value.slice sa ms.length sc = .slice (some ⟨g, 0, none⟩) ms.length cap := by
        rcases HG.out.row.2 with ⟨_, h2⟩ | ⟨g, cap, cur, h1, _⟩
        · omega
        · exact ⟨g, cap, h1⟩
      have esa : sa = some ⟨g, 0, none⟩ := by injection e
      subst esa
      have hcell : w.cell? ⟨g, j, none⟩ = some (.pointer (some ⟨X, 0, none⟩)) := (HG.out.row.cellAt j (by omega)).trans (by
        have : j < bs.length := by rw [HG.out.len]; exact hj2
        rw [hX]
        simp [ptB, List.getD, this])
      have hgl : g < w.heap.size := (HG.out.row.lt g rfl).2
      obtain ⟨o, ho⟩ : ∃ o, o = ms.getD j Z3 := ⟨_, rfl⟩
      have HTS : Hid (ms.take (j + 1) = ms.take j ++ [o]) := (next_nd HN.out hlt ho).2
      have hnode := (HG.out.node j hj2).1
      rw [← ho, ← hX] at hnode
      obtain ⟨ok, op, oq⟩ := o
      have hnr := (hbel.block X (lt_of_block hnode)).trans hnode
      have x0 : wr.cell? ⟨X, 0, none⟩ = some (.int .i64 ok) := by unfold World.cell?; rw [hnr]; rfl
      have x1 : wr.cell? ⟨X, 1, none⟩ = some (.int .i64 op) := by unfold World.cell?; rw [hnr]; rfl
      have x2 : wr.cell? ⟨X, 2, none⟩ = some (.int .i64 oq) := by unfold World.cell?; rw [hnr]; rfl
      have y0 := (hbel.cell (p := ⟨g, j, none⟩) hgl).trans hcell
      have hki : (j : Int) < (n : Int) := by omega
      have hsz := hbel.size
      obtain ⟨g5, cap5, w5, hrun, HC5⟩ := node_added (o := (ok, op, oq)) (X := wr.heap.size) (HO.out.alloc (.cells #[.int .i64 ok, .int .i64 op, .int .i64 oq] 40)) (heap_alloc_at _ _ _ rfl) (by omega) (by simp; omega)
      have HB5 : Hid (Below w.heap.size w w5) := (hbel.trans ((below_box _).mono hbel.size)).grown HC5.out.2 (by simp; omega) (fun k hk => (HO.out.lt k hk).1)
      clear ho hX hcell hnode hnr hsz hgl e hj2
      go_wp2_with (first | (at_builtin; go_must (refine wpList_append_runC (by rfl) _ _ _ (by rfl) (by rfl) (by rfl) hrun ?_); clear hrun))
      go_roundw
      case rel => exact ⟨j + 1, by omega, by go_num, HB5.out, _, _, rfl, by rw [HTS.out]; exact HC5.out.1⟩
      case measure => simp [intOf]; omega
    · have hjn : j = n := by omega
      subst hjn
      have HTF : Hid (ms.take j = ms) := List.take_of_length_le (by rw [HN.out]; omega)
      go_wp2
      go_ret
      exact ⟨va, vc, rfl, by have := HO.out; rw [HTF.out] at this; exact this, hbel⟩

theorem tree_len {ms : List Mb} (h : treeR ms = 0) : ms.length ≤ 60 := by
  unfold treeR at h
  by_cases e : 60 < ms.length
  · rw [if_pos e] at h; cases h
  · omega

set_option maxRecDepth 20000 in
set_option maxHeartbeats 4000000 in
theorem iAddNode_any (n c : Nat) (ad : Option Addr) (ms : List Mb) (id pv ht : Int) (w : World) (hC : n ≤ c ∧ c ≤ maxLen ∧ MAt w ad n ms) (hF : FineN ms) (hx : (Lit.int .i64 pv).wf = true) :
    Calls Try.prog 17 #[.slice ad n c, .agg #[.int .i64 id, .int .i64 pv, .int .i64 ht]] w fun e w' => OutNs w w' e (addNR ms (id, pv, ht)).1 (addNR ms (id, pv, ht)).2 := by
  obtain ⟨W, hW⟩ : ∃ W, W = (w.alloc (.cells #[.int .i64 id, .int .i64 pv, .int .i64 ht] 40)).alloc (.cells #[.int .i64 0, .slice none 0 0] 42) := ⟨_, rfl⟩
  have hbx : Below w.heap.size w W := by rw [hW]; exact below_box2 _ _
  have HBX : Hid (Below w.heap.size w W) := hbx
  have HW : Hid (W = (w.alloc (.cells #[.int .i64 id, .int .i64 pv, .int .i64 ht] 40)).alloc (.cells #[.int .i64 0, .slice none 0 0] 42)) := hW
  have HX : Hid (W.heap[w.heap.size + 1]? = some (.cells #[.int .i64 0, .slice none 0 0] 42 (0, 0))) := by
    show _ = _
    rw [hW]
    exact heap_alloc_at _ _ _ (by simp)
  have HNB : Hid (W.heap[w.heap.size]? = some (.cells #[.int .i64 id, .int .i64 pv, .int .i64 ht] 40 (0, 0))) := by
    show _ = _
    rw [hW]
    exact ((below_box (w := w.alloc (.cells #[.int .i64 id, .int .i64 pv, .int .i64 ht] 40)) _).block _ (by simp)).trans (heap_alloc_new _ _)
  have h := plant_any n c ad ms W (hC.2.2.below hbx (Nat.le_refl _)) hF (Nat.le_trans hC.1 hC.2.1)
  rw [hW] at h
  obtain ⟨cd, hcd⟩ : ∃ x, x = treeR ms := ⟨_, rfl⟩
  rw [← hcd] at h
  by_cases h0 : cd = 0
  rotate_left
  · have e1 : addNR ms (id, pv, ht) = (cd, []) := by unfold addNR; rw [← hcd, if_pos h0]
    rw [e1]
    have hcn2 : (cd != 0) = true := by simpa using h0
    clear e1 hcd hC hbx hF hW
    go_enter Try.func17, Try.ntmps17
    go_wp2_with (go_at_call 19; (with_reducible refine h.mono ?_); clear h; rintro e w2 ⟨p, rfl, hb2, _⟩; rw [← HW.out] at hb2; have HB2 : Hid (Below w.heap.size w w2) := HBX.out.trans (hb2.mono HBX.out.size); have HX2 := keepb HX.out hb2; obtain ⟨x0, x1, f0, f1, _⟩ := res_cells HX2.out (Below.refl w2.heap.size _) (lt_of_block HX2.out); clear hb2)
    obtain ⟨_, s1, s2⟩ := two_set HX2.out (.int .i64 cd) (.slice none 0 0)
    exact bodyPost_ret (v := .agg #[.int .i64 cd, .slice none 0 0]) (by simp [results, Try.results17, go_sem, s1, s2]) rfl (outn_code (by omega) HB2.out)
  have HZ : Hid (treeR ms = 0) := by show _ = _; rw [← hcd]; exact h0
  have HWF : Hid ((Lit.int .i64 pv).wf = true) := hx
  subst h0
  obtain ⟨ac, hac⟩ : ∃ x, x = addR ms id pv ht := ⟨_, rfl⟩
  have HAC : Hid (addR ms id pv ht = ac) := hac.symm
  by_cases ha : ac = 0
  rotate_left
  · have e1 : addNR ms (id, pv, ht) = (ac, []) := by unfold addNR; rw [← hcd, if_neg (by simp), ← hac, if_pos ha]
    rw [e1]
    have hcn2 : (ac != 0) = true := by simpa using ha
    clear e1 hcd hC hbx hF hW hac
    go_enter Try.func17, Try.ntmps17
    go_wp2_with (first
      | (go_at_call 19; (with_reducible refine h.mono ?_); clear h; rintro e w2 ⟨p, rfl, hb2, HP⟩; rw [← HW.out] at hb2 HP; obtain ⟨G, B, s, bs, rfl, hG⟩ := HP.out.2 HZ.out; have hadd := add_any W.heap.size G B s ms bs id pv ht w2 HZ.out HWF.out hb2.size hG; rw [HAC.out] at hadd; clear hG HP; have HB2 : Hid (Below w.heap.size w w2) := HBX.out.trans (hb2.mono HBX.out.size); have HBW : Hid (Below W.heap.size W w2) := hb2; have HN2 := keepb HNB.out hb2; obtain ⟨n0, n1, n2⟩ := cells3 HN2.out; clear hb2)
      | (go_at_call 37; (with_reducible refine hadd.mono ?_); clear hadd; rintro e w3 ⟨rfl, hb3, _, _⟩; have HB3 : Hid (Below w.heap.size w w3) := HBX.out.trans ((HBW.out.trans hb3).mono HBX.out.size); have HX3 := keepb HX.out (HBW.out.trans hb3); obtain ⟨x0, x1, f0, f1, _⟩ := res_cells HX3.out (Below.refl w3.heap.size _) (lt_of_block HX3.out); clear hb3))
    obtain ⟨_, s1, s2⟩ := two_set HX3.out (.int .i64 ac) (.slice none 0 0)
    exact bodyPost_ret (v := .agg #[.int .i64 ac, .slice none 0 0]) (by simp [results, Try.results17, go_sem, s1, s2]) rfl (outn_code (by omega) HB3.out)
  subst ha
  have e1 : addNR ms (id, pv, ht) = (0, ms ++ [(id, pv, ht)]) := by unfold addNR; rw [← hcd, if_neg (by simp), ← hac, if_neg (by simp)]
  rw [e1]
  obtain ⟨L, hL⟩ : ∃ L, L = ms ++ [(id, pv, ht)] := ⟨_, rfl⟩
  rw [← hL]
  have HL : Hid (ms ++ [(id, pv, ht)] = L) := hL.symm
  have htr : ∀ w3 lo G B, GvAdd w3 lo G B ms id pv ht → Calls Try.prog 38 #[.pointer (some ⟨G, 0, none⟩)] w3 fun e w' => ∃ va vc, e = .returned (.slice va L.length vc) ∧ w'.ownsRow w3.heap.size 40 3 (.slice va L.length vc) L.length (mcells L) ∧ Below w3.heap.size w3 w' := fun w3 lo G B hA => by
    obtain ⟨t1, s, bs, hG⟩ := hA HAC.out
    rw [HL.out] at t1 hG
    exact tree_any lo G B s L bs w3 (tree_len t1) hG
  clear e1 hcd hC hbx hF hW hac hL
  go_enter Try.func17, Try.ntmps17
  go_wp2_with (first
    | (go_at_call 19; (with_reducible refine h.mono ?_); clear h; rintro e w2 ⟨p, rfl, hb2, HP⟩; rw [← HW.out] at hb2 HP; obtain ⟨G, B, s, bs, rfl, hG⟩ := HP.out.2 HZ.out; have hadd := add_any W.heap.size G B s ms bs id pv ht w2 HZ.out HWF.out hb2.size hG; rw [HAC.out] at hadd; clear hG HP; have HB2 : Hid (Below w.heap.size w w2) := HBX.out.trans (hb2.mono HBX.out.size); have HBW : Hid (Below W.heap.size W w2) := hb2; have HN2 := keepb HNB.out hb2; obtain ⟨n0, n1, n2⟩ := cells3 HN2.out; clear hb2)
    | (go_at_call 37; (with_reducible refine hadd.mono ?_); clear hadd; rintro e w3 ⟨rfl, hb3, HA3, _⟩; have HB3 : Hid (Below w.heap.size w w3) := HBX.out.trans ((HBW.out.trans hb3).mono HBX.out.size); have HX3 := keepb HX.out (HBW.out.trans hb3); have ht3 := htr w3 _ G B HA3.out; clear hb3 htr)
    | (go_at_call 38; (with_reducible refine ht3.mono ?_); clear ht3; rintro e w4 ⟨va, vc, rfl, hO4, hb4⟩; have HO4 : Hid (w4.ownsRow w3.heap.size 40 3 (.slice va L.length vc) L.length (mcells L)) := hO4; have HB4 : Hid (Below w.heap.size w w4) := HB3.out.trans (hb4.mono HB3.out.size); have HX4 := keepb HX3.out hb4; obtain ⟨x0, x1, f0, f1, _⟩ := res_cells HX4.out (Below.refl w4.heap.size _) (lt_of_block HX4.out); clear hb4 hO4))
  obtain ⟨_, s1, s2⟩ := two_set HX4.out (.int .i64 0) (.slice va L.length vc)
  exact bodyPost_ret (v := .agg #[.int .i64 0, .slice va L.length vc]) (by simp [results, Try.results17, go_sem, s1, s2]) rfl (outn_nodes rfl (by omega) (lt_of_block HX3.out) HB4.out HO4.out)

end Go.Proofs.Ytinlhghlmfcbfaa
