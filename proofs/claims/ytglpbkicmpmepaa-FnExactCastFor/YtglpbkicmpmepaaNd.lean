/- A node is put into the program's grove: the whole of add. -/
import Derived.Test.YtglpbkicmpmepaaNc
namespace Go.Proofs.Ytglpbkicmpmepaa
open Go.RowKit Go.Maps Go.WideMaps

/-- What add owes: the code, or the grove with one node more. -/
def addR (ms : List Mb) (id pv h : Int) : Int := if nodeR ms id pv h ≠ 0 then nodeR ms id pv h else if 60 ≤ ms.length then 2 else 0
def GvAdd (w' : World) (lo G B : Nat) (ms : List Mb) (id pv h : Int) : Prop := addR ms id pv h = 0 → treeR (ms ++ [(id, pv, h)]) = 0 ∧ ∃ s bs, Gv w' lo G B s (ms ++ [(id, pv, h)]) bs

set_option maxRecDepth 20000 in
set_option maxHeartbeats 2000000 in
theorem add_any (lo G B : Nat) (s : Value) (ms : List Mb) (bs : List Nat) (id pv h : Int) (w : World) (hz : treeR ms = 0) (hw : (Lit.int .i64 pv).wf = true) (hlo : lo ≤ w.heap.size) (hG : Gv w lo G B s ms bs) :
    Calls Try.prog 42 #[.pointer (some ⟨G, 0, none⟩), .agg #[.int .i64 id, .int .i64 pv, .int .i64 h]] w fun e w' => e = .returned (.int .i64 (addR ms id pv h)) ∧ Below lo w w' ∧ Hid (GvAdd w' lo G B ms id pv h) ∧ Hid (addR ms id pv h ≠ 0 → Below w.heap.size w w') := by
  obtain ⟨W, hW⟩ : ∃ W, W = w.alloc (.cells #[.int .i64 id, .int .i64 pv, .int .i64 h] 53) := ⟨_, rfl⟩
  have hbx : Below w.heap.size w W := by rw [hW]; exact below_box _
  have hX : W.heap[w.heap.size]? = some (.cells #[.int .i64 id, .int .i64 pv, .int .i64 h] 53 (0, 0)) := by rw [hW]; exact heap_alloc_new _ _
  have hN := nodeFault_any lo G B s ms bs id pv h W hz hw (hG.below hbx)
  rw [hW] at hN
  have HBX : Hid (Below w.heap.size w W) := hbx
  have HW : Hid (W = w.alloc (.cells #[.int .i64 id, .int .i64 pv, .int .i64 h] 53)) := hW
  have HX : Hid (W.heap[w.heap.size]? = some (.cells #[.int .i64 id, .int .i64 pv, .int .i64 h] 53 (0, 0))) := hX
  have HG : Hid (Gv w lo G B s ms bs) := hG
  have HZ : Hid (treeR ms = 0) := hz
  have HLO : Hid (lo ≤ w.heap.size) := hlo
  obtain ⟨cd, hcd⟩ : ∃ x, x = nodeR ms id pv h := ⟨_, rfl⟩
  rw [← hcd] at hN
  by_cases h0 : cd = 0
  rotate_left
  · have e1 : addR ms id pv h = cd := by unfold addR; rw [← hcd, if_pos h0]
    have HA : ∀ w', Hid (GvAdd w' lo G B ms id pv h) := fun w' q => absurd (e1.symm.trans q) h0
    rw [e1]
    clear e1 hcd hX hbx hW hG hz
    go_enter Try.func42, Try.ntmps42
    go_wp2_with (go_at_call 55; (with_reducible refine hN.mono ?_); clear hN; rintro e w2 ⟨rfl, hb2⟩; rw [← HW.out] at hb2)
    go_ret
    exact ⟨rfl, (HBX.out.trans (hb2.mono HBX.out.size)).mono HLO.out, HA _, fun _ => HBX.out.trans (hb2.mono HBX.out.size)⟩
  subst h0
  obtain ⟨a, c, rfl⟩ := hG.slice
  obtain ⟨n, hn⟩ : ∃ n, n = ms.length := ⟨_, rfl⟩
  have HN : Hid (ms.length = n) := hn.symm
  by_cases h60 : 60 ≤ n
  · have e1 : addR ms id pv h = 2 := by unfold addR; rw [← hcd, if_neg (by simp), if_pos (by rw [HN.out]; exact h60)]
    have HA : ∀ w', Hid (GvAdd w' lo G B ms id pv h) := fun w' q => by rw [e1] at q; cases q
    have hc0 : ∀ w2, Below W.heap.size W w2 → w2.cell? ⟨G, 0, none⟩ = some (.slice a n c) := fun w2 hb => by
      have := (HG.out.below (HBX.out.trans (hb.mono HBX.out.size))).box
      rw [HN.out] at this
      unfold World.cell?; rw [this]; rfl
    rw [e1]
    have hki : (60 : Int) ≤ (n : Int) := by omega
    clear e1 hcd hX hbx hW hG hz hn
    go_enter Try.func42, Try.ntmps42
    go_wp2_with (go_at_call 55; (with_reducible refine hN.mono ?_); clear hN; rintro e w2 ⟨rfl, hb2⟩; rw [← HW.out] at hb2; have hc0' := hc0 w2 hb2; clear hc0)
    go_ret
    exact ⟨rfl, (HBX.out.trans (hb2.mono HBX.out.size)).mono HLO.out, HA _, fun _ => HBX.out.trans (hb2.mono HBX.out.size)⟩
  have e1 : addR ms id pv h = 0 := by unfold addR; rw [← hcd, if_neg (by simp), if_neg (by rw [HN.out]; exact h60)]
  have HT : Hid (treeR (ms ++ [(id, pv, h)]) = 0) := tree_snoc HZ.out hcd.symm (by rw [HN.out]; omega)
  have HND : Hid (nodeR ms id pv h = 0) := hcd.symm
  have hki : ¬ (60 : Int) ≤ (n : Int) := by omega
  have hG2 : ∀ w2, Below W.heap.size W w2 → Hid (Gv w2 lo G B (.slice a ms.length c) ms bs) ∧ w2.cell? ⟨G, 0, none⟩ = some (.slice a n c) := fun w2 hb => by
    have := HG.out.below (HBX.out.trans (hb.mono HBX.out.size))
    refine ⟨this, ?_⟩
    have := this.box
    rw [HN.out] at this
    unfold World.cell?; rw [this]; rfl
  have hX2 : ∀ w2, Below W.heap.size W w2 → Hid (w2.heap[w.heap.size]? = some (.cells #[.int .i64 id, .int .i64 pv, .int .i64 h] 53 (0, 0))) := fun w2 hb => keepb HX.out hb
  obtain ⟨pp, hpp⟩ : ∃ p, ptrOf ms bs pv = .pointer p := by
    unfold ptrOf ptB
    split
    · exact ⟨_, rfl⟩
    · exact ⟨_, rfl⟩
  have HPP : Hid (ptrOf ms bs pv = .pointer pp) := hpp
  have hfind : ∀ w2, Below W.heap.size W w2 → Calls Try.prog 46 #[.pointer (some ⟨G, 0, none⟩), .int .i64 pv] w2 fun e w' => e = .returned (.pointer pp) ∧ w' = w2 := fun w2 hb => by
    have := find_any lo G B _ ms bs pv w2 hw (hG2 w2 hb).1.out
    rw [HPP.out] at this
    exact this
  rw [e1]
  clear hcd hX hbx hW hG hz hn hpp e1
  go_enter Try.func42, Try.ntmps42
  go_wp2_with (first | (go_at_call 55; (with_reducible refine hN.mono ?_); clear hN; rintro e w2 ⟨rfl, hb2⟩; rw [← HW.out] at hb2; obtain ⟨HG2, hc0⟩ := hG2 w2 hb2; have HX2 := hX2 w2 hb2; clear hG2 hX2; have HB2 : Hid (Below W.heap.size W w2) := hb2; obtain ⟨x0, x1, x2⟩ := cells3 HX2.out; clear hb2))
  have hf := hfind w2.drew HB2.out.drew
  clear hfind
  go_region_held3 (fun w' => w'.cell? ⟨w.heap.size, 0, none⟩ = some (.int .i64 id) ∧ w'.cell? ⟨w.heap.size, 1, none⟩ = some (.int .i64 pv) ∧ w'.cell? ⟨w.heap.size, 2, none⟩ = some (.int .i64 h)) (go_keep)
    (first | (go_at_call 46; (with_reducible refine hf.mono ?_); rintro e w' ⟨rfl, hw⟩; have hw2 := hw.symm; subst hw2))
  obtain ⟨V, hV⟩ : ∃ V, V = (w2.alloc (.cells #[.int .i64 id, .int .i64 pv, .int .i64 h, .pointer pp] 103)).drew := ⟨_, rfl⟩
  rw [← hV]
  have hbV : Below w2.heap.size w2 V := by rw [hV]; exact (below_box _).drew
  have HBV : Hid (Below W.heap.size W V) := HB2.out.trans (hbV.mono HB2.out.size)
  have hGV := HG2.out.below hbV
  have hVX : V.heap[w2.heap.size]? = some (.cells #[.int .i64 id, .int .i64 pv, .int .i64 h, ptrOf ms bs pv] 103 (0, 0)) := by rw [hV, HPP.out]; exact heap_alloc_new _ _
  have HVX := hVX
  have hsV := hbV.size
  have hlo2 := HLO.out
  have hs1 := HBX.out.size
  have hs2 := HB2.out.size
  obtain ⟨g, cap, w5, hrun, k0, k1, kf, k6, HK, w7, hrun7, HE⟩ := hGV.more (o := (id, pv, h)) HZ.out HND.out (by rw [HN.out]; omega) (by omega) hVX (by omega) (fun j hj => lt_of_block (HG2.out.node j hj).1)
  rw [HN.out] at hrun k0 k6 hrun7
  simp only at hrun7
  have v0 : V.cell? ⟨G, 0, none⟩ = some (.slice a n c) := by
    have := hGV.box
    rw [HN.out] at this
    unfold World.cell?; rw [this]; rfl
  have hXV : V.heap[w.heap.size]? = some (.cells #[.int .i64 id, .int .i64 pv, .int .i64 h] 53 (0, 0)) := (hbV.block _ (lt_of_block HX2.out)).trans HX2.out
  have hX5 : w5.heap[w.heap.size]? = some (.cells #[.int .i64 id, .int .i64 pv, .int .i64 h] 53 (0, 0)) := (HK.out _ (lt_of_block hXV) (fun cur q => by rw [hXV] at q; simp at q)).trans hXV
  have hGne : w.heap.size ≠ G := by have := lt_of_block HG.out.box; omega
  have k7 : (w5.setCell ⟨G, 0, none⟩ (.slice (some ⟨g, 0, none⟩) (n + 1) cap)).cell? ⟨w.heap.size, 0, none⟩ = some (.int .i64 id) := by
    have : (w5.setCell ⟨G, 0, none⟩ (.slice (some ⟨g, 0, none⟩) (n + 1) cap)).heap[w.heap.size]? = some (.cells #[.int .i64 id, .int .i64 pv, .int .i64 h] 53 (0, 0)) := (Below.heap_setCell _ ⟨G, 0, none⟩ _ _ hGne).trans hX5
    unfold World.cell?; rw [this]; rfl
  have hBne : w.heap.size ≠ B := by have := HG.out.map.lt; omega
  have k8 : w7.cell? ⟨w.heap.size, 0, none⟩ = some (.int .i64 id) := by
    have := HE.out.2.2 _ _ hXV (fun cur q => by simp at q) hGne hBne
    unfold World.cell?; rw [this]; rfl
  have k9 : w7.cell? ⟨G, 1, none⟩ = some (.map (some B)) := by
    have := HE.out.1.box
    unfold World.cell?; rw [this]; rfl
  clear hBne hV hbV hGV hVX HVX hsV hlo2 hs1 hs2 hXV hX5 hf hGne x0 x1 x2 hc0
  go_wp2_with (first | (at_builtin; go_must (refine wpList_append_runC (by rfl) _ _ _ (by rfl) (by rfl) (by rfl) hrun ?_); clear hrun))
  go_region_held3 (fun w' => w'.cell? ⟨w.heap.size, 0, none⟩ = some (.int .i64 id) ∧ w'.cell? ⟨G, 1, none⟩ = some (.map (some B))) (go_keep) (fail)
  go_wp2
  go_ret
  have hb7 : Below lo w w7 := ((HBX.out.trans (HBV.out.mono HBX.out.size)).mono HLO.out).trans HE.out.2.1
  exact ⟨rfl, hb7, fun _ => ⟨HT.out, _, _, HE.out.1⟩, fun q => absurd rfl q⟩

end Go.Proofs.Ytglpbkicmpmepaa
