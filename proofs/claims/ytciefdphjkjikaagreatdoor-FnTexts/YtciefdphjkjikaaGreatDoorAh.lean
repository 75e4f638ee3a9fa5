/- The keys that a text spells, told one by one: the program's eachReadKey. -/
import Derived.Test.YtciefdphjkjikaaGreatDoorAg
import Derived.Test.YtciefdphjkjikaaGreatDoorAf
namespace Go.Proofs.YtciefdphjkjikaaGreatDoor
open Go.RowKit Go.Shelf Go.Maps Go.WideMaps
attribute [local go_sem] Oper.semAt_some

theorem KeptK.old {w V : World} (hk : KeptK (fun r _ => r < w.heap.size) w V) {k : Nat} (hl : k < w.heap.size) : V.heap[k]? = w.heap[k]? := by
  have e : w.heap[k]? = some w.heap[k] := Array.getElem?_eq_getElem hl
  rw [e]
  exact hk k _ e hl
theorem Erv.kept {w V : World} (h : Erv w) (hk : KeptK (fun r _ => r < w.heap.size) w V) : Erv V := by
  obtain ⟨⟨a, a1, a2⟩, b, b1, b2⟩ := h
  have la := World.block_lt_of_cell? _ _ a1
  have lb := World.block_lt_of_cell? _ _ b1
  exact ⟨⟨a, (World.cell?_of_block (hk.old la)).trans a1, a2⟩, b, (World.cell?_of_block (hk.old lb)).trans b1, b2⟩
theorem blocks4 (w : World) (o o' o2 o3 : Obj) : ((((w.alloc o).alloc o').alloc o2).alloc o3).heap[w.heap.size]? = some o ∧ ((((w.alloc o).alloc o').alloc o2).alloc o3).heap[w.heap.size + 1]? = some o' ∧ ((((w.alloc o).alloc o').alloc o2).alloc o3).heap[w.heap.size + 1 + 1]? = some o2 ∧ ((((w.alloc o).alloc o').alloc o2).alloc o3).heap[w.heap.size + 1 + 1 + 1]? = some o3 ∧ ((((w.alloc o).alloc o').alloc o2).alloc o3).heap.size = w.heap.size + 1 + 1 + 1 + 1 := by
  have s1 : ((w.alloc o).alloc o').heap.size = w.heap.size + 1 + 1 := by simp
  have s2 : (((w.alloc o).alloc o').alloc o2).heap.size = w.heap.size + 1 + 1 + 1 := by simp
  have h0 : ((w.alloc o).alloc o').heap[w.heap.size]? = some o := block_at2
  have h1 : ((w.alloc o).alloc o').heap[w.heap.size + 1]? = some o' := heap_alloc_at _ _ _ (by simp)
  have h2 : (((w.alloc o).alloc o').alloc o2).heap[w.heap.size + 1 + 1]? = some o2 := heap_alloc_at _ _ _ s1.symm
  exact ⟨(keepb (keepb h0 (below_box _)).out (below_box _)).out, (keepb (keepb h1 (below_box _)).out (below_box _)).out, (keepb h2 (below_box _)).out, heap_alloc_at _ _ _ s2.symm, by simp⟩

set_option maxRecDepth 100000 in
set_option maxHeartbeats 4000000 in
theorem readKeys_tell (Bt : Nat) (t : List UInt8) (w0 : World) (ht : t.length ≤ 1048576) (hBt : w0.heap[Bt]? = some (.cells #[.string (str t)] 9 (0, 0))) (hE : Erv w0) :
    TellsK (fun _ => False) (fun r _ => r < w0.heap.size) 118 #[.pointer (some ⟨Bt, 0, none⟩)] (fun x : Int => #[Value.int .i64 x]) ((cutL 44 t).map looseN) w0 := by
  intro lp J W hsW hkW hJ hY hJ0
  have HY := show Hid (∀ pre x W1, x ∈ (cutL 44 t).map looseN → J pre W1 → pre.length < 4000000 → YieldAt Fence.wide 0 Tryz.prog lp #[Value.int .i64 x] W1 fun e W' => e = .returned (.bool true) ∧ J (pre ++ [x]) W' ∧ KeepsOthers W1 W' ∧ KeptK (fun k o => k < w0.heap.size ∨ (W.heap.size ≤ k ∧ NoInts o)) W1 W') from hY
  have HJ : Hid (OwnBy (fun r => W.heap.size ≤ r ∨ False) J) := hJ
  have hlB := lt_of_block hBt
  have hbt : W.heap[Bt]? = some (.cells #[.string (str t)] 9 (0, 0)) := hkW Bt _ hBt hlB
  have c1 : (W.alloc (.cells #[.func (.yield lp) #[] #[]] 91)).cell? ⟨Bt, 0, none⟩ = some (.string (str t)) := by
    unfold World.cell?
    rw [(keepb hbt (below_box _)).out]; rfl
  have hs1 : (W.alloc (.cells #[.func (.yield lp) #[] #[]] 91)).heap.size = W.heap.size + 1 := by simp
  have hsp := SplitSeq_any (str t) ⟨#[44]⟩ (W.alloc (.cells #[.func (.yield lp) #[] #[]] 91))
  rw [hs1] at hsp
  obtain ⟨k0, k1, k2, k3, k4⟩ := blocks4 W (.cells #[.func (.yield lp) #[] #[]] 91) (.cells #[.string (str t)] 9) (.cells #[.string ⟨#[44]⟩] 9) (.cells #[.int .i64 0] 3)
  obtain ⟨W4, hW4⟩ : ∃ V, V = ((((W.alloc (.cells #[.func (.yield lp) #[] #[]] 91)).alloc (.cells #[.string (str t)] 9)).alloc (.cells #[.string ⟨#[44]⟩] 9)).alloc (.cells #[.int .i64 0] 3)) := ⟨_, rfl⟩
  have hJ4 : J [] W4 := by
    rw [hW4]
    exact HJ.out.alloc _ (HJ.out.alloc _ (HJ.out.alloc _ (HJ.out.alloc _ hJ0)))
  have hb4 : Below W.heap.size W W4 := by
    rw [hW4]
    exact (below_box2 _ _).trans ((below_box2 _ _).mono (below_box2 _ _).size)
  rw [← hW4] at hsp k0 k1 k2 k3 k4
  have hk4 : KeptK (fun r _ => r < w0.heap.size) w0 W4 := hkW.trans (KeptK.of_below hb4)
  have HE : Hid (Erv w0) := hE
  have hyb : W4.heap[W.heap.size]? = some (.cells #[.func (.yield lp) #[] #[]] 91 (0, 0)) := k0
  have hyc : W4.cell? ⟨W.heap.size, 0, none⟩ = some (.func (.yield lp) #[] #[]) := by unfold World.cell?; rw [k0]; rfl
  clear hY hJ hJ0 hBt hbt hkW hW4 hs1
  refine (callsIn_wide (n := 3)).1 ?_
  show CallsIn Fence.wide 3 Tryz.prog 118 #[.func (.yield lp) #[] #[], .pointer (some ⟨Bt, 0, none⟩)] W _
  refine callsIn_of_wp_marks Tryz.func118 rfl trivial ?_ rfl
  simp only [Tryz.ntmps118, List.size_toArray, List.length_cons, List.length_nil, Nat.reduceAdd, Nat.reduceSub, Array.replicate_succ, Array.replicate_zero, List.push_toArray, List.append_toArray, List.nil_append, List.cons_append]
  gi_wp2_with (first | (refine ⟨trivial, ?_⟩; gi_at_call 87; refine (callsIn_wide.2 hsp).mono ?_; rintro e w' ⟨rfl, hw⟩; have hw2 := hw.symm; subst hw2))
  refine range_allK (by omega) (gf := 115) (lb := #[.pointer (some ⟨W.heap.size + 1 + 1, 0, none⟩), .pointer (some ⟨W.heap.size + 1, 0, none⟩), .pointer (some ⟨W.heap.size + 1 + 1 + 1, 0, none⟩)]) rfl (enters_of Tryz.func115 (by kernel_rfl) rfl)
    (split_tells (W.heap.size + 1) (W.heap.size + 1 + 1) (W.heap.size + 1 + 1 + 1) 44 t W4 ht k1 k2 k3 (by omega) (by omega)) (fun r e => by omega) (fun r o e => by have := e.1; omega) (Nat.le_refl _) (fun _ _ h _ => h) (fun _ => rfl)
    (fun pre V => (J (pre.map looseN) V ∧ V.heap[W.heap.size]? = some (.cells #[.func (.yield lp) #[] #[]] 91 (0, 0))) ∧ KeptK (fun r _ => r < w0.heap.size) w0 V ∧ w0.heap.size ≤ V.heap.size) ?own ⟨⟨hJ4, hyb⟩, hk4, Nat.le_trans hsW hb4.size⟩
    (fun x => { tmps := #[.func (.yield lp) #[] #[], .pointer (some ⟨Bt, 0, none⟩), .pointer (some ⟨W.heap.size, 0, none⟩), .string (str x), .string (str t), .func (.func 115) #[] #[.pointer (some ⟨W.heap.size + 1 + 1, 0, none⟩), .pointer (some ⟨W.heap.size + 1, 0, none⟩), .pointer (some ⟨W.heap.size + 1 + 1 + 1, 0, none⟩)], .string (str x), undef, undef, undef, undef, undef], defers := [] }) ?assign ?body ?done
  case own =>
    rintro s A C row ⟨⟨hj, hy⟩, hk, hs⟩ hg hr
    have hly := lt_of_block hy
    refine ⟨⟨HJ.out _ A C row hj hg (fun r e => ⟨.inl (by rcases (hr r e).1 with q | q <;> omega), (hr r e).2⟩), (hg.block W.heap.size hly (fun e => by rcases (hr _ e.symm).1 with q | q <;> omega)).trans hy⟩, fun k o hk1 hl => (hg.block k (Nat.lt_of_lt_of_le hl hs) (fun e => by rcases (hr _ e.symm).1 with q | q <;> omega)).trans (hk k o hk1 hl), Nat.le_trans hs hg.size⟩
  case assign =>
    intro l x V K hK
    gi_wp2
    exact hK
  case body =>
    rintro l pre x V hx ⟨⟨hj, hyB⟩, hkV, hsV⟩ hlen
    have hyV : V.cell? ⟨W.heap.size, 0, none⟩ = some (.func (.yield lp) #[] #[]) := by unfold World.cell?; rw [hyB]; rfl
    have HYB : Hid (V.heap[W.heap.size]? = some (.cells #[.func (.yield lp) #[] #[]] 91 (0, 0))) := hyB
    clear hyB
    have hxl : x.length ≤ 1048576 := Nat.le_trans (cutL_sub 44 t x hx) ht
    have hln := looseNumber_any x V.drew hxl ((HE.out.kept hkV).below (Below.refl _ _).drew)
    obtain ⟨ln, hlx⟩ : ∃ z, z = looseN x := ⟨_, rfl⟩
    rw [← hlx] at hln
    have HLN : Hid (ln ∈ (cutL 44 t).map looseN) := by rw [hlx]; exact List.mem_map.2 ⟨x, hx, rfl⟩
    have HLX : Hid (ln = looseN x) := hlx
    have HJV : Hid (J (pre.map looseN) V) := hj
    have hWs : W.heap.size + 1 + 1 + 1 + 1 = W4.heap.size := k4.symm
    have FIN : Hid (∀ (w2 V3 : World), Below V.heap.size V w2 → J (pre.map looseN ++ [ln]) V3 → KeepsOthers w2 V3 → KeptK (fun k o => k < w0.heap.size ∨ (W.heap.size ≤ k ∧ NoInts o)) w2 V3 → KeepsOthers V V3 ∧ KeptK (fun k o => ((k = W.heap.size + 1 ∨ k = W.heap.size + 1 + 1 ∨ k = W.heap.size + 1 + 1 + 1) ∧ NoInts o) ∨ (W4.heap.size ≤ k ∧ NoInts o)) V V3 ∧ (J (pre.map looseN ++ [looseN x]) V3 ∧ V3.heap[W.heap.size]? = some (.cells #[.func (.yield lp) #[] #[]] 91 (0, 0))) ∧ KeptK (fun r _ => r < w0.heap.size) w0 V3 ∧ w0.heap.size ≤ V3.heap.size) := fun w2 V3 hb3 hj3 hk3 hs3 => by
      have hup : ∀ k o, V.heap[k]? = some o → w2.heap[k]? = some o := fun k o h => (hb3.block k (lt_of_block h)).trans h
      refine ⟨(KeepsOthers.of_grownBy (grown_of_below hb3) (fun j o e => by cases e)).trans hk3, fun k o hk hp => hs3 k o (hup k o hk) (.inr ?_), ⟨by rw [← HLX.out]; exact hj3, hs3 _ _ (hup _ _ HYB.out) (.inr ⟨Nat.le_refl _, noInts_y _ _⟩)⟩, fun k o hk1 hl => hs3 k o (hup k o (hkV k o hk1 hl)) (.inl hl), Nat.le_trans hsV (Nat.le_trans hb3.size hk3.size)⟩
      rcases hp with ⟨q1, q2⟩ | ⟨q1, q2⟩
      · exact ⟨by omega, q2⟩
      · exact ⟨by omega, q2⟩
    clear hj hlx hWs k0 k1 k2 k3 k4
    gi_wp2
    refine wpIn_region_any (by kernel_rfl) ?_
    change wpAnyIn _ _ _ _ _ _ _ _ _ (World.drew _)
    refine wpAnyIn_ready (rs := [0, 1]) (by kernel_rfl) (by simp) (AllReadyIn.cons rfl (fun K hK => ?_) (AllReadyIn.cons rfl (fun K hK => ?_) AllReadyIn.nil))
    · go_simp
      refine hK _ _ ?_
      clear hK K
      refine wpAnyIn_ready (rs := [1]) (by kernel_rfl) (by simp) (AllReadyIn.cons rfl (fun K hK => ?_) AllReadyIn.nil)
      go_simp
      refine hK _ _ ?_
      clear hK K
      refine wpAnyIn_ready (rs := [2]) (by kernel_rfl) (by simp) (AllReadyIn.cons rfl (fun K hK => ?_) AllReadyIn.nil)
      go_simp
      refine ⟨trivial, ?_⟩
      refine (CallsIn.inRound l (callsIn_wide.2 hln)).mono ?_
      rintro e w2 ⟨rfl, hb2⟩
      have hb3 : Below V.heap.size V w2 := (Below.refl _ _).drew.trans hb2
      have hy2 : w2.cell? ⟨W.heap.size, 0, none⟩ = some (.func (.yield lp) #[] #[]) := (hb3.cell (p := ⟨W.heap.size, 0, none⟩) (World.block_lt_of_cell? _ _ hyV)).trans hyV
      obtain ⟨fn, tmps, assign, body, hy, hR⟩ := HY.out _ ln w2 HLN.out (HJ.out _ V w2 none HJV.out (grown_of_below hb3) (fun r e => by cases e)) (by rw [List.length_map]; exact hlen)
      go_simp
      refine hK _ _ ?_
      clear hK K
      refine wpAnyIn_ready (rs := [3]) (by kernel_rfl) (by simp) (AllReadyIn.cons rfl (fun K hK => ?_) AllReadyIn.nil)
      go_simp
      have hR' : RoundIn (Fence.wide.inRound l) 0 Tryz.prog lp fn tmps assign body w2 _ := hR
      refine hR'.mono ?_
      rintro e V3 ⟨rfl, hj3, hk3, hs3⟩
      go_simp
      refine hK _ _ ?_
      clear hK K
      refine wpAnyIn_ready (rs := [4]) (by kernel_rfl) (by simp) (AllReadyIn.cons rfl (fun K hK => ?_) AllReadyIn.nil)
      go_simp
      refine hK _ _ ?_
      clear hK K
      refine wpAnyIn_done (by kernel_rfl) ?_ _
      clear hy hR hb2
      gi_wp2
      exact FIN.out _ _ hb3 hj3 hk3 hs3
    · go_simp
      refine hK _ _ ?_
      clear hK K
      refine wpAnyIn_ready (rs := [0, 2]) (by kernel_rfl) (by simp) (AllReadyIn.cons rfl (fun K hK => ?_) (AllReadyIn.cons rfl (fun K hK => ?_) AllReadyIn.nil))
      · go_simp
        refine hK _ _ ?_
        clear hK K
        refine wpAnyIn_ready (rs := [2]) (by kernel_rfl) (by simp) (AllReadyIn.cons rfl (fun K hK => ?_) AllReadyIn.nil)
        go_simp
        refine ⟨trivial, ?_⟩
        refine (CallsIn.inRound l (callsIn_wide.2 hln)).mono ?_
        rintro e w2 ⟨rfl, hb2⟩
        have hb3 : Below V.heap.size V w2 := (Below.refl _ _).drew.trans hb2
        have hy2 : w2.cell? ⟨W.heap.size, 0, none⟩ = some (.func (.yield lp) #[] #[]) := (hb3.cell (p := ⟨W.heap.size, 0, none⟩) (World.block_lt_of_cell? _ _ hyV)).trans hyV
        obtain ⟨fn, tmps, assign, body, hy, hR⟩ := HY.out _ ln w2 HLN.out (HJ.out _ V w2 none HJV.out (grown_of_below hb3) (fun r e => by cases e)) (by rw [List.length_map]; exact hlen)
        go_simp
        refine hK _ _ ?_
        clear hK K
        refine wpAnyIn_ready (rs := [3]) (by kernel_rfl) (by simp) (AllReadyIn.cons rfl (fun K hK => ?_) AllReadyIn.nil)
        go_simp
        have hR' : RoundIn (Fence.wide.inRound l) 0 Tryz.prog lp fn tmps assign body w2 _ := hR
        refine hR'.mono ?_
        rintro e V3 ⟨rfl, hj3, hk3, hs3⟩
        go_simp
        refine hK _ _ ?_
        clear hK K
        refine wpAnyIn_ready (rs := [4]) (by kernel_rfl) (by simp) (AllReadyIn.cons rfl (fun K hK => ?_) AllReadyIn.nil)
        go_simp
        refine hK _ _ ?_
        clear hK K
        refine wpAnyIn_done (by kernel_rfl) ?_ _
        clear hy hR hb2
        gi_wp2
        exact FIN.out _ _ hb3 hj3 hk3 hs3
      · go_simp
        refine ⟨trivial, ?_⟩
        refine (CallsIn.inRound l (callsIn_wide.2 hln)).mono ?_
        rintro e w2 ⟨rfl, hb2⟩
        have hb3 : Below V.heap.size V w2 := (Below.refl _ _).drew.trans hb2
        have hy2 : w2.cell? ⟨W.heap.size, 0, none⟩ = some (.func (.yield lp) #[] #[]) := (hb3.cell (p := ⟨W.heap.size, 0, none⟩) (World.block_lt_of_cell? _ _ hyV)).trans hyV
        obtain ⟨fn, tmps, assign, body, hy, hR⟩ := HY.out _ ln w2 HLN.out (HJ.out _ V w2 none HJV.out (grown_of_below hb3) (fun r e => by cases e)) (by rw [List.length_map]; exact hlen)
        go_simp
        refine hK _ _ ?_
        clear hK K
        refine wpAnyIn_ready (rs := [0]) (by kernel_rfl) (by simp) (AllReadyIn.cons rfl (fun K hK => ?_) AllReadyIn.nil)
        go_simp
        refine hK _ _ ?_
        clear hK K
        refine wpAnyIn_ready (rs := [3]) (by kernel_rfl) (by simp) (AllReadyIn.cons rfl (fun K hK => ?_) AllReadyIn.nil)
        go_simp
        have hR' : RoundIn (Fence.wide.inRound l) 0 Tryz.prog lp fn tmps assign body w2 _ := hR
        refine hR'.mono ?_
        rintro e V3 ⟨rfl, hj3, hk3, hs3⟩
        go_simp
        refine hK _ _ ?_
        clear hK K
        refine wpAnyIn_ready (rs := [4]) (by kernel_rfl) (by simp) (AllReadyIn.cons rfl (fun K hK => ?_) AllReadyIn.nil)
        go_simp
        refine hK _ _ ?_
        clear hK K
        refine wpAnyIn_done (by kernel_rfl) ?_ _
        clear hy hR hb2
        gi_wp2
        exact FIN.out _ _ hb3 hj3 hk3 hs3
  case done =>
    rintro D V hD ⟨⟨hj, _⟩, _⟩ hK
    gi_wp2
    refine ⟨by simp, .inl ⟨_, _, rfl, run_takeDeferred hK, ?_⟩⟩
    refine ⟨_, results_none rfl _ _ _, ⟨_, rfl⟩, ?_⟩
    exact HJ.out _ V _ (some D) hj (grownBy_putObj' V D (.deferred none)) (fun r e => by cases e; exact ⟨.inl (by omega), _, hK, .inl rfl⟩)

end Go.Proofs.YtciefdphjkjikaaGreatDoor
