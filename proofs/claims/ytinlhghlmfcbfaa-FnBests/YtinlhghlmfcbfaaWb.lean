/- A tree that is drawn right. -/
import Derived.Test.YtinlhghlmfcbfaaVg
import Derived.Test.YtinlhghlmfcbfaaDr
namespace Go.Proofs.Ytinlhghlmfcbfaa
open Go.RowKit Go.Maps Go.WideMaps

theorem l1Chance_any (SB cn cc t : Nat) (ca : Option Addr) (l : List Int) (k : Int) (w v : World) (hk : k ≤ 200) (ht : t ≤ 1000) (hcn : cn ≤ 1048576) (hB : BAt w ca cn l) (h : Src w v SB ca cn cc t) :
    Calls Try.prog 34 #[.pointer (some ⟨SB, 0, none⟩), .int .i64 k] v fun e v' => ∃ r : Bool, e = .returned (.bool r) ∧ Src w v' SB ca cn cc (t + 1) ∧ Chg v v' SB (SB + 1) := by
  have hx := l1Next_any SB cn cc t ca l k w v hk ht hcn hB h
  clear h
  go_enter Try.func34, Try.ntmps34
  go_wp2_with (go_at_call 32; (with_reducible refine hx.mono ?_); clear hx; rintro e v1 ⟨r, rfl, _, hS, hc⟩)
  go_ret
  exact ⟨_, rfl, hS, hc⟩
theorem l1Min_any (a b : Int) (v : World) : Calls Try.prog 47 #[.int .i64 a, .int .i64 b] v fun e v' => e = .returned (.int .i64 (if a < b then a else b)) ∧ v' = v := by
  by_cases h : a < b
  · rw [if_pos h]
    go_enter Try.func47, Try.ntmps47
    go_wp2
    go_ret
    exact ⟨rfl, rfl⟩
  · rw [if_neg h]
    go_enter Try.func47, Try.ntmps47
    go_wp2
    go_ret
    exact ⟨rfl, rfl⟩

/-- Nodes that were drawn: in memory of their own, the source in block SB. -/
structure Dt (w v V : World) (SB : Nat) (ca : Option Addr) (cn cc t g c : Nat) (ms : List Mb) : Prop where
  src : Src w V SB ca cn cc t
  chg : Chg v V SB (SB + 1)
  row : V.ownsRow v.heap.size 40 3 (.slice (some ⟨g, 0, none⟩) ms.length c) ms.length (mcells ms)
  sl : SB < v.heap.size
section
variable {w v V V' : World} {SB : Nat} {ca : Option Addr} {cn cc t t' g c : Nat} {ms : List Mb}
theorem Chg.moreB {lo hi B : Nat} (h : Chg v V lo hi) (hb : Below B V V') (hB : v.heap.size ≤ B) : Chg v V' lo hi := ⟨hb.os.trans h.os, hb.tape.trans h.tape, hb.output.trans h.output, Nat.le_trans h.size hb.size, fun b hbs ho => (hb.block b (by omega)).trans (h.block b hbs ho)⟩
theorem Dt.step (h : Dt w v V SB ca cn cc t g c ms) (hb : Below V.heap.size V V') : Dt w v V' SB ca cn cc t g c ms :=
  ⟨h.src.step hb, h.chg.moreB hb h.chg.size, h.row.kept (grown_of_below hb) (by simp [Value.ownBlock]), h.sl⟩
theorem Dt.draw (h : Dt w v V SB ca cn cc t g c ms) (hS : Src w V' SB ca cn cc t') (hc : Chg V V' SB (SB + 1)) : Dt w v V' SB ca cn cc t' g c ms :=
  ⟨hS, h.chg.trans hc, hc.row1 h.row h.sl, h.sl⟩
theorem Dt.nat (h : Dt w v V SB ca cn cc t g c ms) : ms.length ≤ c ∧ c ≤ maxLen ∧ MAt V (some ⟨g, 0, none⟩) ms.length ms := by
  rcases id h.row.2 with ⟨e, _⟩ | ⟨g', c', cur, e, _, _, k1, k2, _⟩
  · cases e
  · simp at e
    obtain ⟨rfl, rfl⟩ := e
    exact ⟨k1, k2, MAt.owned h.row rfl⟩
theorem Dt.new (h : Dt w v V SB ca cn cc t g c ms) {V' : World} {ns : List Mb} {va : Option Addr} {vc lo : Nat} (hb : Below V.heap.size V V') (hlo : v.heap.size ≤ lo) (hr : V'.ownsRow lo 40 3 (.slice va ns.length vc) ns.length (mcells ns)) (hn : 0 < ns.length) : ∃ g', va = some ⟨g', 0, none⟩ ∧ Dt w v V' SB ca cn cc t g' vc ns := by
  rcases id hr.2 with ⟨_, e⟩ | ⟨g', c', cur, e, _⟩
  · omega
  · cases e
    exact ⟨g', rfl, h.src.step hb, h.chg.moreB hb h.chg.size, Joins.ownsRow_le hr hlo, h.sl⟩
theorem Dt.set (h : Dt w v V SB ca cn cc t g c ms) {b i : Nat} (hb : b ≠ g) (hv : v.heap.size ≤ b) (hs : b ≠ SB) (u : Value) : Dt w v (V.setCell ⟨b, i, none⟩ u) SB ca cn cc t g c ms := by
  refine ⟨⟨(Below.heap_setCell _ ⟨b, i, none⟩ u SB (Ne.symm hs)).trans h.src.box, h.src.bel.setCell (p := ⟨b, i, none⟩) (Nat.le_trans (Nat.le_trans h.src.sb (Nat.le_of_lt h.sl)) hv) _, h.src.sb⟩, ⟨h.chg.os, h.chg.tape, h.chg.output, by simpa using h.chg.size, fun k hk ho => (Below.heap_setCell _ ⟨b, i, none⟩ u k (show k ≠ b by omega)).trans (h.chg.block k hk ho)⟩, ownsRow_setCell_other h.row (a := ⟨b, i, none⟩) (by simpa [Value.ownBlock] using Ne.symm hb) u, h.sl⟩
end
theorem add_tree {ms : List Mb} {o : Mb} (h : treeR ms = 0) (e : (addNR ms o).1 = 0) : (addNR ms o).2 = ms ++ [o] ∧ treeR (ms ++ [o]) = 0 := by
  unfold addNR at e ⊢
  rw [if_neg (by simp [h])] at e ⊢
  by_cases q : addR ms o.1 o.2.1 o.2.2 ≠ 0
  · rw [if_pos q] at e; exact absurd e q
  · rw [if_neg q]
    refine ⟨rfl, ?_⟩
    have q0 : addR ms o.1 o.2.1 o.2.2 = 0 := Decidable.not_not.1 q
    unfold addR at q0
    by_cases q1 : nodeR ms o.1 o.2.1 o.2.2 ≠ 0
    · rw [if_pos q1] at q0; exact absurd q0 q1
    · rw [if_neg q1] at q0
      by_cases q2 : 60 ≤ ms.length
      · rw [if_pos q2] at q0; cases q0
      · exact tree_snoc h (Decidable.not_not.1 q1) (by omega)

/-- A node of those drawn, read; what stands in the box behind the two stores. -/
theorem node_back {w v V : World} {SB : Nat} {ca : Option Addr} {cn cc t g c n j NB : Nat} {ms : List Mb} {id : Int} (h : Dt w v V SB ca cn cc t g c ms) (hn : ms.length = n) (hz : treeR ms = 0) (hj : j < n) (hb : V.heap[NB]? = some (.cells #[.int .i64 id, .int .i64 0, .int .i64 1] 40 (0, 0))) (hv : v.heap.size ≤ NB) (hg : g < NB) :
    ∃ pk pp ph : Int, V.cell? ⟨g, j * 3, none⟩ = some (.int .i64 pk) ∧ V.cell? ⟨g, j * 3 + 1, none⟩ = some (.int .i64 pp) ∧ V.cell? ⟨g, j * 3 + 2, none⟩ = some (.int .i64 ph) ∧ (1 ≤ ph ∧ ph ≤ 40) ∧
      (V.alloc (.cells #[.int .i64 pk, .int .i64 pp, .int .i64 ph] 40)).cell? ⟨NB, 1, none⟩ = some (.int .i64 0) ∧ (V.alloc (.cells #[.int .i64 pk, .int .i64 pp, .int .i64 ph] 40)).cell? ⟨NB, 2, none⟩ = some (.int .i64 1) ∧ (V.alloc (.cells #[.int .i64 pk, .int .i64 pp, .int .i64 ph] 40)).frozen? ⟨NB, 1, none⟩ = false ∧ (V.alloc (.cells #[.int .i64 pk, .int .i64 pp, .int .i64 ph] 40)).frozen? ⟨NB, 2, none⟩ = false ∧
      Hid ((((V.alloc (.cells #[.int .i64 pk, .int .i64 pp, .int .i64 ph] 40)).setCell ⟨NB, 1, none⟩ (.int .i64 pk)).setCell ⟨NB, 2, none⟩ (.int .i64 (ph + 1))).heap[NB]? = some (.cells #[.int .i64 id, .int .i64 pk, .int .i64 (ph + 1)] 40 (0, 0))) ∧
      Hid (Dt w v (((V.alloc (.cells #[.int .i64 pk, .int .i64 pp, .int .i64 ph] 40)).setCell ⟨NB, 1, none⟩ (.int .i64 pk)).setCell ⟨NB, 2, none⟩ (.int .i64 (ph + 1))) SB ca cn cc t g c ms) := by
  subst hn
  obtain ⟨_, _, hM⟩ := h.nat
  rcases hM.2 with h0 | ⟨b, off, e, _, hc⟩
  · omega
  cases e
  have h3 := hc j hj
  have hht := nodeR_ht (tree_node hz hj)
  have hb1 : (V.alloc (.cells #[.int .i64 (ms.getD j Z3).1, .int .i64 (ms.getD j Z3).2.1, .int .i64 (ms.getD j Z3).2.2] 40)).heap[NB]? = some (.cells #[.int .i64 id, .int .i64 0, .int .i64 1] 40 (0, 0)) := ((below_box _).block NB (lt_of_block hb)).trans hb
  obtain ⟨_, q1, q2⟩ := cells3 hb1
  have b1 := Joins.block_setCell (i := 1) hb1 (.int .i64 (ms.getD j Z3).1)
  have b2 := Joins.block_setCell (i := 2) b1 (.int .i64 ((ms.getD j Z3).2.2 + 1))
  have hs : NB ≠ SB := by have := h.sl; omega
  have d1 := (h.step (below_box (.cells #[.int .i64 (ms.getD j Z3).1, .int .i64 (ms.getD j Z3).2.1, .int .i64 (ms.getD j Z3).2.2] 40))).set (i := 1) (by omega) hv hs (.int .i64 (ms.getD j Z3).1)
  have d2 := d1.set (i := 2) (by omega) hv hs (.int .i64 ((ms.getD j Z3).2.2 + 1))
  exact ⟨_, _, _, by simpa using h3.1, by simpa using h3.2.1, by simpa using h3.2.2, hht, q1, q2, Joins.unfrozen_of_block hb1 1, Joins.unfrozen_of_block hb1 2, b2, d2⟩

def OutDt (w v : World) (SB : Nat) (ca : Option Addr) (cn cc T : Nat) (e : Ending) (v' : World) (K : List Mb → Prop) : Prop :=
  ∃ (t g c : Nat) (ms : List Mb), e = .returned (.slice (some ⟨g, 0, none⟩) ms.length c) ∧ t ≤ T ∧ K ms ∧ Dt w v v' SB ca cn cc t g c ms

set_option maxRecDepth 20000 in
set_option maxHeartbeats 4000000 in
theorem l9Right_any (SB cn cc t : Nat) (ca : Option Addr) (l : List Int) (w v : World) (ht : t ≤ 800) (hcn : cn ≤ 1048576) (hB : BAt w ca cn l) (h : Src w v SB ca cn cc t) :
    Calls Try.prog 41 #[.pointer (some ⟨SB, 0, none⟩)] v fun e v' => OutDt w v SB ca cn cc (t + 40) e v' (fun ms => treeR ms = 0) := by
  have HB : Hid (BAt w ca cn l) := hB
  have hsl := h.lt
  have hS1 : Src w (v.alloc (.cells #[] 40)) SB ca cn cc t := h.step (below_box _)
  have HD0 : Hid (Dt w v (v.alloc (.cells #[] 40)) SB ca cn cc t v.heap.size 0 []) := ⟨hS1, Chg.of_below (below_box _) _ _, own_empty (heap_alloc_new _ _) (Nat.le_refl _), hsl⟩
  have hx := l1Next_any SB cn cc t ca l 12 w _ (by omega) (by omega) hcn hB hS1
  clear h hS1 hB
  go_enter Try.func41, Try.ntmps41
  go_wp2_with (go_at_call 32; (with_reducible refine hx.mono ?_); clear hx; rintro e v1 ⟨k0, rfl, hk0, hS, hc⟩; have HD1 : Hid (Dt w v v1 SB ca cn cc (t + 1) v.heap.size 0 []) := HD0.out.draw hS hc; clear hS hc)
  go_loopw [3, 4] (fun u i V => ∃ (k : Nat) (t' g c n : Nat) (ms : List Mb), k ≤ 11 ∧ i = .int .i64 (k : Int) ∧ u = .slice (some ⟨g, 0, none⟩) n c ∧ t' + 3 * k ≤ t + 36 ∧ Hid (ms.length = n) ∧ Hid (treeR ms = 0) ∧ Hid (Dt w v V SB ca cn cc t' g c ms)) (fun _ i _ => (intOf i).toNat)
  case atStart =>
    have h12 := hk0.2 (by omega)
    obtain ⟨k, rfl⟩ := Int.eq_ofNat_of_zero_le hk0.1
    exact ⟨k, t + 1, _, 0, 0, [], by omega, rfl, rfl, by omega, rfl, rfl, HD1.out⟩
  case round =>
    obtain ⟨k, t', g, c, n, ms, hk, rfl, rfl, htk, HN, HZ, HD⟩ := hrel
    by_cases hk1 : 0 < k
    rotate_left
    · obtain rfl : k = 0 := by omega
      go_wp2
      go_ret
      refine ⟨t', g, c, ms, by rw [HN.out]; rfl, by omega, HZ.out, HD.out⟩
    have hkp : (0 : Int) < (k : Int) := by omega
    have hx := l1Next_any SB cn cc t' ca l 20 w wr (by omega) (by omega) hcn HB.out HD.out.src
    obtain ⟨k', rfl⟩ : ∃ k', k = k' + 1 := ⟨k - 1, by omega⟩
    by_cases hn0 : n = 0
    · subst hn0
      go_wp2_with (go_at_call 32; (with_reducible refine hx.mono ?_); clear hx; rintro e v2 ⟨r, rfl, ⟨hr0, hr1⟩, hS, hc⟩; have hr2 : r < 20 := hr1 (by omega); clear hr1; have hwi := IntWalk.i64_in (1 + r) (by omega); have HD2 : Hid (Dt w v (v2.alloc (.cells #[.int .i64 (1 + r), .int .i64 0, .int .i64 1] 40)) SB ca cn cc (t' + 1) g c ms) := (HD.out.draw hS hc).step (below_box _); have HNB : Hid ((v2.alloc (.cells #[.int .i64 (1 + r), .int .i64 0, .int .i64 1] 40)).heap[v2.heap.size]? = some (.cells #[.int .i64 (1 + r), .int .i64 0, .int .i64 1] 40 (0, 0))) := heap_alloc_new _ _; clear hS hc)
      obtain ⟨y0, y1, y2⟩ := cells3 HNB.out
      obtain ⟨cd, hcd⟩ : ∃ z, z = (addNR ms ((1 + r), 0, 1)).1 := ⟨_, rfl⟩
      obtain ⟨ns, hns⟩ : ∃ z, z = (addNR ms ((1 + r), 0, 1)).2 := ⟨_, rfl⟩
      have hadd := sAddNode_any ms.length c g 0 ms (1 + r) 0 1 (v2.alloc (.cells #[.int .i64 (1 + r), .int .i64 0, .int .i64 1] 40)) (by have := tree_len HZ.out; omega) HD2.out.nat
      rw [HN.out] at hadd
      have HCD : Hid ((addNR ms ((1 + r), 0, 1)).1 = cd ∧ (addNR ms ((1 + r), 0, 1)).2 = ns) := ⟨hcd.symm, hns.symm⟩
      rw [← hcd, ← hns] at hadd
      clear hcd hns
      by_cases hc0 : cd = 0
      · subst hc0
        have hat := add_tree HZ.out HCD.out.1
        have HNS : Hid (ns = ms ++ [((1 + r), 0, 1)] ∧ treeR (ms ++ [((1 + r), 0, 1)]) = 0) := ⟨HCD.out.2.symm.trans hat.1, hat.2⟩
        clear hat
        go_wp2_with (go_at_call 48; (with_reducible refine hadd.mono ?_); clear hadd; rintro e v5 ⟨va, vc, rfl, hr5, hb5⟩; have HR5 : Hid (v5.ownsRow (v2.alloc (.cells #[.int .i64 (1 + r), .int .i64 0, .int .i64 1] 40)).heap.size 40 3 (.slice va ns.length vc) ns.length (mcells ns)) := hr5; have HB5 : Hid (Below (v2.alloc (.cells #[.int .i64 (1 + r), .int .i64 0, .int .i64 1] 40)).heap.size (v2.alloc (.cells #[.int .i64 (1 + r), .int .i64 0, .int .i64 1] 40)) v5) := hb5; clear hr5 hb5; obtain ⟨g5, eg, hD5⟩ := HD2.out.new HB5.out (Nat.le_trans HD2.out.chg.size (Nat.le_refl _)) HR5.out (by rw [HNS.out.1]; simp); subst eg; have HD6 : Hid (Dt w v (v5.alloc (.cells #[.int .i64 0, .slice (some ⟨g5, 0, none⟩) ns.length vc] 42)) SB ca cn cc (t' + 1) g5 vc ns) := hD5.step (below_box _); clear hD5)
        go_roundw
        case rel => exact ⟨k', (t' + 1), g5, vc, _, ns, by omega, by go_num, rfl, by omega, rfl, by show _ = _; rw [HNS.out.1]; exact HNS.out.2, HD6.out⟩
        case measure => simp [intOf]; try omega
      · have hcn : (cd == 0) = false := by simpa using hc0
        go_wp2_with (go_at_call 48; (with_reducible refine hadd.mono ?_); clear hadd; rintro e v5 ⟨va, vc, rfl, hr5, hb5⟩; have HR5 : Hid (v5.ownsRow (v2.alloc (.cells #[.int .i64 (1 + r), .int .i64 0, .int .i64 1] 40)).heap.size 40 3 (.slice va ns.length vc) ns.length (mcells ns)) := hr5; have HB5 : Hid (Below (v2.alloc (.cells #[.int .i64 (1 + r), .int .i64 0, .int .i64 1] 40)).heap.size (v2.alloc (.cells #[.int .i64 (1 + r), .int .i64 0, .int .i64 1] 40)) v5) := hb5; clear hr5 hb5; have HD6 : Hid (Dt w v (v5.alloc (.cells #[.int .i64 cd, .slice va ns.length vc] 42)) SB ca cn cc (t' + 1) g c ms) := (HD2.out.step HB5.out).step (below_box _))
        go_roundw
        case rel => exact ⟨k', (t' + 1), g, c, _, ms, by omega, by go_num, rfl, by omega, HN, HZ, HD6.out⟩
        case measure => simp [intOf]; try omega
    have hnp : (0 : Int) < (n : Int) := by omega
    have hn60 : n ≤ 60 := by rw [← HN.out]; exact tree_len HZ.out
    obtain ⟨mn, hmn⟩ : ∃ z : Int, z = if (3 : Int) < (n : Int) then 3 else (n : Int) := ⟨_, rfl⟩
    have hmb : 1 ≤ mn ∧ mn ≤ (n : Int) ∧ mn ≤ 3 := by rw [hmn]; split <;> omega
    have hmin : ∀ V, Calls Try.prog 47 #[.int .i64 3, .int .i64 (n : Int)] V fun e v' => e = .returned (.int .i64 mn) ∧ v' = V := fun V => by rw [hmn]; exact l1Min_any 3 n V
    clear hmn
    go_wp2_with (first
      | (go_at_call 32; have hq := hx; clear hx; (with_reducible refine hq.mono ?_); clear hq; rintro e v2 ⟨r, rfl, ⟨hr0, hr1⟩, hS, hc⟩; have hr2 : r < 20 := hr1 (by omega); clear hr1; have hwi := IntWalk.i64_in (1 + r) (by omega); have HD2 : Hid (Dt w v (v2.alloc (.cells #[.int .i64 (1 + r), .int .i64 0, .int .i64 1] 40)) SB ca cn cc (t' + 1) g c ms) := (HD.out.draw hS hc).step (below_box _); have HNB : Hid ((v2.alloc (.cells #[.int .i64 (1 + r), .int .i64 0, .int .i64 1] 40)).heap[v2.heap.size]? = some (.cells #[.int .i64 (1 + r), .int .i64 0, .int .i64 1] 40 (0, 0))) := heap_alloc_new _ _; have HV2 : Hid (v.heap.size ≤ v2.heap.size) := (HD.out.draw hS hc).chg.size; have HGN : Hid (g < v2.heap.size) := ((HD.out.draw hS hc).row.lt g rfl).2; have hch := l1Chance_any SB cn cc (t' + 1) ca l 5 w _ (by omega) (by omega) hcn HB.out HD2.out.src; clear hS hc)
      | (go_at_call 34; have hq := hch; clear hch; (with_reducible refine hq.mono ?_); clear hq; rintro e v3 ⟨cb, rfl, hS, hc⟩; have HD3 : Hid (Dt w v v3 SB ca cn cc (t' + 1 + 1) g c ms) := HD2.out.draw hS hc; have HNB3 : Hid (v3.heap[v2.heap.size]? = some (.cells #[.int .i64 (1 + r), .int .i64 0, .int .i64 1] 40 (0, 0))) := hc.keep1 HNB.out (by have := HD2.out.sl; have := HV2.out; omega); obtain ⟨y0, y1, y2⟩ := cells3 HNB3.out; have hx2 := l1Next_any SB cn cc (t' + 1 + 1) ca l mn w v3 (by omega) (by omega) hcn HB.out hS; clear hS hc)
      | (go_at_call 47; (with_reducible refine (hmin _).mono ?_); clear hmin; rintro e v' ⟨rfl, hw⟩; have hw2 := hw.symm; subst hw2)
      | (go_at_call 32; have hq := hx2; clear hx2; (with_reducible refine hq.mono ?_); clear hq; rintro e v4 ⟨r3, rfl, ⟨hs0, hs1⟩, hS, hc⟩; have hs2 : r3 < mn := hs1 hmb.1; clear hs1; have HD4 : Hid (Dt w v v4 SB ca cn cc (t' + 1 + 1 + 1) g c ms) := HD3.out.draw hS hc; have HNB4 : Hid (v4.heap[v2.heap.size]? = some (.cells #[.int .i64 (1 + r), .int .i64 0, .int .i64 1] 40 (0, 0))) := hc.keep1 HNB3.out (by have := HD2.out.sl; have := HV2.out; omega); obtain ⟨j, hjn, hjr, hjI⟩ : ∃ j : Nat, j < n ∧ r3 = (n : Int) - 1 - j ∧ (n : Int) - 1 - ((n : Int) - 1 - j) = j := ⟨((n : Int) - 1 - r3).toNat, (by omega), (by omega), (by omega)⟩; subst hjr; have hjb : (j : Int) < (n : Int) := (by omega); clear y0 y1 y2; obtain ⟨pk, pp, ph, z0, z1, z2, hpb, u1, u2, f1, f2, HNB5, HD5⟩ := node_back HD4.out HN.out HZ.out hjn HNB4.out HV2.out HGN.out; have hpw := IntWalk.i64_in (ph + 1) (by omega); obtain ⟨e0, e1, e2⟩ := cells3 HNB5.out; clear hS hc))
    · clear e0 e1 e2 z0 z1 z2 u1 u2 f1 f2
      obtain ⟨y0, y1, y2⟩ := cells3 HNB5.out
      obtain ⟨cd, hcd⟩ : ∃ z, z = (addNR ms ((1 + r), pk, (ph + 1))).1 := ⟨_, rfl⟩
      obtain ⟨ns, hns⟩ : ∃ z, z = (addNR ms ((1 + r), pk, (ph + 1))).2 := ⟨_, rfl⟩
      have hadd := sAddNode_any ms.length c g 0 ms (1 + r) pk (ph + 1) (((v4.alloc (.cells #[.int .i64 pk, .int .i64 pp, .int .i64 ph] 40)).setCell ⟨v2.heap.size, 1, none⟩ (.int .i64 pk)).setCell ⟨v2.heap.size, 2, none⟩ (.int .i64 (ph + 1))) (by have := tree_len HZ.out; omega) HD5.out.nat
      rw [HN.out] at hadd
      have HCD : Hid ((addNR ms ((1 + r), pk, (ph + 1))).1 = cd ∧ (addNR ms ((1 + r), pk, (ph + 1))).2 = ns) := ⟨hcd.symm, hns.symm⟩
      rw [← hcd, ← hns] at hadd
      clear hcd hns
      by_cases hc0 : cd = 0
      · subst hc0
        have hat := add_tree HZ.out HCD.out.1
        have HNS : Hid (ns = ms ++ [((1 + r), pk, (ph + 1))] ∧ treeR (ms ++ [((1 + r), pk, (ph + 1))]) = 0) := ⟨HCD.out.2.symm.trans hat.1, hat.2⟩
        clear hat
        go_wp2_with (go_at_call 48; (with_reducible refine hadd.mono ?_); clear hadd; rintro e v5 ⟨va, vc, rfl, hr5, hb5⟩; have HR5 : Hid (v5.ownsRow (((v4.alloc (.cells #[.int .i64 pk, .int .i64 pp, .int .i64 ph] 40)).setCell ⟨v2.heap.size, 1, none⟩ (.int .i64 pk)).setCell ⟨v2.heap.size, 2, none⟩ (.int .i64 (ph + 1))).heap.size 40 3 (.slice va ns.length vc) ns.length (mcells ns)) := hr5; have HB5 : Hid (Below (((v4.alloc (.cells #[.int .i64 pk, .int .i64 pp, .int .i64 ph] 40)).setCell ⟨v2.heap.size, 1, none⟩ (.int .i64 pk)).setCell ⟨v2.heap.size, 2, none⟩ (.int .i64 (ph + 1))).heap.size (((v4.alloc (.cells #[.int .i64 pk, .int .i64 pp, .int .i64 ph] 40)).setCell ⟨v2.heap.size, 1, none⟩ (.int .i64 pk)).setCell ⟨v2.heap.size, 2, none⟩ (.int .i64 (ph + 1))) v5) := hb5; clear hr5 hb5; obtain ⟨g5, eg, hD5⟩ := HD5.out.new HB5.out (Nat.le_trans HD5.out.chg.size (Nat.le_refl _)) HR5.out (by rw [HNS.out.1]; simp); subst eg; have HD6 : Hid (Dt w v (v5.alloc (.cells #[.int .i64 0, .slice (some ⟨g5, 0, none⟩) ns.length vc] 42)) SB ca cn cc (t' + 1 + 1 + 1) g5 vc ns) := hD5.step (below_box _); clear hD5)
        go_roundw
        case rel => exact ⟨k', (t' + 1 + 1 + 1), g5, vc, _, ns, by omega, by go_num, rfl, by omega, rfl, by show _ = _; rw [HNS.out.1]; exact HNS.out.2, HD6.out⟩
        case measure => simp [intOf]; try omega
      · have hcn : (cd == 0) = false := by simpa using hc0
        go_wp2_with (go_at_call 48; (with_reducible refine hadd.mono ?_); clear hadd; rintro e v5 ⟨va, vc, rfl, hr5, hb5⟩; have HR5 : Hid (v5.ownsRow (((v4.alloc (.cells #[.int .i64 pk, .int .i64 pp, .int .i64 ph] 40)).setCell ⟨v2.heap.size, 1, none⟩ (.int .i64 pk)).setCell ⟨v2.heap.size, 2, none⟩ (.int .i64 (ph + 1))).heap.size 40 3 (.slice va ns.length vc) ns.length (mcells ns)) := hr5; have HB5 : Hid (Below (((v4.alloc (.cells #[.int .i64 pk, .int .i64 pp, .int .i64 ph] 40)).setCell ⟨v2.heap.size, 1, none⟩ (.int .i64 pk)).setCell ⟨v2.heap.size, 2, none⟩ (.int .i64 (ph + 1))).heap.size (((v4.alloc (.cells #[.int .i64 pk, .int .i64 pp, .int .i64 ph] 40)).setCell ⟨v2.heap.size, 1, none⟩ (.int .i64 pk)).setCell ⟨v2.heap.size, 2, none⟩ (.int .i64 (ph + 1))) v5) := hb5; clear hr5 hb5; have HD6 : Hid (Dt w v (v5.alloc (.cells #[.int .i64 cd, .slice va ns.length vc] 42)) SB ca cn cc (t' + 1 + 1 + 1) g c ms) := (HD5.out.step HB5.out).step (below_box _))
        go_roundw
        case rel => exact ⟨k', (t' + 1 + 1 + 1), g, c, _, ms, by omega, by go_num, rfl, by omega, HN, HZ, HD6.out⟩
        case measure => simp [intOf]; try omega
    · clear y0 y1 y2
      obtain ⟨y0, y1, y2⟩ := cells3 HNB3.out
      obtain ⟨cd, hcd⟩ : ∃ z, z = (addNR ms ((1 + r), 0, 1)).1 := ⟨_, rfl⟩
      obtain ⟨ns, hns⟩ : ∃ z, z = (addNR ms ((1 + r), 0, 1)).2 := ⟨_, rfl⟩
      have hadd := sAddNode_any ms.length c g 0 ms (1 + r) 0 1 v3 (by have := tree_len HZ.out; omega) HD3.out.nat
      rw [HN.out] at hadd
      have HCD : Hid ((addNR ms ((1 + r), 0, 1)).1 = cd ∧ (addNR ms ((1 + r), 0, 1)).2 = ns) := ⟨hcd.symm, hns.symm⟩
      rw [← hcd, ← hns] at hadd
      clear hcd hns
      by_cases hc0 : cd = 0
      · subst hc0
        have hat := add_tree HZ.out HCD.out.1
        have HNS : Hid (ns = ms ++ [((1 + r), 0, 1)] ∧ treeR (ms ++ [((1 + r), 0, 1)]) = 0) := ⟨HCD.out.2.symm.trans hat.1, hat.2⟩
        clear hat
        go_wp2_with (go_at_call 48; (with_reducible refine hadd.mono ?_); clear hadd; rintro e v5 ⟨va, vc, rfl, hr5, hb5⟩; have HR5 : Hid (v5.ownsRow v3.heap.size 40 3 (.slice va ns.length vc) ns.length (mcells ns)) := hr5; have HB5 : Hid (Below v3.heap.size v3 v5) := hb5; clear hr5 hb5; obtain ⟨g5, eg, hD5⟩ := HD3.out.new HB5.out (Nat.le_trans HD3.out.chg.size (Nat.le_refl _)) HR5.out (by rw [HNS.out.1]; simp); subst eg; have HD6 : Hid (Dt w v (v5.alloc (.cells #[.int .i64 0, .slice (some ⟨g5, 0, none⟩) ns.length vc] 42)) SB ca cn cc (t' + 1 + 1) g5 vc ns) := hD5.step (below_box _); clear hD5)
        go_roundw
        case rel => exact ⟨k', (t' + 1 + 1), g5, vc, _, ns, by omega, by go_num, rfl, by omega, rfl, by show _ = _; rw [HNS.out.1]; exact HNS.out.2, HD6.out⟩
        case measure => simp [intOf]; try omega
      · have hcn : (cd == 0) = false := by simpa using hc0
        go_wp2_with (go_at_call 48; (with_reducible refine hadd.mono ?_); clear hadd; rintro e v5 ⟨va, vc, rfl, hr5, hb5⟩; have HR5 : Hid (v5.ownsRow v3.heap.size 40 3 (.slice va ns.length vc) ns.length (mcells ns)) := hr5; have HB5 : Hid (Below v3.heap.size v3 v5) := hb5; clear hr5 hb5; have HD6 : Hid (Dt w v (v5.alloc (.cells #[.int .i64 cd, .slice va ns.length vc] 42)) SB ca cn cc (t' + 1 + 1) g c ms) := (HD3.out.step HB5.out).step (below_box _))
        go_roundw
        case rel => exact ⟨k', (t' + 1 + 1), g, c, _, ms, by omega, by go_num, rfl, by omega, HN, HZ, HD6.out⟩
        case measure => simp [intOf]; try omega

end Go.Proofs.Ytinlhghlmfcbfaa
