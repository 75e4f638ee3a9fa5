/- A tree that is drawn, right or bent; numbers of nodes. -/
import Derived.Test.YtinlhghlmfcbfaaWb
namespace Go.Proofs.Ytinlhghlmfcbfaa
open Go.RowKit Go.Maps Go.WideMaps

theorem iatN2 (V : World) (a b : Int) : IAt (V.alloc (.cells #[.int .i64 a, .int .i64 b] 2)) (some ⟨V.heap.size, 0, none⟩) 2 [a, b] :=
  ⟨rfl, .inr ⟨V.heap.size, 0, rfl, by simp, fun j hj => by
    have h := heap_alloc_new V (.cells #[.int .i64 a, .int .i64 b] 2)
    match j, hj with
    | 0, _ => unfold World.cell?; rw [h]; rfl
    | 1, _ => unfold World.cell?; rw [h]; rfl⟩⟩
theorem iatN3 (V : World) (a b c : Int) : IAt (V.alloc (.cells #[.int .i64 a, .int .i64 b, .int .i64 c] 2)) (some ⟨V.heap.size, 0, none⟩) 3 [a, b, c] :=
  ⟨rfl, .inr ⟨V.heap.size, 0, rfl, by simp, fun j hj => by
    have h := heap_alloc_new V (.cells #[.int .i64 a, .int .i64 b, .int .i64 c] 2)
    match j, hj with
    | 0, _ => unfold World.cell?; rw [h]; rfl
    | 1, _ => unfold World.cell?; rw [h]; rfl
    | 2, _ => unfold World.cell?; rw [h]; rfl⟩⟩
theorem wf_lim {a : Int} (h0 : -1000 ≤ a) (h1 : a ≤ 1000) : (Lit.int .i64 a).wf = true := WalkArith.wf_i64 (by omega)
theorem fineN_of {ms : List Mb} (h : ∀ j, j < ms.length → (Lit.int .i64 (ms.getD j Z3).1).wf = true ∧ (Lit.int .i64 (ms.getD j Z3).2.1).wf = true ∧ (Lit.int .i64 (ms.getD j Z3).2.2).wf = true) : FineN ms := fun j => by
  by_cases hj : j < ms.length
  · exact h j hj
  · have : ms.getD j Z3 = Z3 := by rw [List.getD, List.getElem?_eq_none (by omega)]; rfl
    rw [this]
    exact ⟨wf_lim (by decide) (by decide), wf_lim (by decide) (by decide), wf_lim (by decide) (by decide)⟩
theorem fine_tree {ms : List Mb} (h : treeR ms = 0) : FineN ms := fineN_of fun j hj => by
  have hn := tree_node h hj
  have hid := inB_true.1 (node_ok hn).1
  have hht := nodeR_ht hn
  refine ⟨wf_lim (by omega) (by omega), ?_, wf_lim (by omega) (by omega)⟩
  rcases prev_lt h hj with e | ⟨e1, e2⟩
  · rw [e]; exact wf_lim (by decide) (by decide)
  · rcases nAt_lt ms (ms.getD j Z3).2.1 with q | ⟨i, q1, q2, q3⟩
    · omega
    · have := inB_true.1 (node_ok (tree_node h q1)).1
      rw [q3] at this
      exact wf_lim (by omega) (by omega)
theorem fine_snoc {ms : List Mb} {o : Mb} (h : FineN ms) (h1 : (Lit.int .i64 o.1).wf = true) (h2 : (Lit.int .i64 o.2.1).wf = true) (h3 : (Lit.int .i64 o.2.2).wf = true) : FineN (ms ++ [o]) := fineN_of fun j hj => by
  by_cases e : j < ms.length
  · have : (ms ++ [o]).getD j Z3 = ms.getD j Z3 := by simp [List.getD, List.getElem?_append_left e]
    rw [this]; exact h j
  · have ej : j = ms.length := by simp at hj; omega
    have : (ms ++ [o]).getD j Z3 = o := by simp [List.getD, ej]
    rw [this]; exact ⟨h1, h2, h3⟩
def bent1 (ms : List Mb) (x : Int) : List Mb := ms.set 1 ((ms.getD 1 Z3).1, x, (ms.getD 1 Z3).2.2)
theorem mcells_bent {ms : List Mb} (h : 1 < ms.length) (x : Int) : (mcells ms).set 4 (.int .i64 x) = mcells (bent1 ms x) := by
  match ms, h with
  | a :: b :: t, _ => simp [mcells, bent1]
theorem fine_bent {ms : List Mb} (h : FineN ms) {x : Int} (hx : (Lit.int .i64 x).wf = true) : FineN (bent1 ms x) := fineN_of fun j hj => by
  unfold bent1 at hj ⊢
  by_cases e : j = 1
  · subst e
    have : (ms.set 1 ((ms.getD 1 Z3).1, x, (ms.getD 1 Z3).2.2)).getD 1 Z3 = ((ms.getD 1 Z3).1, x, (ms.getD 1 Z3).2.2) := by rw [List.getD, List.getElem?_set_self (by simpa using hj)]; rfl
    rw [this]
    exact ⟨(h 1).1, hx, (h 1).2.2⟩
  · have : (ms.set 1 ((ms.getD 1 Z3).1, x, (ms.getD 1 Z3).2.2)).getD j Z3 = ms.getD j Z3 := by simp only [List.getD]; rw [List.getElem?_set_ne (fun q => e q.symm)]
    rw [this]; exact h j
theorem made61 : (madeCells (Value.agg #[.int .i64 0, .int .i64 0, .int .i64 0]).cells (61 * 3)).toList = mcells (List.replicate 61 Z3) := by kernel_rfl
theorem fine_zero : FineN (List.replicate 61 Z3) := fun j => by
  have : (List.replicate 61 Z3).getD j Z3 = Z3 := by
    rw [List.getD, List.getElem?_replicate]
    split <;> rfl
  rw [this]
  exact ⟨wf_lim (by decide) (by decide), wf_lim (by decide) (by decide), wf_lim (by decide) (by decide)⟩
def KT (ms : List Mb) : Prop := FineN ms ∧ ms.length ≤ 61
theorem Dt.bent {w v V : World} {SB : Nat} {ca : Option Addr} {cn cc t g c : Nat} {ms : List Mb} (h : Dt w v V SB ca cn cc t g c ms) (hl : 1 < ms.length) (x : Int) : Dt w v (V.setCell ⟨g, 4, none⟩ (.int .i64 x)) SB ca cn cc t g c (bent1 ms x) := by
  have hgb := (h.row.lt g rfl).1
  have hs : g ≠ SB := by have := h.sl; omega
  have hl2 : (bent1 ms x).length = ms.length := by simp [bent1]
  refine ⟨⟨(Below.heap_setCell _ ⟨g, 4, none⟩ _ SB (Ne.symm hs)).trans h.src.box, h.src.bel.setCell (p := ⟨g, 4, none⟩) (Nat.le_trans (Nat.le_trans h.src.sb (Nat.le_of_lt h.sl)) hgb) _, h.src.sb⟩, ⟨h.chg.os, h.chg.tape, h.chg.output, by simpa using h.chg.size, fun k hk ho => (Below.heap_setCell _ ⟨g, 4, none⟩ _ k (show k ≠ g by omega)).trans (h.chg.block k hk ho)⟩, ?_, h.sl⟩
  rw [hl2, ← mcells_bent hl]
  exact (h.row.stored 4 (.int .i64 x)).1

set_option maxRecDepth 20000 in
set_option maxHeartbeats 4000000 in
theorem l9Bent_any (SB cn cc t : Nat) (ca : Option Addr) (l : List Int) (w v : World) (ht : t ≤ 700) (hcn : cn ≤ 1048576) (hB : BAt w ca cn l) (h : Src w v SB ca cn cc t) :
    Calls Try.prog 31 #[.pointer (some ⟨SB, 0, none⟩)] v fun e v' => OutDt w v SB ca cn cc (t + 50) e v' KT := by
  have HB : Hid (BAt w ca cn l) := hB
  have hr := l9Right_any SB cn cc t ca l w v (by omega) hcn hB h
  obtain ⟨i0, hi, hz0, hz1, hz2⟩ := info_parts Try.infoNd
  clear h hB
  go_enter Try.func31, Try.ntmps31
  go_wp2_with (go_at_call 41; (with_reducible refine hr.mono ?_); clear hr; rintro e v1 ⟨t1, g, c, ms, rfl, ht1, hz, hD⟩; obtain ⟨n, hn⟩ : ∃ n, n = ms.length := ⟨_, rfl⟩; rw [← hn]; have HN : Hid (ms.length = n) := hn.symm; have HZ : Hid (treeR ms = 0) := hz; have HD : Hid (Dt w v v1 SB ca cn cc t1 g c ms) := hD; clear hn hz hD)
  have hx := l1Next_any SB cn cc t1 ca l 14 w v1 (by omega) (by omega) hcn HB.out HD.out.src
  refine hx.mono ?_
  clear hx
  rintro e v2 ⟨r, rfl, _, hS2, hc2⟩
  have HD2 : Hid (Dt w v v2 SB ca cn cc (t1 + 1) g c ms) := HD.out.draw hS2 hc2
  have hn60 : n ≤ 60 := by rw [← HN.out]; exact tree_len HZ.out
  clear hS2 hc2
  by_cases h0 : r = 0
  · subst h0
    have hp1 := l1Pick_any SB cn cc (t1 + 1) 3 3 ca (some ⟨v2.heap.size, 0, none⟩) l [0, 61, 30] w (v2.alloc (.cells #[.int .i64 0, .int .i64 61, .int .i64 30] 2)) (by omega) (by omega) (by omega) hcn HB.out (HD2.out.step (below_box _)).src (iatN3 _ _ _ _) (fun b o e => by cases e; have := HD2.out.sl; have := HD2.out.chg.size; omega)
    go_wp2_with (first
      | (go_at_call 42; have hq := hp1; clear hp1; (with_reducible refine hq.mono ?_); clear hq; rintro e v3 ⟨q1, rfl, hm1, hS, hc⟩; have HD3 : Hid (Dt w v v3 SB ca cn cc (t1 + 1 + 1) g c ms) := (HD2.out.step (below_box _)).draw hS hc; have hp2 := l1Pick_any SB cn cc (t1 + 1 + 1) 2 2 ca (some ⟨v3.heap.size, 0, none⟩) l [0, 59] w (v3.alloc (.cells #[.int .i64 0, .int .i64 59] 2)) (by omega) (by omega) (by omega) hcn HB.out (HD3.out.step (below_box _)).src (iatN2 _ _ _) (fun b o e => (by cases e; have := HD3.out.sl; have := HD3.out.chg.size; omega)); have HM1 : Hid (q1 ∈ [(0 : Int), 61, 30]) := hm1; clear hS hc hm1)
      | (go_at_call 42; have hq := hp2; clear hp2; (with_reducible refine hq.mono ?_); clear hq; rintro e v4 ⟨q2, rfl, hm2, hS, hc⟩; have HD4 : Hid (Dt w v v4 SB ca cn cc (t1 + 1 + 1 + 1) g c ms) := (HD3.out.step (below_box _)).draw hS hc; have hp3 := l1Pick_any SB cn cc (t1 + 1 + 1 + 1) 3 3 ca (some ⟨v4.heap.size, 0, none⟩) l [1, 0, 41] w (v4.alloc (.cells #[.int .i64 1, .int .i64 0, .int .i64 41] 2)) (by omega) (by omega) (by omega) hcn HB.out (HD4.out.step (below_box _)).src (iatN3 _ _ _ _) (fun b o e => (by cases e; have := HD4.out.sl; have := HD4.out.chg.size; omega)); have HM2 : Hid (q2 ∈ [(0 : Int), 59]) := hm2; clear hS hc hm2)
      | (go_at_call 42; have hq := hp3; clear hp3; (with_reducible refine hq.mono ?_); clear hq; rintro e v5 ⟨q3, rfl, hm3, hS, hc⟩; have HD5 : Hid (Dt w v v5 SB ca cn cc (t1 + 1 + 1 + 1 + 1) g c ms) := (HD4.out.step (below_box _)).draw hS hc; have HM3 : Hid (q3 ∈ [(1 : Int), 0, 41]) := hm3; obtain ⟨g6, c6, v6, hrun, HC6⟩ := node_added (o := (q1, q2, q3)) (X := v5.heap.size) (HD5.out.row.alloc (.cells #[.int .i64 q1, .int .i64 q2, .int .i64 q3] 40)) (heap_alloc_new _ _) (by rw [HN.out]; omega) (by have := HD5.out.chg.size; simp; omega); rw [HN.out] at hrun; have hb6 : Below v.heap.size v5 v6 := ((below_box (.cells #[.int .i64 q1, .int .i64 q2, .int .i64 q3] 40)).mono HD5.out.chg.size).grown HC6.out.2 (by have := HD5.out.chg.size; simp; omega) (fun k hk => (HD5.out.row.lt k hk).1); have HD6 : Hid (Dt w v v6 SB ca cn cc (t1 + 1 + 1 + 1 + 1) g6 c6 (ms ++ [(q1, q2, q3)])) := ⟨⟨(hb6.block SB HD5.out.sl).trans HD5.out.src.box, HD5.out.src.bel.trans (hb6.mono (Nat.le_trans HD5.out.src.sb (Nat.le_of_lt HD5.out.sl))), HD5.out.src.sb⟩, HD5.out.chg.moreB hb6 (Nat.le_refl _), by rw [show (ms ++ [(q1, q2, q3)]).length = ms.length + 1 by simp]; exact HC6.out.1, HD5.out.sl⟩; clear hS hc hm3 hb6)
      | (at_builtin; go_must (refine wpList_append_runC (by rfl) _ _ _ (by rfl) (by rfl) (by rfl) hrun ?_); clear hrun))
    go_ret
    have f1 : -1000 ≤ q1 ∧ q1 ≤ 1000 := by have := HM1.out; simp at this; omega
    have f2 : -1000 ≤ q2 ∧ q2 ≤ 1000 := by have := HM2.out; simp at this; omega
    have f3 : -1000 ≤ q3 ∧ q3 ≤ 1000 := by have := HM3.out; simp at this; omega
    exact ⟨_, g6, c6, ms ++ [(q1, q2, q3)], by rw [show (ms ++ [(q1, q2, q3)]).length = n + 1 by simp; exact HN.out]; rfl, by omega, ⟨fine_snoc (fine_tree HZ.out) (wf_lim f1.1 f1.2) (wf_lim f2.1 f2.2) (wf_lim f3.1 f3.2), by have := HN.out; simp; omega⟩, HD6.out⟩
  have h0b : (r == 0) = false := by simpa using h0
  by_cases h1 : r = 1
  · subst h1
    by_cases hn1 : 1 < n
    · obtain ⟨m, rfl⟩ : ∃ m, n = m + 1 := ⟨n - 1, by omega⟩
      obtain ⟨x, hx⟩ : ∃ x, x = (ms.getD m Z3).1 := ⟨_, rfl⟩
      have hat := mcells_at ms m (by rw [HN.out]; omega)
      have hat1 := mcells_at ms 1 (by rw [HN.out]; omega)
      have z0 : v2.cell? ⟨g, m * 3, none⟩ = some (.int .i64 x) := (HD2.out.row.cellAt (m * 3) (by rw [HN.out]; omega)).trans (by rw [hat.1, hx])
      have z1 : v2.cell? ⟨g, 4, none⟩ = some (.int .i64 (ms.getD 1 Z3).2.1) := (HD2.out.row.cellAt 4 (by rw [HN.out]; omega)).trans hat1.2.1
      have z2 : v2.frozen? ⟨g, 4, none⟩ = false := HD2.out.row.frozenAt _
      have HD3 : Hid (Dt w v (v2.setCell ⟨g, 4, none⟩ (.int .i64 x)) SB ca cn cc (t1 + 1) g c (bent1 ms x)) := HD2.out.bent (by rw [HN.out]; exact hn1) x
      have HX : Hid ((Lit.int .i64 x).wf = true) := by rw [hx]; exact ((fine_tree HZ.out) m).1
      have hmI : (m : Int) < ((m : Int) + 1) := by omega
      have hm1 : (1 : Int) < ((m : Int) + 1) := by omega
      clear hat hat1 hx
      go_wp2_with fail
      go_ret
      exact ⟨_, g, c, bent1 ms x, by rw [show (bent1 ms x).length = m + 1 by simp [bent1]; exact HN.out]; rfl, by omega, ⟨fine_bent (fine_tree HZ.out) HX.out, by have := HN.out; simp [bent1]; omega⟩, HD3.out⟩
    · have hm1 : ¬ (1 : Int) < (n : Int) := by omega
      go_wp2_with fail
      go_ret
      exact ⟨_, g, c, ms, by rw [HN.out]; rfl, by omega, ⟨fine_tree HZ.out, by have := HN.out; omega⟩, HD2.out⟩
  have h1b : (r == 1) = false := by simpa using h1
  by_cases h2 : r = 2
  · subst h2
    go_wp2_with (first
      | (at_make; refine wpList_make_full _ rfl _ _ 24 rfl v2.heap.size 40 i0 (.agg #[.int .i64 0, .int .i64 0, .int .i64 0]) 3 Try.underlying24 hi hz0 hz1 _ _ _ _ 61 rfl rfl (by omega) (by omega) (by rw [hz2]; omega) (by unfold maxLen; omega) (Nat.le_refl _) ?_; intro v9 ho9 hg9; have hb9 : Below v2.heap.size v2 v9 := (Below.refl _ _).grown hg9 (Nat.le_refl _) (fun k h => (by cases h)); rw [made61] at ho9; obtain ⟨g9, eg, hD9⟩ := HD2.out.new hb9 HD2.out.chg.size (ns := List.replicate 61 Z3) ho9 (by simp); have HD9 : Hid (Dt w v v9 SB ca cn cc (t1 + 1) g9 61 (List.replicate 61 Z3)) := hD9; have HEG : Hid (v2.heap.size = g9) := (by injection eg with e1; injection e1); clear hb9 hD9 ho9 hg9 eg))
    go_ret
    exact ⟨t1 + 1, v2.heap.size, 61, List.replicate 61 Z3, rfl, by omega, ⟨fine_zero, by simp⟩, by have := HD9.out; rw [← HEG.out] at this; exact this⟩
  have h2b : (r == 2) = false := by simpa using h2
  go_wp2_with fail
  go_ret
  exact ⟨_, g, c, ms, by rw [HN.out]; rfl, by omega, ⟨fine_tree HZ.out, by have := HN.out; omega⟩, HD2.out⟩

end Go.Proofs.Ytinlhghlmfcbfaa
