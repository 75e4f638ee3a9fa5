/- The program's bench: who is inserted among others. -/
import Derived.Test.YtgfhnmjpkanikaaEq
namespace Go.Proofs.Ytgfhnmjpkanikaa
open Go.RowKit Go.Maps Go.WideMaps

/-- The cells behind both copies are those of the list with one more. -/
theorem ins_cells {xs ys zs : List Value} {ms : List Mb} {x : Mb} {n i : Nat} (hl : ms.length = n) (hi : i < n) (_hy : ys.length = (n + 1) * 3) (hz : zs.length = (n + 1) * 3) (hx : ∀ t, t < i * 3 → xs[t]? = (mcells ms)[t]?)
    (h1 : ∀ t, ys[t]? = if t < (i + 1) * 3 then xs[t]? else if t < (i + 1) * 3 + (mcells (ms.drop i)).length then (mcells (ms.drop i))[t - (i + 1) * 3]? else xs[t]?)
    (h2 : ∀ t, zs[t]? = if t < i * 3 then ys[t]? else if t < i * 3 + ([.int .i64 x.1, .int .i64 x.2.1, .int .i64 x.2.2] : List Value).length then ([.int .i64 x.1, .int .i64 x.2.1, .int .i64 x.2.2] : List Value)[t - i * 3]? else ys[t]?) : zs = mcells (ms.take i ++ x :: ms.drop i) := by
  have hdl : (mcells (ms.drop i)).length = (n - i) * 3 := by rw [mcells_length, List.length_drop, hl]
  have htl : (mcells (ms.take i)).length = i * 3 := by rw [mcells_length, List.length_take]; omega
  have he : mcells (ms.take i ++ x :: ms.drop i) = mcells (ms.take i) ++ ([.int .i64 x.1, .int .i64 x.2.1, .int .i64 x.2.2] ++ mcells (ms.drop i)) := by
    rw [mcells_append]
    congr 1
  rw [he]
  apply List.ext_getElem?
  intro t
  have h3 : ([.int .i64 x.1, .int .i64 x.2.1, .int .i64 x.2.2] : List Value).length = 3 := rfl
  rw [h2 t, h3]
  by_cases a : t < i * 3
  · rw [if_pos a, h1 t, if_pos (by omega), List.getElem?_append_left (by omega), hx t a, ← mcells_take, List.getElem?_take_of_lt a]
  · rw [if_neg a, List.getElem?_append_right (by omega), htl]
    by_cases b : t < i * 3 + 3
    · rw [if_pos b, List.getElem?_append_left (by rw [h3]; omega)]
    · rw [if_neg b, List.getElem?_append_right (by rw [h3]; omega), h3, h1 t, if_neg (by omega), hdl]
      by_cases c : t < (i + 1) * 3 + (n - i) * 3
      · rw [if_pos c, show t - (i + 1) * 3 = t - i * 3 - 3 by omega]
      · rw [if_neg c, List.getElem?_eq_none (l := mcells (ms.drop i)) (by rw [hdl]; omega)]
        have := h2 t
        rw [if_neg a, h3, if_neg b, h1 t, if_neg (by omega), hdl, if_neg c] at this
        rw [← this, List.getElem?_eq_none (by omega)]

set_option maxRecDepth 20000 in
set_option maxHeartbeats 4000000 in
theorem insertShift_any (g n cap lo X i : Nat) (ms : List Mb) (x : Mb) (w : World) (hn : n ≤ 500) (hi : i < n) (hroom : n + 1 ≤ cap) (h : w.ownsRow lo 68 3 (.slice (some ⟨g, 0, none⟩) n cap) n (mcells ms)) (hX : w.heap[X]? = some (.cells #[.int .i64 x.1, .int .i64 x.2.1, .int .i64 x.2.2] 68 (0, 0))) (hXg : X ≠ g) :
    Calls Try.prog 63 #[.slice (some ⟨g, 0, none⟩) n cap, .int .i64 i, .slice (some ⟨X, 0, none⟩) 1 1] w fun e w' => InsO w w' e lo (.slice (some ⟨g, 0, none⟩) n cap) (ms.take i ++ x :: ms.drop i) := by
  have hl := own_len h
  obtain ⟨_, hq2⟩ := row_cap h
  obtain ⟨xs, hE0, hxs, kB, hsb⟩ : ∃ xs, w.ownsRow lo 68 3 (.slice (some ⟨g, 0, none⟩) (n + 1) cap) (n + 1) xs ∧ xs.take (n * 3) = mcells ms ∧ ∃ kB, w.shape? g = some (68, kB) ∧ kB ≠ 0 := by
    rcases h.2 with ⟨e, _⟩ | ⟨g', cap', cur, e, h1, h2, h3, h4, h5, h6⟩
    · cases e
    · cases e
      refine ⟨cur.toList.take ((n + 1) * 3), ⟨by rw [List.length_take, Array.length_toList, h5]; omega, .inr ⟨g, cap, cur, rfl, h1, h2, hroom, h4, h5, rfl⟩⟩, ?_, cap * 3, ?_, by omega⟩
      · rw [List.take_take, show min (n * 3) ((n + 1) * 3) = n * 3 by omega, h6]
      · unfold World.shape?; rw [h2]; simp [h5]
  have hsa : w.shape? X = some (68, 3) := by unfold World.shape?; rw [hX]; rfl
  have hov : ∀ lb cb, (callFunc 72 #[.slice (some ⟨X, 0, none⟩) 1 1, .slice (some ⟨g, (i + 1) * 3, none⟩) lb cb]).run Try.prog w = .ok (.value (.bool false)) w := fun lb cb => by
    rw [run_callFunc_extern Try.func72 (by kernel_rfl) (by kernel_rfl) (by kernel_rfl) (e := Extern.SlicesOverlaps.overlaps #[52, 52] #[4]) (by kernel_rfl),
      Lib.run_overlaps_apart w 52 4 68 Try.underlying52 3 (fun w => by kernel_rfl) ⟨X, 0, none⟩ ⟨g, (i + 1) * 3, none⟩ 1 1 lb cb hXg 68 68 3 kB hsa hsb.1 hsb.2 (Joins.unfrozen_of_block hX 0) (Joins.unfrozen_of_block hX 3)]
    rfl
  have hbd : Below w.heap.size w w.drew := (Below.refl _ _).drew
  have hE : w.drew.ownsRow lo 68 3 (.slice (some ⟨g, 0, none⟩) (n + 1) cap) (n + 1) xs := hE0.kept (grown_of_below hbd) (by cases Value.ownBlock (.slice (some ⟨g, 0, none⟩) (n + 1) cap) <;> simp)
  have hxl := hE.1
  have hxe : ∀ t, t < n * 3 → xs[t]? = (mcells ms)[t]? := fun t ht => by rw [← hxs, List.getElem?_take_of_lt ht]
  have hdl : (mcells (ms.drop i)).length = (n - i) * 3 := by rw [mcells_length, List.length_drop, hl]
  obtain ⟨ys, hY, hy, hgY⟩ := setCells_full (mcells (ms.drop i)) ((i + 1) * 3) w.drew xs hE (by rw [hdl]; omega)
  obtain ⟨zs, hZ, hz, hgZ⟩ := setCells_full [.int .i64 x.1, .int .i64 x.2.1, .int .i64 x.2.2] (i * 3) (w.drew.setCells g ((i + 1) * 3) (mcells (ms.drop i))) ys hY (by show i * 3 + 3 ≤ _; omega)
  have hcp1 : ∀ ty dl dc sl sc, dl = n - i → sl = n + 1 - i → (Builtin.copy_ #[53, 53] ty #[.slice (some ⟨g, (i + 1) * 3, none⟩) dl dc, .slice (some ⟨g, i * 3, none⟩) sl sc]).run Try.prog w.drew = .ok (goInt ((n - i : Nat) : Int)) (w.drew.setCells g ((i + 1) * 3) (mcells (ms.drop i))) := fun ty dl dc sl sc hdl1 hsl1 =>
    run_copy3 53 53 ty Try.underlying53 g ((i + 1) * 3) dl dc ⟨g, i * 3, none⟩ sl sc (n - i) (mcells (ms.drop i)) (by simp only [Nat.min_def]; split <;> omega) hdl
      (fun j v hj => by
        have hjl := (List.getElem?_eq_some_iff.1 hj).1
        rw [hdl] at hjl
        have ea : (⟨g, i * 3, none⟩ : Addr).add j = ⟨g, i * 3 + j, none⟩ := by simp [Addr.add]
        rw [ea, hE.cellAt _ (by omega), hxe _ (by omega)]
        rw [← mcells_drop, List.getElem?_drop] at hj
        exact hj)
      (fun j hj => by rw [hdl] at hj; rw [hE.cellAt _ (by omega), List.getElem?_eq_getElem (by omega)]; rfl) (fun j _ => hE.frozenAt _) mcells_one
  obtain ⟨W1, hW1⟩ : ∃ W, W = w.drew.setCells g ((i + 1) * 3) (mcells (ms.drop i)) := ⟨_, rfl⟩
  rw [← hW1] at hcp1 hY hZ hgY hgZ
  have hX1 : W1.heap[X]? = some (.cells #[.int .i64 x.1, .int .i64 x.2.1, .int .i64 x.2.2] 68 (0, 0)) := (hgY.block X (lt_of_block hX) (fun e => hXg (Option.some.inj e))).trans hX
  have hcp2 : ∀ ty dl dc, dl = n + 1 - i → (Builtin.copy_ #[53, 52] ty #[.slice (some ⟨g, i * 3, none⟩) dl dc, .slice (some ⟨X, 0, none⟩) 1 1]).run Try.prog W1 = .ok (goInt 1) (W1.setCells g (i * 3) [.int .i64 x.1, .int .i64 x.2.1, .int .i64 x.2.2]) := fun ty dl dc hdl2 =>
    run_copy3 53 52 ty Try.underlying53 g (i * 3) dl dc ⟨X, 0, none⟩ 1 1 1 [.int .i64 x.1, .int .i64 x.2.1, .int .i64 x.2.2] (by simp only [Nat.min_def]; split <;> omega) rfl (World.news_of_block hX1)
      (fun j hj => by have hj' : j < 3 := hj; have hyl := hY.1; rw [hY.cellAt _ (by omega), List.getElem?_eq_getElem (by omega)]; rfl) (fun j _ => hY.frozenAt _) (fun v hv => by simp only [List.mem_cons, List.not_mem_nil, or_false] at hv; rcases hv with rfl | rfl | rfl <;> rfl)
  have HFI : Hid (InsO w (W1.setCells g (i * 3) [.int .i64 x.1, .int .i64 x.2.1, .int .i64 x.2.2]) (.returned (.slice (some ⟨g, 0, none⟩) (n + 1) cap)) lo (.slice (some ⟨g, 0, none⟩) n cap) (ms.take i ++ x :: ms.drop i)) := by
    have e : (ms.take i ++ x :: ms.drop i).length = n + 1 := by rw [List.length_append, List.length_take, List.length_cons, List.length_drop, hl]; omega
    have ez : zs = mcells (ms.take i ++ x :: ms.drop i) := ins_cells hl hi hY.1 hZ.1 (fun t ht => hxe t (by omega)) hy hz
    refine ⟨g, cap, by rw [e], ?_, ?_⟩
    · rw [e, ← ez]; exact hZ
    · exact grownBy_of (grown_of_below hbd) (grown_trans hgY hgZ)
  have hcpA := fun ty => hcp1 ty (n - i) (cap - (i + 1)) (n + 1 - i) (cap - i) rfl rfl
  have hcpB := fun ty => hcp2 ty (n + 1 - i) (cap - i) rfl
  clear hcp1 hcp2
  unfold maxLen at hq2
  have k1 : ¬ (i : Int) = (n : Int) := by omega
  have k2 : ¬ (cap : Int) < (n : Int) + 1 := by omega
  have k3 : (0 : Int) ≤ (n : Int) + 1 := by omega
  have k4 : ((n : Int) + 1).toNat = n + 1 := by omega
  have k5 : (n : Int) + 1 ≤ (cap : Int) := by omega
  have k6 : (0 : Int) ≤ (i : Int) + 1 := by omega
  have k7 : ((i : Int) + 1).toNat = i + 1 := by omega
  have k8 : (i : Int) + 1 ≤ (n : Int) + 1 := by omega
  have k9 : ¬ cap = i + 1 := by omega
  have k10 : ¬ cap = i := by omega
  have k11 : (i : Int) ≤ (n : Int) := by omega
  have k12 : (i : Int) ≤ (n : Int) + 1 := by omega
  have k13 : (0 : Int) ≤ (i : Int) := by omega
  have k14 : (i : Int) ≤ (cap : Int) := by omega
  have k15 : IntKind.i64.wrap ((i : Int) + 1) = (i : Int) + 1 := IntWalk.i64_in _ (by omega)
  have k16 : IntKind.i64.wrap ((n : Int) + 1) = (n : Int) + 1 := IntWalk.i64_in _ (by omega)
  have k17 : i ≤ n := by omega
  clear h hE0 hE hY hZ hgY hgZ hy hz hX hX1 hxs hsb hsa hxe hdl hW1 hbd hxl hl
  go_enter Try.func63, Try.ntmps63
  go_wp2_with (simp only [hov])
  go_region_law (fail)
  all_goals
    go_wp2_with (first | (at_builtin; go_must (refine wpList_copy_run (by rfl) _ _ _ _ (by rfl) (by rfl) (by rfl) (hcpB _) ?_)))
    go_ret
    exact HFI.out

theorem ins_cells2 {xs ys zs : List Value} {ms : List Mb} {x : Mb} {n i : Nat} (hl : ms.length = n) (hi : i < n) (hz : zs.length = (n + 1) * 3) (hx : ∀ t, t < i * 3 → xs[t]? = (mcells ms)[t]?)
    (h2 : ∀ t, ys[t]? = if t < i * 3 then xs[t]? else if t < i * 3 + ([.int .i64 x.1, .int .i64 x.2.1, .int .i64 x.2.2] : List Value).length then ([.int .i64 x.1, .int .i64 x.2.1, .int .i64 x.2.2] : List Value)[t - i * 3]? else xs[t]?)
    (h1 : ∀ t, zs[t]? = if t < (i + 1) * 3 then ys[t]? else if t < (i + 1) * 3 + (mcells (ms.drop i)).length then (mcells (ms.drop i))[t - (i + 1) * 3]? else ys[t]?) : zs = mcells (ms.take i ++ x :: ms.drop i) := by
  have hdl : (mcells (ms.drop i)).length = (n - i) * 3 := by rw [mcells_length, List.length_drop, hl]
  have htl : (mcells (ms.take i)).length = i * 3 := by rw [mcells_length, List.length_take]; omega
  have he : mcells (ms.take i ++ x :: ms.drop i) = mcells (ms.take i) ++ ([.int .i64 x.1, .int .i64 x.2.1, .int .i64 x.2.2] ++ mcells (ms.drop i)) := by
    rw [mcells_append]
    congr 1
  rw [he]
  apply List.ext_getElem?
  intro t
  have h3 : ([.int .i64 x.1, .int .i64 x.2.1, .int .i64 x.2.2] : List Value).length = 3 := rfl
  rw [h1 t]
  by_cases a : t < i * 3
  · rw [if_pos (by omega), h2 t, if_pos a, List.getElem?_append_left (by omega), hx t a, ← mcells_take, List.getElem?_take_of_lt a]
  · rw [List.getElem?_append_right (by omega), htl]
    by_cases b : t < i * 3 + 3
    · rw [if_pos (by omega), h2 t, if_neg a, h3, if_pos b, List.getElem?_append_left (by rw [h3]; omega)]
    · rw [if_neg (by omega), List.getElem?_append_right (by rw [h3]; omega), h3, hdl]
      by_cases c : t < (i + 1) * 3 + (n - i) * 3
      · rw [if_pos c, show t - (i + 1) * 3 = t - i * 3 - 3 by omega]
      · rw [if_neg c, List.getElem?_eq_none (l := mcells (ms.drop i)) (by rw [hdl]; omega)]
        have := h1 t
        rw [if_neg (by omega), hdl, if_neg c] at this
        rw [← this, List.getElem?_eq_none (by omega)]

set_option maxRecDepth 20000 in
set_option maxHeartbeats 4000000 in
theorem insertGrow_any (g n cap lo X i : Nat) (ms : List Mb) (x : Mb) (w : World) (hn : n ≤ 500) (hi : i < n) (hlo : lo ≤ w.heap.size) (hroom : cap < n + 1) (h : w.ownsRow lo 68 3 (.slice (some ⟨g, 0, none⟩) n cap) n (mcells ms)) (hX : w.heap[X]? = some (.cells #[.int .i64 x.1, .int .i64 x.2.1, .int .i64 x.2.2] 68 (0, 0))) :
    Calls Try.prog 63 #[.slice (some ⟨g, 0, none⟩) n cap, .int .i64 i, .slice (some ⟨X, 0, none⟩) 1 1] w fun e w' => InsO w w' e lo (.slice (some ⟨g, 0, none⟩) n cap) (ms.take i ++ x :: ms.drop i) := by
  have hl := own_len h
  obtain ⟨hq1, hq2⟩ := row_cap h
  obtain ⟨i0, hinf, hz0, hz1, hz2⟩ := info_parts Try.infoSeat
  have hmx : n + 1 ≤ maxLen := by unfold maxLen; omega
  have hgl := (h.lt g rfl).2
  have hXl := lt_of_block hX
  have hold : (Builtin.firstCells i0.size i (.slice (some ⟨g, 0, none⟩) i cap)).run Try.prog w.drew = .ok (mcells (ms.take i)).toArray w.drew := by
    rw [hz1]
    exact run_firstCells_some (w := w.drew) 3 i ⟨g, 0, none⟩ i cap (mcells (ms.take i)) (by rw [mcells_length, List.length_take, hl, show min i n = i by omega]) (fun j v hj => by
      have hjl := (List.getElem?_eq_some_iff.1 hj).1
      rw [mcells_length, List.length_take, hl] at hjl
      have ea : (⟨g, 0, none⟩ : Addr).add j = ⟨g, j, none⟩ := by unfold Addr.add; split <;> simp_all
      rw [ea]
      show w.cell? ⟨g, j, none⟩ = some v
      rw [h.cellAt j (by omega)]
      rw [← mcells_take, List.getElem?_take_of_lt (by omega)] at hj
      exact hj)
  obtain ⟨G, hG⟩ : ∃ G, G = grownCap w (n + 1) cap 68 := ⟨_, rfl⟩
  have hG1 : n + 1 ≤ G := by rw [hG]; exact grownCap_ge _ _ _ _
  have hG2 : G ≤ maxLen := by rw [hG]; exact grownCap_le_maxLen _ _ _ _ hmx
  obtain ⟨ROW, hROW⟩ : ∃ R : Array Value, R = (mcells (ms.take i)).toArray ++ Builtin.zeroCells (Value.cells (.agg #[.int .i64 0, .int .i64 0, .int .i64 0])) (n + 1 - i) ++ Builtin.zeroCells (Value.cells (.agg #[.int .i64 0, .int .i64 0, .int .i64 0])) (G - (n + 1)) := ⟨_, rfl⟩
  have hrz : ∀ ty, (Builtin.append_ #[53, 3] ty #[.slice (some ⟨g, 0, none⟩) i cap, .int .i64 ((n : Int) + 1 - (i : Int))]).run Try.prog w = .ok (.slice (some ⟨w.heap.size, 0, none⟩) (n + 1) G) (w.drew.alloc (.cells ROW 68)) := fun ty => by
    have hh := Lib.run_append_grow_zeros w 53 3 ty 68 i0 _ .i64 .i64 Try.underlying53 Try.underlying3 hinf hz0 (some ⟨g, 0, none⟩) i cap (mcells (ms.take i)) hold (n + 1 - i) (by omega) (by omega) (by omega) (by omega) (by rw [hz2]; omega) (by rw [hz2, show i + (n + 1 - i) = n + 1 by omega]; exact growslice_fits hroom (by omega))
    rw [show i + (n + 1 - i) = n + 1 by omega, ← hG, ← hROW] at hh
    rw [show (n : Int) + 1 - (i : Int) = ((n + 1 - i : Nat) : Int) by omega]
    exact hh
  have hRs : ROW.size = G * 3 := by
    rw [hROW]
    have h1 : (mcells (ms.take i)).length = i * 3 := by rw [mcells_length, List.length_take]; omega
    simp [Builtin.zeroCells, Value.cells, h1]
    omega
  have hRt : ∀ t, t < i * 3 → ROW.toList[t]? = (mcells ms)[t]? := fun t ht => by
    have h1 : (mcells (ms.take i)).length = i * 3 := by rw [mcells_length, List.length_take]; omega
    rw [hROW, Array.toList_append, Array.toList_append, List.append_assoc, List.getElem?_append_left (by rw [List.toList_toArray]; omega), List.toList_toArray, ← mcells_take, List.getElem?_take_of_lt ht]
  obtain ⟨W0, hW0⟩ : ∃ W, W = w.drew.alloc (.cells ROW 68) := ⟨_, rfl⟩
  rw [← hW0] at hrz
  have hb0 : Below w.heap.size w W0 := by rw [hW0]; exact ((Below.refl _ _).drew).alloc (by simp) _
  have hB0 : W0.heap[w.heap.size]? = some (.cells ROW 68 (0, 0)) := by rw [hW0]; exact heap_alloc_at _ _ _ (by simp)
  have hE : W0.ownsRow lo 68 3 (.slice (some ⟨w.heap.size, 0, none⟩) (n + 1) G) (n + 1) (ROW.toList.take ((n + 1) * 3)) := ⟨by rw [List.length_take, Array.length_toList, hRs]; omega, .inr ⟨w.heap.size, G, ROW, rfl, hlo, hB0, hG1, hG2, hRs, rfl⟩⟩
  have hxe : ∀ t, t < i * 3 → (ROW.toList.take ((n + 1) * 3))[t]? = (mcells ms)[t]? := fun t ht => by rw [List.getElem?_take_of_lt (by omega)]; exact hRt t ht
  have hX0 : W0.heap[X]? = some (.cells #[.int .i64 x.1, .int .i64 x.2.1, .int .i64 x.2.2] 68 (0, 0)) := (hb0.block X hXl).trans hX
  have hdl : (mcells (ms.drop i)).length = (n - i) * 3 := by rw [mcells_length, List.length_drop, hl]
  obtain ⟨ys, hY, hy, hgY⟩ := setCells_full [.int .i64 x.1, .int .i64 x.2.1, .int .i64 x.2.2] (i * 3) W0 _ hE (by show i * 3 + 3 ≤ _; omega)
  have hcpB : ∀ ty, (Builtin.copy_ #[53, 52] ty #[.slice (some ⟨w.heap.size, i * 3, none⟩) (n + 1 - i) (G - i), .slice (some ⟨X, 0, none⟩) 1 1]).run Try.prog W0 = .ok (goInt 1) (W0.setCells w.heap.size (i * 3) [.int .i64 x.1, .int .i64 x.2.1, .int .i64 x.2.2]) := fun ty =>
    run_copy3 53 52 ty Try.underlying53 w.heap.size (i * 3) (n + 1 - i) (G - i) ⟨X, 0, none⟩ 1 1 1 [.int .i64 x.1, .int .i64 x.2.1, .int .i64 x.2.2] (by simp only [Nat.min_def]; split <;> omega) rfl (World.news_of_block hX0)
      (fun j hj => by have hj' : j < 3 := hj; have hyl := hE.1; rw [hE.cellAt _ (by omega), List.getElem?_eq_getElem (by omega)]; rfl) (fun j _ => hE.frozenAt _) (fun v hv => by simp only [List.mem_cons, List.not_mem_nil, or_false] at hv; rcases hv with rfl | rfl | rfl <;> rfl)
  obtain ⟨W1, hW1⟩ : ∃ W, W = W0.setCells w.heap.size (i * 3) [.int .i64 x.1, .int .i64 x.2.1, .int .i64 x.2.2] := ⟨_, rfl⟩
  rw [← hW1] at hcpB hY hgY
  have hYd : W1.drew.ownsRow lo 68 3 (.slice (some ⟨w.heap.size, 0, none⟩) (n + 1) G) (n + 1) ys := hY.kept (grown_of_below (Below.refl _ _).drew) (by cases Value.ownBlock (.slice (some ⟨w.heap.size, 0, none⟩) (n + 1) G) <;> simp)
  obtain ⟨zs, hZ, hz, hgZ⟩ := setCells_full (mcells (ms.drop i)) ((i + 1) * 3) W1.drew ys hYd (by rw [hdl]; omega)
  have hcpA : ∀ ty, (Builtin.copy_ #[53, 53] ty #[.slice (some ⟨w.heap.size, (i + 1) * 3, none⟩) (n - i) (G - (i + 1)), .slice (some ⟨g, i * 3, none⟩) (n - i) (cap - i)]).run Try.prog W1.drew = .ok (goInt ((n - i : Nat) : Int)) (W1.drew.setCells w.heap.size ((i + 1) * 3) (mcells (ms.drop i))) := fun ty =>
    run_copy3 53 53 ty Try.underlying53 w.heap.size ((i + 1) * 3) (n - i) (G - (i + 1)) ⟨g, i * 3, none⟩ (n - i) (cap - i) (n - i) (mcells (ms.drop i)) (by simp) hdl
      (fun j v hj => by
        have hjl := (List.getElem?_eq_some_iff.1 hj).1
        rw [hdl] at hjl
        have ea : (⟨g, i * 3, none⟩ : Addr).add j = ⟨g, i * 3 + j, none⟩ := by simp [Addr.add]
        rw [ea]
        have e1 : W1.drew.cell? ⟨g, i * 3 + j, none⟩ = W0.cell? ⟨g, i * 3 + j, none⟩ := by
          show W1.cell? ⟨g, i * 3 + j, none⟩ = _
          exact World.cell?_of_block (hgY.block g (Nat.lt_of_lt_of_le hgl hb0.size) (fun e => by have := Option.some.inj e; omega))
        rw [e1, hb0.cell (p := ⟨g, i * 3 + j, none⟩) hgl, h.cellAt _ (by omega)]
        rw [← mcells_drop, List.getElem?_drop] at hj
        exact hj)
      (fun j hj => by rw [hdl] at hj; have hyl := hYd.1; rw [hYd.cellAt _ (by omega), List.getElem?_eq_getElem (by omega)]; rfl) (fun j _ => hYd.frozenAt _) mcells_one
  have HFI : Hid (InsO w (W1.drew.setCells w.heap.size ((i + 1) * 3) (mcells (ms.drop i))) (.returned (.slice (some ⟨w.heap.size, 0, none⟩) (n + 1) G)) lo (.slice (some ⟨g, 0, none⟩) n cap) (ms.take i ++ x :: ms.drop i)) := by
    have e : (ms.take i ++ x :: ms.drop i).length = n + 1 := by rw [List.length_append, List.length_take, List.length_cons, List.length_drop, hl]; omega
    have ez : zs = mcells (ms.take i ++ x :: ms.drop i) := ins_cells2 hl hi hZ.1 hxe hy hz
    refine ⟨w.heap.size, G, by rw [e], ?_, ?_⟩
    · rw [e, ← ez]; exact hZ
    · have a := grown_trans hgY (grownBy_of (grown_of_below (Below.refl W1.heap.size W1).drew) hgZ)
      exact ⟨a.os.trans hb0.os, a.tape.trans hb0.tape, a.output.trans hb0.output, Nat.le_trans hb0.size a.size, fun b hb _ => (a.block b (Nat.lt_of_lt_of_le hb hb0.size) (fun e => by have := Option.some.inj e; omega)).trans (hb0.block b hb)⟩
  unfold maxLen at hq2 hG2
  have k1 : ¬ (i : Int) = (n : Int) := by omega
  have k2 : (cap : Int) < (n : Int) + 1 := by omega
  have k6 : (0 : Int) ≤ (i : Int) + 1 := by omega
  have k7 : ((i : Int) + 1).toNat = i + 1 := by omega
  have k8 : (i : Int) + 1 ≤ (n : Int) + 1 := by omega
  have k9 : ¬ G = i + 1 := by omega
  have k10 : ¬ G = i := by omega
  have k11 : (i : Int) ≤ (n : Int) := by omega
  have k12 : (i : Int) ≤ (n : Int) + 1 := by omega
  have k13 : (0 : Int) ≤ (i : Int) := by omega
  have k14 : (i : Int) ≤ (cap : Int) := by omega
  have k15 : IntKind.i64.wrap ((i : Int) + 1) = (i : Int) + 1 := IntWalk.i64_in _ (by omega)
  have k16 : IntKind.i64.wrap ((n : Int) + 1) = (n : Int) + 1 := IntWalk.i64_in _ (by omega)
  have k17 : i ≤ n := by omega
  have k18 : ¬ cap = i := by omega
  have k19 : IntKind.i64.wrap ((n : Int) + 1 - (i : Int)) = (n : Int) + 1 - (i : Int) := IntWalk.i64_in _ (by omega)
  clear h hE hY hYd hZ hgY hgZ hy hz hX hX0 hxe hdl hW1 hW0 hb0 hB0 hRs hRt hROW hold hl hinf hz0 hz1 hz2 hG hmx hgl hXl
  go_enter Try.func63, Try.ntmps63
  go_wp2_with (first | (at_builtin; (first | (refine wpList_append_run2 (by rfl) _ _ _ _ (by rfl) (by rfl) (by rfl) (hrz _) ?_) | (refine wpList_copy_run (by rfl) _ _ _ _ (by rfl) (by rfl) (by rfl) (hcpB _) ?_))))
  go_region_law (fail)
  all_goals
    go_wp2
    go_ret
    exact HFI.out

end Go.Proofs.Ytgfhnmjpkanikaa
