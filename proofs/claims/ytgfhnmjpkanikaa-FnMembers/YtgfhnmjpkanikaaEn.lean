/- The program's bench: who is deleted. -/
import Derived.Test.YtgfhnmjpkanikaaEm
import Derived.Laws.IdiomCopy
import Derived.Deep.DeepAppendRoom
namespace Go.Proofs.Ytgfhnmjpkanikaa
open Go.RowKit Go.Maps Go.WideMaps

theorem row_prefix {w : World} {lo g n cap k : Nat} {e : TypeId} {xs : List Value} (h : w.ownsRow lo e 3 (.slice (some ⟨g, 0, none⟩) n cap) n xs) (hk : k ≤ n) : w.ownsRow lo e 3 (.slice (some ⟨g, 0, none⟩) k cap) k (xs.take (k * 3)) := by
  have hl := h.1
  refine ⟨by rw [List.length_take]; omega, ?_⟩
  rcases h.2 with ⟨e1, _⟩ | ⟨g', cap', cur, e1, h1, h2, h3, h4, h5, h6⟩
  · cases e1
  · cases e1
    refine .inr ⟨g, cap, cur, rfl, h1, h2, by omega, h4, h5, ?_⟩
    rw [← h6, List.take_take]
    congr 1
    omega
theorem setCells_row {lo g n cap : Nat} {e : TypeId} : ∀ (vs : List Value) (o : Nat) (w : World) (xs : List Value), w.ownsRow lo e 3 (.slice (some ⟨g, 0, none⟩) n cap) n xs →
    ∃ ys, (w.setCells g o vs).ownsRow lo e 3 (.slice (some ⟨g, 0, none⟩) n cap) n ys ∧ (∀ t, t < o → ys[t]? = xs[t]?) ∧ w.grownBy (w.setCells g o vs) (some g)
  | [], o, w, xs, h => ⟨xs, h, fun t _ => rfl, World.grownBy.refl _ _⟩
  | v :: vs, o, w, xs, h => by
    have h1 := h.stored o v
    obtain ⟨ys, r1, r2, r3⟩ := setCells_row vs (o + 1) (w.setCell ⟨g, o, none⟩ v) _ h1.1
    refine ⟨ys, r1, fun t ht => ?_, ?_⟩
    · rw [r2 t (by omega), List.getElem?_set_ne (by omega)]
    · have a := h1.2
      exact ⟨r3.os.trans a.os, r3.tape.trans a.tape, r3.output.trans a.output, Nat.le_trans a.size r3.size, fun b hb hne => (r3.block b (Nat.lt_of_lt_of_le hb a.size) hne).trans (a.block b hb hne)⟩
/-- 'clear' of the last of a row. -/
theorem run_clearB {w : World} {lo g n cap k m c : Nat} {xs : List Value} (h : w.ownsRow lo 68 3 (.slice (some ⟨g, 0, none⟩) n cap) n xs) (hkm : k + m = n) (hm : 0 < m) (ty : TypeId) :
    (Builtin.clear_ #[53] ty #[.slice (some ⟨g, k * 3, none⟩) m c]).run Try.prog w = .ok (.tuple #[]) (w.setCells g (k * 3) (List.replicate (m * 3) (.int .i64 0))) := by
  have hv : ∀ w, (zeroValue 68).run Try.prog w = .ok (.agg #[.int .i64 0, .int .i64 0, .int .i64 0]) w := fun w => by kernel_rfl
  have hxl := h.1
  have hzc : (Builtin.zeroCells (Value.cells (.agg #[.int .i64 0, .int .i64 0, .int .i64 0])) m).toList = List.replicate (m * 3) (.int .i64 0) := by
    apply List.ext_getElem
    · simp [Builtin.zeroCells, Value.cells]
    · intro i h1 h2
      have h3 : i % 3 = 0 ∨ i % 3 = 1 ∨ i % 3 = 2 := by omega
      simp [Builtin.zeroCells, Value.cells]
      rcases h3 with h3 | h3 | h3 <;> simp [h3]
  have hst := run_storeCells_cells (P := Try.prog) g (k * 3) (List.replicate (m * 3) (.int .i64 0)) 0 w (fun j hj => by
    rw [List.length_replicate] at hj
    rw [Nat.add_zero, h.cellAt (k * 3 + j) (by omega), List.getElem?_eq_getElem (by omega)]; rfl) (fun j _ => h.frozenAt _) (fun v hv' => by rw [List.eq_of_mem_replicate hv']; rfl)
  simp only [Nat.add_zero] at hst
  obtain ⟨q, rfl⟩ : ∃ q, m = q + 1 := ⟨m - 1, by omega⟩
  simp [Builtin.clear_, run_underlying Try.underlying53, hv, hzc, hst]
theorem wpList_clear_run {P : Program} {w : World} {ops : Array Oper} {rest : List Oper} {o : Oper} {a : Act} {Q : Exit → Act → World → Prop} (hgd : o.guard = none) (s : Operand) (t : TypeId)
    (hop : o.op = .call { callee := .builtin .clear, args := #[s], argTypes := #[t] }) {v v' : Value} {w' : World} (hs : a.eval s = v) (hrun : (Builtin.clear_ #[t] o.type #[v]).run P w = .ok v' w') (h : wpList P ops Q rest (a.put o.dst v') w') :
    wpList P ops Q (o :: rest) a w :=
  wpList_plain hgd fun _ hK => by
    unfold Oper.wp
    simp [execOp, hop, resolve, invoke, builtin, hs, hrun, Result.andThen]
    exact hK _ _ h
theorem gat_grown {W w' : World} {row : Option Nat} {a : Option Addr} {n : Nat} {gs : List (Int × Int)} (h : GAt W a n gs) (hg : W.grownBy w' row) (hr : ∀ b o, a = some ⟨b, o, none⟩ → row ≠ some b) : GAt w' a n gs := by
  obtain ⟨hn, h | ⟨b, off, rfl, hlt, hc⟩⟩ := h
  · exact ⟨hn, .inl h⟩
  · have hblk := hg.block b hlt (fun e => hr b off rfl e.symm)
    refine ⟨hn, .inr ⟨b, off, rfl, Nat.lt_of_lt_of_le hlt hg.size, fun j hj => ?_⟩⟩
    have hcc := hc j hj
    exact ⟨(World.cell?_of_block hblk).trans hcc.1, (World.cell?_of_block hblk).trans hcc.2⟩

/-- What deleting leaves. -/
def DelO (w w' : World) (e : Ending) (lo g cap : Nat) (rs : List Mb) : Prop :=
  e = .returned (.slice (some ⟨g, 0, none⟩) rs.length cap) ∧ w'.ownsRow lo 68 3 (.slice (some ⟨g, 0, none⟩) rs.length cap) rs.length (mcells rs) ∧ w.grownBy w' (some g)
theorem part_addS {W : World} {lo g n cap i o3 : Nat} {ms : List Mb} (h : W.ownsRow lo 68 3 (.slice (some ⟨g, 0, none⟩) n cap) n (mcells ms)) (hi : i < n) (hnc : n ≤ cap) (ho3 : o3 = (i + 1) * 3 ∨ n = i + 1) :
    ∃ w', (∀ c, (Builtin.append_ #[53, 53] 53 #[.slice (some ⟨g, 0, none⟩) i cap, .slice (some ⟨g, o3, none⟩) (n - (i + 1)) c]).run Try.prog W = .ok (.slice (some ⟨g, 0, none⟩) (n - 1) cap) w') ∧ w'.ownsRow lo 68 3 (.slice (some ⟨g, 0, none⟩) (n - 1) cap) (n - 1) (mcells (ms.eraseIdx i)) ∧ W.grownBy w' (some g) := by
  obtain ⟨i0, hinf, hz0, hz1, hz2⟩ := info_parts Try.infoSeat
  have hl := own_len h
  have hrow := row_prefix h (k := i) (by omega)
  rw [mcells_take] at hrow
  have hnl : (mcells (ms.drop (i + 1))).length = (n - (i + 1)) * 3 := by rw [mcells_length, List.length_drop, hl]
  obtain ⟨w', hrun, hown', hgrow⟩ := run_append_own_spare (P := Try.prog) (w := W) lo 53 53 68 i0 3 Try.underlying53 hinf hz1 g i cap (mcells (ms.take i)) hrow ⟨g, o3, none⟩ (n - (i + 1)) 0 (mcells (ms.drop (i + 1))) hnl (fun j u hj => by
    have hjm : j < (n - (i + 1)) * 3 := by
      have := (List.getElem?_eq_some_iff.1 hj).1
      rw [hnl] at this
      exact this
    rw [← mcells_drop, List.getElem?_drop] at hj
    have ho : o3 = (i + 1) * 3 := by rcases ho3 with q | q <;> omega
    have ea : (⟨g, o3, none⟩ : Addr).add j = ⟨g, (i + 1) * 3 + j, none⟩ := by simp [Addr.add, ho]
    rw [ea, h.cellAt _ (by omega)]
    exact hj) mcells_one (by omega)
  have hk : i + (n - (i + 1)) = n - 1 := by omega
  rw [hk] at hown' hrun
  refine ⟨w', fun c => hrun, ?_, hgrow⟩
  rw [List.eraseIdx_eq_take_drop_succ, mcells_append]
  exact hown'

set_option maxRecDepth 20000 in
set_option maxHeartbeats 2000000 in
theorem delete_any (g n cap lo i : Nat) (ms : List Mb) (w : World) (hn : n ≤ 500) (hi : i < n) (_hlo : lo ≤ w.heap.size) (h : w.ownsRow lo 68 3 (.slice (some ⟨g, 0, none⟩) n cap) n (mcells ms)) :
    Calls Try.prog 58 #[.slice (some ⟨g, 0, none⟩) n cap, .int .i64 i, .int .i64 (i + 1 : Nat)] w fun e w' => DelO w w' e lo g cap (ms.eraseIdx i) := by
  obtain ⟨hq1, hq2⟩ := row_cap h
  have hl := own_len h
  have hd : w.drew.ownsRow lo 68 3 (.slice (some ⟨g, 0, none⟩) n cap) n (mcells ms) := h.kept (grown_of_below (Below.refl _ _).drew) (by cases Value.ownBlock (.slice (some ⟨g, 0, none⟩) n cap) <;> simp)
  unfold maxLen at hq2
  have hie : ¬ (i : Int) = (i : Int) + 1 := by omega
  have h01 : (0 : Int) ≤ (i : Int) + 1 := by omega
  have htn : ((i : Int) + 1).toNat = i + 1 := by omega
  have h11 : (i : Int) ≤ (i : Int) + 1 := by omega
  have h12 : (i : Int) + 1 ≤ (n : Int) := by omega
  have h13 : (i : Int) + 1 ≤ (cap : Int) := by omega
  have h14 : (i : Int) ≤ (cap : Int) := by omega
  have h15 : (n : Int) ≤ (cap : Int) := by omega
  have h16 : ((n - 1 : Nat) : Int) ≤ (n : Int) := by omega
  have h17 : ¬ cap = n - 1 := by omega
  have h18 : n - (n - 1) = 1 := by omega
  have hcast : ((i + 1 : Nat) : Int) = (i : Int) + 1 := by omega
  rw [hcast]
  by_cases huc : cap = i + 1
  · subst huc
    have hcl := fun c ty => run_clearB (k := i) (m := n - i) (c := c) hd (by omega) (by omega) ty
    obtain ⟨ys, hy1, hy2, hy3⟩ := setCells_row (List.replicate ((n - i) * 3) (.int .i64 0)) (i * 3) w.drew (mcells ms) hd
    have he : ms.eraseIdx i = ms.take i := by
      rw [List.eraseIdx_eq_take_drop_succ, List.drop_eq_nil_of_le (by omega), List.append_nil]
    have hlen : (ms.eraseIdx i).length = i := by rw [he, List.length_take]; omega
    have HFI : Hid (DelO w (w.drew.setCells g (i * 3) (List.replicate ((n - i) * 3) (.int .i64 0))) (.returned (.slice (some ⟨g, 0, none⟩) i (i + 1))) lo g (i + 1) (ms.eraseIdx i)) := by
      refine ⟨by rw [hlen], ?_, ?_⟩
      · rw [hlen]
        have hp := row_prefix hy1 (k := i) (by omega)
        have e : ys.take (i * 3) = mcells (ms.eraseIdx i) := by
          rw [he, ← mcells_take]
          apply List.ext_getElem?
          intro t
          by_cases ht : t < i * 3
          · rw [List.getElem?_take_of_lt ht, List.getElem?_take_of_lt ht, hy2 t ht]
          · rw [List.getElem?_eq_none (by rw [List.length_take]; omega), List.getElem?_eq_none (by rw [List.length_take]; omega)]
        rw [e] at hp
        exact hp
      · have hg0 : w.grownBy w.drew none := grown_of_below (Below.refl _ _).drew
        exact ⟨hy3.os.trans hg0.os, hy3.tape.trans hg0.tape, hy3.output.trans hg0.output, Nat.le_trans hg0.size hy3.size, fun b hb hne => (hy3.block b (Nat.lt_of_lt_of_le hb hg0.size) hne).trans (hg0.block b hb (by simp))⟩
    have k1 : (n : Int) ≤ (i : Int) + 1 := by omega
    have k2 : (i : Int) ≤ (n : Int) := by omega
    have k3 : n - (i + 1) = 0 := by omega
    have k4 : n ≤ i + 1 := by omega
    clear hy1 hy2 hy3 hd h hlen he
    go_enter Try.func58, Try.ntmps58
    go_wp2
    go_region_law (fail)
    all_goals
      go_wp2_with (first | (at_builtin; go_must (refine wpList_clear_run (by rfl) _ _ (by rfl) (by rfl) (hcl _ _) ?_)))
      go_ret
      exact HFI.out
  · obtain ⟨w3, hr, ho3, hg3⟩ := part_addS (o3 := (i + 1) * 3) hd hi hq1 (.inl rfl)
    have hfull : ∃ xs, w3.ownsRow lo 68 3 (.slice (some ⟨g, 0, none⟩) n cap) n xs ∧ xs.take ((n - 1) * 3) = mcells (ms.eraseIdx i) := by
      rcases ho3.2 with ⟨e, _⟩ | ⟨g', cap', cur, e, h1, h2, h3, h4, h5, h6⟩
      · cases e
      · cases e
        refine ⟨cur.toList.take (n * 3), ⟨by rw [List.length_take, Array.length_toList, h5]; omega, .inr ⟨g, cap, cur, rfl, h1, h2, hq1, h4, h5, rfl⟩⟩, ?_⟩
        rw [List.take_take, show min ((n - 1) * 3) (n * 3) = (n - 1) * 3 by omega, h6]
    obtain ⟨xs, hx1, hx2⟩ := hfull
    have hcl := fun c ty => run_clearB (k := n - 1) (m := 1) (c := c) hx1 (by omega) (by omega) ty
    obtain ⟨ys, hy1, hy2, hy3⟩ := setCells_row (List.replicate (1 * 3) (.int .i64 0)) ((n - 1) * 3) w3 xs hx1
    have hlen : (ms.eraseIdx i).length = n - 1 := by rw [List.length_eraseIdx_of_lt (by omega), hl]
    have HFI : Hid (DelO w (w3.setCells g ((n - 1) * 3) (List.replicate (1 * 3) (.int .i64 0))) (.returned (.slice (some ⟨g, 0, none⟩) (n - 1) cap)) lo g cap (ms.eraseIdx i)) := by
      refine ⟨by rw [hlen], ?_, ?_⟩
      · rw [hlen]
        have hp := row_prefix hy1 (k := n - 1) (by omega)
        have e : ys.take ((n - 1) * 3) = mcells (ms.eraseIdx i) := by
          rw [← hx2]
          apply List.ext_getElem?
          intro t
          by_cases ht : t < (n - 1) * 3
          · rw [List.getElem?_take_of_lt ht, List.getElem?_take_of_lt ht, hy2 t ht]
          · rw [List.getElem?_eq_none (by rw [List.length_take]; omega), List.getElem?_eq_none (by rw [List.length_take]; omega)]
        rw [e] at hp
        exact hp
      · have hg0 : w.grownBy w.drew none := grown_of_below (Below.refl _ _).drew
        have a : w.grownBy w3 (some g) := ⟨hg3.os.trans hg0.os, hg3.tape.trans hg0.tape, hg3.output.trans hg0.output, Nat.le_trans hg0.size hg3.size, fun b hb hne => (hg3.block b (Nat.lt_of_lt_of_le hb hg0.size) hne).trans (hg0.block b hb (by simp))⟩
        exact ⟨hy3.os.trans a.os, hy3.tape.trans a.tape, hy3.output.trans a.output, Nat.le_trans a.size hy3.size, fun b hb hne => (hy3.block b (Nat.lt_of_lt_of_le hb a.size) hne).trans (a.block b hb hne)⟩
    clear ho3 hx1 hx2 hy1 hy2 hy3 hg3 hd h hlen
    go_enter Try.func58, Try.ntmps58
    go_wp2
    go_region_law (first
      | (refine step_append_runM (by rfl) _ _ _ (by rfl) (by rfl) (by rfl) (hr _) ?_))
    all_goals
      go_wp2_with (first | (at_builtin; go_must (refine wpList_clear_run (by rfl) _ _ (by rfl) (by rfl) (hcl _ _) ?_)))
      go_ret
      exact HFI.out

end Go.Proofs.Ytgfhnmjpkanikaa
