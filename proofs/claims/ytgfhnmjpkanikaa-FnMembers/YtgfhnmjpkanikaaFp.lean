/- The specification's l6Bent keeps its contract. -/
import Derived.Test.YtgfhnmjpkanikaaFo
import Derived.Test.YtgfhnmjpkanikaaEe
namespace Go.Proofs.Ytgfhnmjpkanikaa
open Go.RowKit Go.Shelf Go.Maps Go.WideMaps

theorem made9M : (madeCells (Value.agg #[.int .i64 0, .int .i64 0, .int .i64 0]).cells (9 * 3)).toList = mcells (List.replicate 9 Z3) := by kernel_rfl
section
variable {w v V V' : World} {SB cn cc t t' vc g : Nat} {ca va : Option Addr} {ms : List Mb}
theorem MdS.more (h : MdS w v V SB ca cn cc t va vc ms) (a b c : Int) (hl : ms.length ≤ 100) :
    ∃ g' cap w5, (Builtin.append_ #[24, 24] 24 #[.slice va ms.length vc, .slice (some ⟨V.heap.size, 0, none⟩) 1 1]).run Try.prog (V.alloc (.cells #[.int .i64 a, .int .i64 b, .int .i64 c] 38)) = .ok (.slice (some ⟨g', 0, none⟩) (ms.length + 1) cap) w5 ∧ Hid (MdS w v w5 SB ca cn cc t (some ⟨g', 0, none⟩) cap (ms ++ [(a, b, c)])) := by
  have H1 := h.step (below_box (.cells #[.int .i64 a, .int .i64 b, .int .i64 c] 38))
  obtain ⟨g', cap, w5, hrun, HG⟩ := mem_added (o := (a, b, c)) (X := V.heap.size) H1.own (heap_alloc_new _ _) (by omega) H1.chg.size
  obtain ⟨hO, hg⟩ := HG.out
  have hlen : (ms ++ [(a, b, c)]).length = ms.length + 1 := by simp
  have hr : ∀ k, (Value.slice va ms.length vc).ownBlock = some k → v.heap.size ≤ k := fun k e => (H1.own.lt k e).1
  have ho := H1.ord
  have hsb := H1.src.sb
  have hs := H1.chg.size
  have hSl := H1.src.lt
  refine ⟨g', cap, w5, hrun, ⟨?_, ?_, by rw [hlen]; exact hO, ho⟩⟩
  · exact ⟨(hg.block SB hSl (fun e => by have := hr _ e.symm; omega)).trans H1.src.box, ⟨hg.os.trans H1.src.bel.os, hg.tape.trans H1.src.bel.tape, hg.output.trans H1.src.bel.output, Nat.le_trans H1.src.bel.size hg.size, fun b hb => (hg.block b (by omega) (fun e => by have := hr _ e.symm; omega)).trans (H1.src.bel.block b hb)⟩, hsb⟩
  · exact ⟨hg.os.trans H1.chg.os, hg.tape.trans H1.chg.tape, hg.output.trans H1.chg.output, Nat.le_trans hs hg.size, fun b hb hd => (hg.block b (by omega) (fun e => by have := hr _ e.symm; omega)).trans (H1.chg.block b hb hd)⟩
theorem MdS.made (h : MdS w v V SB ca cn cc t va vc ms) (hrow : V'.ownsRow V.heap.size 38 3 (.slice (some ⟨g, 0, none⟩) 9 9) 9 (madeCells (Value.agg #[.int .i64 0, .int .i64 0, .int .i64 0]).cells (9 * 3)).toList) (hb : Below V.heap.size V V') : MdS w v V' SB ca cn cc t (some ⟨g, 0, none⟩) 9 (List.replicate 9 Z3) := by
  have H1 := h.step hb
  rw [made9M] at hrow
  exact ⟨H1.src, H1.chg, Joins.ownsRow_le hrow h.chg.size, h.ord⟩
theorem mset2 {l : List Mb} {p q : Int} (hl : 1 < l.length) (hp : p = (l.getD 0 Z3).2.1) (hq : q = (l.getD 0 Z3).2.2) : ((mcells l).set 4 (.int .i64 p)).set 5 (.int .i64 q) = mcells (l.set 1 ((l.getD 1 Z3).1, p, q)) := by
  match l, hl with
  | a :: b :: r, _ =>
    subst hp hq
    simp [mcells]
theorem MdS.same2 (h : MdS w v V SB ca cn cc t (some ⟨g, 0, none⟩) vc ms) (hl : 1 < ms.length) {p q : Int} (hp : p = (ms.getD 0 Z3).2.1) (hq : q = (ms.getD 0 Z3).2.2) : MdS w v ((V.setCell ⟨g, 4, none⟩ (.int .i64 p)).setCell ⟨g, 5, none⟩ (.int .i64 q)) SB ca cn cc t (some ⟨g, 0, none⟩) vc (ms.set 1 ((ms.getD 1 Z3).1, p, q)) := by
  have hg := h.own.lt g rfl
  have ho := h.ord
  have hsb := h.src.sb
  have h1 := ((h.own.stored 4 (.int .i64 p)).1.stored 5 (.int .i64 q)).1
  rw [mset2 hl hp hq] at h1
  refine ⟨⟨(Below.heap_setCell _ ⟨g, 5, none⟩ _ SB (show SB ≠ g by omega)).trans ((Below.heap_setCell _ ⟨g, 4, none⟩ _ SB (show SB ≠ g by omega)).trans h.src.box), (h.src.bel.setCell (p := ⟨g, 4, none⟩) (show w.heap.size ≤ g by omega) _).setCell (p := ⟨g, 5, none⟩) (show w.heap.size ≤ g by omega) _, hsb⟩, (h.chg.setNew hg.1 _).setNew hg.1 _, by rw [List.length_set]; exact h1, ho⟩
theorem MdS.cells2 (h : MdS w v V SB ca cn cc t (some ⟨g, 0, none⟩) vc ms) (hl : 1 < ms.length) : V.cell? ⟨g, 1, none⟩ = some (.int .i64 (ms.getD 0 Z3).2.1) ∧ V.cell? ⟨g, 2, none⟩ = some (.int .i64 (ms.getD 0 Z3).2.2) ∧ V.cell? ⟨g, 4, none⟩ = some (.int .i64 (ms.getD 1 Z3).2.1) ∧ V.cell? ⟨g, 5, none⟩ = some (.int .i64 (ms.getD 1 Z3).2.2) ∧ V.frozen? ⟨g, 4, none⟩ = false ∧ V.frozen? ⟨g, 5, none⟩ = false := by
  have hx := h.own.1
  rw [mcells_length] at hx
  obtain ⟨_, a1, a2⟩ := mcells_at ms 0 (by omega)
  obtain ⟨_, b1, b2⟩ := mcells_at ms 1 hl
  have hf : ∀ i, V.frozen? ⟨g, i, none⟩ = false := fun i => by
    rcases h.own.2 with ⟨e, _⟩ | ⟨g', c', cur, e, _, hh, _⟩
    · cases e
    · cases e; exact Joins.unfrozen_of_block hh i
  have hc : ∀ i, i < ms.length * 3 → V.cell? ⟨g, i, none⟩ = (mcells ms)[i]? := fun i hi => h.own.cellAt i hi
  exact ⟨(hc 1 (by omega)).trans a1, (hc 2 (by omega)).trans a2, (hc 4 (by omega)).trans b1, (hc 5 (by omega)).trans b2, hf 4, hf 5⟩
end

set_option maxRecDepth 20000 in
set_option maxHeartbeats 8000000 in
theorem l6Bent_any (SB cn cc t : Nat) (ca : Option Addr) (l0 : List Int) (w v : World) (ht : t ≤ 700) (hcn : cn ≤ 1048576) (hB : BAt w ca cn l0) (h : Src w v SB ca cn cc t) :
    Calls Try.prog 13 #[.pointer (some ⟨SB, 0, none⟩)] v fun e v' => OutMd w v SB ca cn cc (t + 20) e v' 9 := by
  have HBA : Hid (BAt w ca cn l0) := hB
  have h1 := l6Right_any SB cn cc t ca l0 w v (by omega) hcn hB h
  obtain ⟨i0, hi, hz0, hz1, hz2⟩ := info_parts Try.infoMem
  clear hB h
  go_enter Try.func13, Try.ntmps13
  go_upto_if 8 with (first
    | (go_at_call 32; (with_reducible refine h1.mono ?_); clear h1; rintro e v2 ⟨ms, g, vc, t2, rfl, ht2, hl2, HD2⟩; have h2 := l1Next_any SB cn cc t2 ca l0 14 w v2 (by omega) (by omega) hcn HBA.out HD2.out.src)
    | (go_at_call 17; (with_reducible refine h2.mono ?_); clear h2; rintro e v8 ⟨r, rfl, _, hS8, hc8⟩; have HD8 : Hid (MdS w v v8 SB ca cn cc (t2 + 1) (some ⟨g, 0, none⟩) vc ms) := HD2.out.draw hS8 hc8; clear hS8 hc8))
  have hsb8 := HD8.out.src.lt
  clear HD2
  by_cases e0 : r = 0
  · subst e0
    have HA : Hid (MdS w v (v8.alloc (.cells #[.int .i64 0, .int .i64 1000, .int .i64 900] 2)) SB ca cn cc (t2 + 1) (some ⟨g, 0, none⟩) vc ms) := HD8.out.step (below_box _)
    have hp := l1Pick_any SB cn cc (t2 + 1) 3 3 ca (some ⟨v8.heap.size, 0, none⟩) l0 [0, 1000, 900] w (v8.alloc (.cells #[.int .i64 0, .int .i64 1000, .int .i64 900] 2)) (by omega) (by omega) (by omega) hcn HBA.out HA.out.src (iatK3 v8 0 1000 900) (fun b off e => (by cases e; omega))
    go_wp2_with (first
      | (go_at_call 18; have hq := hp; clear hp; (with_reducible refine hq.mono ?_); clear hq; rintro e v9 ⟨z, rfl, _, hS9, hc9⟩; have HD9 : Hid (MdS w v v9 SB ca cn cc (t2 + 1 + 1) (some ⟨g, 0, none⟩) vc ms) := HA.out.draw hS9 hc9; clear hS9 hc9; have hsb9 := HD9.out.src.lt; have HB : Hid (MdS w v (v9.alloc (.cells #[.int .i64 1, .int .i64 0, .int .i64 61] 2)) SB ca cn cc (t2 + 1 + 1) (some ⟨g, 0, none⟩) vc ms) := HD9.out.step (below_box _); have hp2 := l1Pick_any SB cn cc (t2 + 1 + 1) 3 3 ca (some ⟨v9.heap.size, 0, none⟩) l0 [1, 0, 61] w (v9.alloc (.cells #[.int .i64 1, .int .i64 0, .int .i64 61] 2)) (by omega) (by omega) (by omega) hcn HBA.out HB.out.src (iatK3 v9 1 0 61) (fun b off e => (by cases e; omega)))
      | (go_at_call 18; have hq := hp2; clear hp2; (with_reducible refine hq.mono ?_); clear hq; rintro e v10 ⟨z2, rfl, _, hS10, hc10⟩; have HD10 : Hid (MdS w v v10 SB ca cn cc (t2 + 1 + 1 + 1) (some ⟨g, 0, none⟩) vc ms) := HB.out.draw hS10 hc10; clear hS10 hc10; obtain ⟨g', cap, w5, hrun, HM⟩ := HD10.out.more z z2 0 (by omega))
      | (at_builtin; go_must (refine wpList_append_runC (by rfl) _ _ _ (by rfl) (by rfl) (by rfl) hrun ?_); clear hrun))
    go_ret
    exact ⟨ms ++ [(z, z2, 0)], g', cap, t2 + 1 + 1 + 1, by simp, by omega, by simp; omega, HM.out⟩
  have e0b : (r == 0) = false := by simpa using e0
  by_cases e1 : r = 1
  · subst e1
    go_wp2_with (first
      | (at_make; refine wpList_make_full _ rfl _ _ 24 rfl v8.heap.size 38 i0 (.agg #[.int .i64 0, .int .i64 0, .int .i64 0]) 3 Try.underlying24 hi hz0 hz1 _ _ _ _ 9 rfl rfl (by omega) (by omega) (by rw [hz2]; omega) (by unfold maxLen; omega) (Nat.le_refl _) ?_; intro v9 ho9 hg9; have HM : Hid (MdS w v v9 SB ca cn cc (t2 + 1) (some ⟨v8.heap.size, 0, none⟩) 9 (List.replicate 9 Z3)) := HD8.out.made ho9 ((Below.refl _ _).grown hg9 (Nat.le_refl _) (fun k h => (by cases h))); clear ho9 hg9))
    go_ret
    exact ⟨List.replicate 9 Z3, _, 9, t2 + 1, rfl, by omega, by simp, HM.out⟩
  have e1b : (r == 1) = false := by simpa using e1
  by_cases e2 : r = 2
  · subst e2
    by_cases hl : 1 < ms.length
    · have hli : (1 : Int) < (ms.length : Int) := by omega
      have hl0 : (0 : Int) < (ms.length : Int) := by omega
      have hl0n : 0 < ms.length := by omega
      obtain ⟨y1, y2, y4, y5, f4, f5⟩ := HD8.out.cells2 hl
      obtain ⟨p, hp⟩ : ∃ p, p = (ms.getD 0 Z3).2.1 := ⟨_, rfl⟩
      obtain ⟨q, hq⟩ : ∃ q, q = (ms.getD 0 Z3).2.2 := ⟨_, rfl⟩
      have HM : Hid (MdS w v ((v8.setCell ⟨g, 4, none⟩ (.int .i64 p)).setCell ⟨g, 5, none⟩ (.int .i64 q)) SB ca cn cc (t2 + 1) (some ⟨g, 0, none⟩) vc (ms.set 1 ((ms.getD 1 Z3).1, p, q))) := HD8.out.same2 hl hp hq
      rw [← hp] at y1
      rw [← hq] at y2
      clear hp hq
      go_wp2
      go_ret
      exact ⟨ms.set 1 ((ms.getD 1 Z3).1, p, q), g, vc, t2 + 1, by rw [List.length_set]; rfl, by omega, by rw [List.length_set]; omega, HM.out⟩
    · have hli : ¬ (1 : Int) < (ms.length : Int) := by omega
      go_wp2
      go_ret
      exact ⟨ms, g, vc, t2 + 1, rfl, by omega, by omega, HD8.out⟩
  have e2b : (r == 2) = false := by simpa using e2
  go_wp2
  go_ret
  exact ⟨ms, g, vc, t2 + 1, rfl, by omega, by omega, HD8.out⟩

end Go.Proofs.Ytgfhnmjpkanikaa
