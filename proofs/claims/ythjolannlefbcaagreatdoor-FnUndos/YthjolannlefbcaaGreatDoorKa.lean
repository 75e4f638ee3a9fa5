/- A ledger is drawn, right or wrong. -/
import Derived.Test.YthjolannlefbcaaGreatDoorDrG
import Derived.Test.YthjolannlefbcaaGreatDoorJn4
namespace Go.Proofs.YthjolannlefbcaaGreatDoor
open Go.RowKit Go.Maps Go.WideMaps

theorem Tryz.infoSgn : (Tryz.prog.info? 130).map (fun i => (i.zero, i.size, i.bytes)) = some (some (.agg #[.int .i64 0, .int .i64 0]), 2, 16) := by kernel_rfl
theorem gcells_more (gs : List (Int × Int)) (p q : Int) : gcells (gs ++ [(p, q)]) = gcells gs ++ [.int .i64 p, .int .i64 q] := by
  simp [gcells]
theorem strx_added {W : World} {lo X j : Nat} {v : Value} {ss : List ByteArray} {x : ByteArray} (h : W.ownsRow lo 9 1 v j (ss.map Value.string)) (hX : W.heap[X]? = some (.cells #[.string x] 9 (0, 0))) (hj : j ≤ 1000) (hlo : lo ≤ W.heap.size) :
    ∃ g cap w5, (Builtin.append_ #[43, 43] 43 #[v, .slice (some ⟨X, 0, none⟩) 1 1]).run Tryz.prog W = .ok (.slice (some ⟨g, 0, none⟩) (j + 1) cap) w5 ∧
      Hid (w5.ownsRow lo 9 1 (.slice (some ⟨g, 0, none⟩) (j + 1) cap) (j + 1) ((ss ++ [x]).map Value.string) ∧ W.grownBy w5 v.ownBlock) := by
  obtain ⟨i0, hi, hz0, hz1, hz2⟩ := info_parts Tryz.infoStr
  obtain ⟨v', w5, hrun, hown', hgrow, hsome⟩ := run_append_own (P := Tryz.prog) W lo 43 43 9 i0 (.string ByteArray.empty) 1 16 Tryz.underlying43 hi hz0 hz1 hz2 rfl (by decide) v j (ss.map Value.string) h ⟨X, 0, none⟩ 1 1 [.string x] rfl (World.news_of_block hX) (by
    intro z hz
    simp only [List.mem_cons, List.not_mem_nil, or_false] at hz
    subst hz; rfl) (by unfold maxLen; omega) (by omega) hlo
  obtain ⟨g, cap, rfl⟩ := ownsRow_succ hown'
  refine ⟨g, cap, w5, hrun, ?_, hgrow⟩
  rw [List.map_append]
  exact hown'
theorem sgnx_added {W : World} {lo X j : Nat} {v : Value} {gs : List (Int × Int)} {p q : Int} (h : W.ownsRow lo 130 2 v j (gcells gs)) (hX : W.heap[X]? = some (.cells #[.int .i64 p, .int .i64 q] 130 (0, 0))) (hj : j ≤ 1000) (hlo : lo ≤ W.heap.size) :
    ∃ g cap w5, (Builtin.append_ #[44, 44] 44 #[v, .slice (some ⟨X, 0, none⟩) 1 1]).run Tryz.prog W = .ok (.slice (some ⟨g, 0, none⟩) (j + 1) cap) w5 ∧
      Hid (w5.ownsRow lo 130 2 (.slice (some ⟨g, 0, none⟩) (j + 1) cap) (j + 1) (gcells (gs ++ [(p, q)])) ∧ W.grownBy w5 v.ownBlock) := by
  obtain ⟨i0, hi, hz0, hz1, hz2⟩ := info_parts Tryz.infoSgn
  obtain ⟨v', w5, hrun, hown', hgrow, hsome⟩ := run_append_own (P := Tryz.prog) W lo 44 44 130 i0 (.agg #[.int .i64 0, .int .i64 0]) 2 16 Tryz.underlying44 hi hz0 hz1 hz2 rfl (by decide) v j (gcells gs) h ⟨X, 0, none⟩ 1 1 [.int .i64 p, .int .i64 q] rfl (World.news_of_block hX) (by
    intro z hz
    simp only [List.mem_cons, List.not_mem_nil, or_false] at hz
    rcases hz with rfl | rfl <;> rfl) (by unfold maxLen; omega) (by omega) hlo
  obtain ⟨g, cap, rfl⟩ := ownsRow_succ hown'
  refine ⟨g, cap, w5, hrun, ?_, hgrow⟩
  rw [gcells_more]
  exact hown'
/-- Rows of two kinds lie in two blocks. -/
theorem rows_ne {W : World} {b1 b2 s1 s2 n1 n2 : Nat} {e1 e2 : TypeId} {v1 v2 : Value} {xs ys : List Value} (h1 : W.ownsRow b1 e1 s1 v1 n1 xs) (h2 : W.ownsRow b2 e2 s2 v2 n2 ys) (hne : e1 ≠ e2) : ∀ b, v1.ownBlock = some b → v2.ownBlock ≠ some b := by
  intro b hb hb2
  rcases h1.2 with ⟨e, _⟩ | ⟨g, c, cur, e, _, k1, _⟩
  · rw [e] at hb; cases hb
  · rcases h2.2 with ⟨e', _⟩ | ⟨g', c', cur', e', _, k2, _⟩
    · rw [e'] at hb2; cases hb2
    · rw [e] at hb
      rw [e'] at hb2
      have a1 : g = b := by simpa [Value.ownBlock] using hb
      have a2 : g' = b := by simpa [Value.ownBlock] using hb2
      subst a1
      rw [a2, k1] at k2
      have := Option.some.inj k2
      injection this with _ e3
      exact hne e3
theorem row_box_ne {W : World} {b1 s1 n1 LB : Nat} {e1 t : TypeId} {v1 : Value} {xs : List Value} {cs : Array Value} {fz : Nat × Nat} (h1 : W.ownsRow b1 e1 s1 v1 n1 xs) (hb : W.heap[LB]? = some (.cells cs t fz)) (hne : e1 ≠ t) : ∀ b, v1.ownBlock = some b → b ≠ LB := by
  intro b hbb e
  subst e
  rcases h1.2 with ⟨e, _⟩ | ⟨g, c, cur, e, _, k1, _⟩
  · rw [e] at hbb; cases hbb
  · rw [e] at hbb
    have a1 : g = b := by simpa [Value.ownBlock] using hbb
    subst a1
    rw [k1] at hb
    have := Option.some.inj hb
    injection this with _ e3
    exact hne e3
theorem row_grown {W W' : World} {r : Option Nat} {b1 s1 n1 : Nat} {e1 : TypeId} {v1 : Value} {xs : List Value} (h : W.ownsRow b1 e1 s1 v1 n1 xs) (hg : W.grownBy W' r) (hr : ∀ b, r = some b → v1.ownBlock ≠ some b) : W'.ownsRow b1 e1 s1 v1 n1 xs := by
  refine ⟨h.1, ?_⟩
  rcases h.2 with hn | ⟨g, cap, cur, rfl, hb, hgg, rest⟩
  · exact .inl hn
  · refine .inr ⟨g, cap, cur, rfl, hb, ?_, rest⟩
    rw [hg.block g (lt_of_block hgg) (fun e => hr g e.symm rfl)]
    exact hgg

section
variable {w v V V' : World} {SB : Nat} {ca : Option Addr} {cn cc t t' RB LB : Nat} {ta : Option Addr} {n tc : Nat} {ga : Option Addr} {m gc : Nat} {ss : List ByteArray} {gs : List (Int × Int)}
theorem Lr.took (hS : Src w V SB ca cn cc t) (hc : Chg (v.alloc (.cells #[.slice none 0 0, .slice none 0 0] 46)) V SB (SB + 1)) (h1 : V.ownsRow (v.alloc (.cells #[.slice none 0 0, .slice none 0 0] 46)).heap.size 9 1 (.slice ta n tc) n (ss.map Value.string)) (h2 : V.ownsRow (v.alloc (.cells #[.slice none 0 0, .slice none 0 0] 46)).heap.size 130 2 (.slice ga m gc) m (gcells gs)) (hf : Fine ss gs) (hl : SB < v.heap.size) :
    Lr w v (V.alloc (.cells #[.slice ta n tc, .slice ga m gc] 46)) SB ca cn cc t v.heap.size V.heap.size ta n tc ga m gc ss gs := by
  have hz : v.heap.size ≤ (v.alloc (.cells #[.slice none 0 0, .slice none 0 0] 46)).heap.size := by simp
  have hr : V.heap[v.heap.size]? = some (.cells #[.slice none 0 0, .slice none 0 0] 46 (0, 0)) := hc.keep1 (heap_alloc_new _ _) (by omega)
  exact ⟨hS.step (below_box _), ((Chg.of_below (below_box _) _ _).trans hc).trans (Chg.of_below (below_box _) _ _), heap_alloc_new _ _, (keepb hr (below_box _)).out, (Joins.ownsRow_le h1 hz).alloc _, (Joins.ownsRow_le h2 hz).alloc _, hf, hl, Nat.le_refl _, lt_of_block hr⟩
theorem Lr.lt (h : Lr w v V SB ca cn cc t RB LB ta n tc ga m gc ss gs) : LB < V.heap.size := lt_of_block h.box
/-- What grows by a row of one's own: all else of it stays. -/
theorem Lr.grown {r : Option Nat} (H : Lr w v V SB ca cn cc t RB LB ta n tc ga m gc ss gs) (hg : V.grownBy V' r) (hr : ∀ b, r = some b → v.heap.size ≤ b ∧ b ≠ LB ∧ b ≠ RB) : Src w V' SB ca cn cc t ∧ Chg v V' SB (SB + 1) ∧ V'.heap[LB]? = some (.cells #[.slice ta n tc, .slice ga m gc] 46 (0, 0)) ∧ V'.heap[RB]? = some (.cells #[.slice none 0 0, .slice none 0 0] 46 (0, 0)) := by
  have ho := H.ord
  have hlt := H.lt
  have hlr := lt_of_block H.res
  have hls := H.src.lt
  have hvs := H.chg.size
  have hsb := H.src.sb
  have hws := H.src.bel.size
  have kp : ∀ b, b < V.heap.size → (b < v.heap.size ∨ b = LB ∨ b = RB) → V'.heap[b]? = V.heap[b]? := fun b hb hd => hg.block b hb (fun e => by have := hr b e.symm; omega)
  refine ⟨⟨(kp SB hls (by omega)).trans H.src.box, ⟨hg.os.trans H.src.bel.os, hg.tape.trans H.src.bel.tape, hg.output.trans H.src.bel.output, Nat.le_trans hws hg.size, fun b hb => (kp b (by omega) (by omega)).trans (H.src.bel.block b hb)⟩, hsb⟩, ⟨hg.os.trans H.chg.os, hg.tape.trans H.chg.tape, hg.output.trans H.chg.output, Nat.le_trans hvs hg.size, fun b hb hd => (kp b (by omega) (by omega)).trans (H.chg.block b hb hd)⟩, (kp LB hlt (by omega)).trans H.box, (kp RB hlr (by omega)).trans H.res⟩
/-- One text more. -/
theorem Lr.moreT {x : ByteArray} (H : Lr w v V SB ca cn cc t RB LB ta n tc ga m gc ss gs) (hn : n ≤ 500) (hx : x.size ≤ maxLen) :
    ∃ g cap w5, (Builtin.append_ #[43, 43] 43 #[.slice ta n tc, .slice (some ⟨V.heap.size, 0, none⟩) 1 1]).run Tryz.prog (V.alloc (.cells #[.string x] 9)) = .ok (.slice (some ⟨g, 0, none⟩) (n + 1) cap) w5 ∧
      (w5.cell? ⟨LB, 0, none⟩ = some (.slice ta n tc) ∧ w5.frozen? ⟨LB, 0, none⟩ = false) ∧ Hid (Lr w v (w5.setCell ⟨LB, 0, none⟩ (.slice (some ⟨g, 0, none⟩) (n + 1) cap)) SB ca cn cc t RB LB (some ⟨g, 0, none⟩) (n + 1) cap ga m gc (ss ++ [x]) gs) := by
  have H1 := H.step (below_box (.cells #[.string x] 9))
  have ho := H.ord
  have hvs := H.chg.size
  obtain ⟨g, cap, w5, hrun, HG⟩ := strx_added (x := x) (X := V.heap.size) H1.rs (heap_alloc_new _ _) (by omega) (by simp; omega)
  obtain ⟨hown, hgr⟩ := HG.out
  obtain ⟨k1, k2, k3, k4⟩ := H1.grown hgr (fun b hb => ⟨(H1.rs.lt b hb).1, row_box_ne H1.rs H1.box (by decide) b hb, row_box_ne H1.rs H1.res (by decide) b hb⟩)
  have hrg := row_grown H1.rg hgr (fun b hb => rows_ne H1.rs H1.rg (by decide) b hb)
  refine ⟨g, cap, w5, hrun, ⟨(cells2 k3).1, Joins.unfrozen_of_block k3 0⟩, ?_⟩
  have hsb := H.src.sb
  refine ⟨⟨(Below.heap_setCell _ ⟨LB, 0, none⟩ _ SB (show SB ≠ LB by omega)).trans k1.box, k1.bel.setCell (p := ⟨LB, 0, none⟩) (show w.heap.size ≤ LB by omega) _, hsb⟩, ⟨k2.os, k2.tape, k2.output, by simpa using k2.size, fun b hb hd => (Below.heap_setCell _ ⟨LB, 0, none⟩ _ b (show b ≠ LB by omega)).trans (k2.block b hb hd)⟩, ?_, (Below.heap_setCell _ ⟨LB, 0, none⟩ _ RB (show RB ≠ LB by omega)).trans k4, row_set_other hown k3 (by decide) _, row_set_other hrg k3 (by decide) _, H.fine.text hx, ho⟩
  have := Joins.block_setCell (i := 0) k3 (.slice (some ⟨g, 0, none⟩) (n + 1) cap)
  simpa using this
/-- One signature more. -/
theorem Lr.moreG {p q : Int} (H : Lr w v V SB ca cn cc t RB LB ta n tc ga m gc ss gs) (hn : m ≤ 500) (hp : (Lit.int .i64 p).wf = true) (hq : (Lit.int .i64 q).wf = true) :
    ∃ g cap w5, (Builtin.append_ #[44, 44] 44 #[.slice ga m gc, .slice (some ⟨V.heap.size, 0, none⟩) 1 1]).run Tryz.prog (V.alloc (.cells #[.int .i64 p, .int .i64 q] 130)) = .ok (.slice (some ⟨g, 0, none⟩) (m + 1) cap) w5 ∧
      (w5.cell? ⟨LB, 1, none⟩ = some (.slice ga m gc) ∧ w5.frozen? ⟨LB, 1, none⟩ = false) ∧ Hid (Lr w v (w5.setCell ⟨LB, 1, none⟩ (.slice (some ⟨g, 0, none⟩) (m + 1) cap)) SB ca cn cc t RB LB ta n tc (some ⟨g, 0, none⟩) (m + 1) cap ss (gs ++ [(p, q)])) := by
  have H1 := H.step (below_box (.cells #[.int .i64 p, .int .i64 q] 130))
  have ho := H.ord
  have hvs := H.chg.size
  obtain ⟨g, cap, w5, hrun, HG⟩ := sgnx_added (p := p) (q := q) (X := V.heap.size) H1.rg (heap_alloc_new _ _) (by omega) (by simp; omega)
  obtain ⟨hown, hgr⟩ := HG.out
  obtain ⟨k1, k2, k3, k4⟩ := H1.grown hgr (fun b hb => ⟨(H1.rg.lt b hb).1, row_box_ne H1.rg H1.box (by decide) b hb, row_box_ne H1.rg H1.res (by decide) b hb⟩)
  have hrs := row_grown H1.rs hgr (fun b hb => rows_ne H1.rg H1.rs (by decide) b hb)
  refine ⟨g, cap, w5, hrun, ⟨(cells2 k3).2, Joins.unfrozen_of_block k3 1⟩, ?_⟩
  have hsb := H.src.sb
  refine ⟨⟨(Below.heap_setCell _ ⟨LB, 1, none⟩ _ SB (show SB ≠ LB by omega)).trans k1.box, k1.bel.setCell (p := ⟨LB, 1, none⟩) (show w.heap.size ≤ LB by omega) _, hsb⟩, ⟨k2.os, k2.tape, k2.output, by simpa using k2.size, fun b hb hd => (Below.heap_setCell _ ⟨LB, 1, none⟩ _ b (show b ≠ LB by omega)).trans (k2.block b hb hd)⟩, ?_, (Below.heap_setCell _ ⟨LB, 1, none⟩ _ RB (show RB ≠ LB by omega)).trans k4, row_set_other hrs k3 (by decide) _, row_set_other hown k3 (by decide) _, H.fine.sign hp hq, ho⟩
  have := Joins.block_setCell (i := 1) k3 (.slice (some ⟨g, 0, none⟩) (m + 1) cap)
  simpa using this
/-- The texts are others, in new memory. -/
theorem Lr.otherT {a' : Option Addr} {n' c' : Nat} {ss' : List ByteArray} (H : Lr w v V SB ca cn cc t RB LB ta n tc ga m gc ss gs) (hb : Below V.heap.size V V') (hr : V'.ownsRow V.heap.size 9 1 (.slice a' n' c') n' (ss'.map Value.string)) (hf : Fine ss' gs) :
    Lr w v (V'.setCell ⟨LB, 0, none⟩ (.slice a' n' c')) SB ca cn cc t RB LB a' n' c' ga m gc ss' gs := by
  have H1 := H.step hb
  have ho := H.ord
  have hsb := H.src.sb
  have hvs := H.chg.size
  refine ⟨⟨(Below.heap_setCell _ ⟨LB, 0, none⟩ _ SB (show SB ≠ LB by omega)).trans H1.src.box, H1.src.bel.setCell (p := ⟨LB, 0, none⟩) (show w.heap.size ≤ LB by omega) _, hsb⟩, ⟨H1.chg.os, H1.chg.tape, H1.chg.output, by simpa using H1.chg.size, fun b hb hd => (Below.heap_setCell _ ⟨LB, 0, none⟩ _ b (show b ≠ LB by omega)).trans (H1.chg.block b hb hd)⟩, ?_, (Below.heap_setCell _ ⟨LB, 0, none⟩ _ RB (show RB ≠ LB by omega)).trans H1.res, row_set_other (Joins.ownsRow_le hr (by omega)) H1.box (by decide) _, row_set_other H1.rg H1.box (by decide) _, hf, ho⟩
  have := Joins.block_setCell (i := 0) H1.box (.slice a' n' c')
  simpa using this
end

end Go.Proofs.YthjolannlefbcaaGreatDoor
