/- A lot of keys in an array: how it is made, its first keys taken out, and sorted by a function value. -/
import Derived.Test.YtolpbichkmeaaaaRu
import Derived.Test.YtolpbichkmeaaaaCv
import Derived.Test.YtolpbichkmeaaaaSi
import Derived.Shelf.SlSortCmp.NoneTotal
import Derived.Laws.CopyRow
import Derived.Laws.CopyOwn
import Derived.Laws.IdiomCopy
namespace Go.Proofs.Ytolpbichkmeaaaa
open Go.RowKit Go.Maps Go.WideMaps

/-- The key at a place, 0 where there is none. -/
def lkAt (L : List Int) (j : Nat) : Int := L.getD j 0

theorem wpList_copy_runL {P : Program} {w : World} {ops : Array Oper} {rest : List Oper} {o : Oper} {a : Act} {Q : Exit → Act → World → Prop} (hgd : o.guard = none) (s x : Operand) (t t' : TypeId)
    (hop : o.op = .call { callee := .builtin .copy, args := #[s, x], argTypes := #[t, t'] }) {v u v' : Value} {w' : World} (hs : a.eval s = v) (hx : a.eval x = u) (hrun : (Builtin.copy_ #[t, t'] o.type #[v, u]).run P w = .ok v' w') (h : wpList P ops Q rest (a.put o.dst v') w') :
    wpList P ops Q (o :: rest) a w :=
  wpList_plain hgd fun _ hK => by
    unfold Oper.wp
    simp [execOp, hop, resolve, invoke, builtin, hs, hx, hrun, Result.andThen]
    exact hK _ _ h

section
variable {w w2 W v : World} {b B : Nat} {c0 c1 c2 c3 c4 c5 c6 c7 c8 : Value} {t : TypeId}
theorem cells9 (h : v.heap[b]? = some (.cells #[c0, c1, c2, c3, c4, c5, c6, c7, c8] t (0, 0))) : v.cell? ⟨b, 0, none⟩ = some c0 ∧ v.cell? ⟨b, 1, none⟩ = some c1 ∧ v.cell? ⟨b, 2, none⟩ = some c2 ∧ v.cell? ⟨b, 3, none⟩ = some c3 ∧ v.cell? ⟨b, 4, none⟩ = some c4 ∧ v.cell? ⟨b, 5, none⟩ = some c5 ∧ v.cell? ⟨b, 6, none⟩ = some c6 ∧ v.cell? ⟨b, 7, none⟩ = some c7 ∧ v.cell? ⟨b, 8, none⟩ = some c8 :=
  ⟨by unfold World.cell?; rw [h]; rfl, by unfold World.cell?; rw [h]; rfl, by unfold World.cell?; rw [h]; rfl, by unfold World.cell?; rw [h]; rfl, by unfold World.cell?; rw [h]; rfl, by unfold World.cell?; rw [h]; rfl, by unfold World.cell?; rw [h]; rfl, by unfold World.cell?; rw [h]; rfl, by unfold World.cell?; rw [h]; rfl⟩
theorem frozen9 (h : v.heap[b]? = some (.cells #[c0, c1, c2, c3, c4, c5, c6, c7, c8] t (0, 0))) : v.frozen? ⟨b, 0, none⟩ = false ∧ v.frozen? ⟨b, 1, none⟩ = false ∧ v.frozen? ⟨b, 2, none⟩ = false ∧ v.frozen? ⟨b, 3, none⟩ = false ∧ v.frozen? ⟨b, 4, none⟩ = false ∧ v.frozen? ⟨b, 5, none⟩ = false ∧ v.frozen? ⟨b, 6, none⟩ = false ∧ v.frozen? ⟨b, 7, none⟩ = false ∧ v.frozen? ⟨b, 8, none⟩ = false :=
  ⟨Joins.unfrozen_of_block h 0, Joins.unfrozen_of_block h 1, Joins.unfrozen_of_block h 2, Joins.unfrozen_of_block h 3, Joins.unfrozen_of_block h 4, Joins.unfrozen_of_block h 5, Joins.unfrozen_of_block h 6, Joins.unfrozen_of_block h 7, Joins.unfrozen_of_block h 8⟩
theorem set9 (h : W.heap[b]? = some (.cells #[c0, c1, c2, c3, c4, c5, c6, c7, c8] t (0, 0))) (v0 v1 v2 v3 v4 v5 v6 v7 v8 : Value) :
    ((((((((((W.setCell ⟨b, 0, none⟩ v0).setCell ⟨b, 1, none⟩ v1).setCell ⟨b, 2, none⟩ v2).setCell ⟨b, 3, none⟩ v3).setCell ⟨b, 4, none⟩ v4).setCell ⟨b, 5, none⟩ v5).setCell ⟨b, 6, none⟩ v6).setCell ⟨b, 7, none⟩ v7).setCell ⟨b, 8, none⟩ v8)).heap[b]? = some (.cells #[v0, v1, v2, v3, v4, v5, v6, v7, v8] t (0, 0)) := by
  have h0 := Joins.block_setCell (i := 0) h v0
  simp at h0
  have h1 := Joins.block_setCell (i := 1) h0 v1
  simp at h1
  have h2 := Joins.block_setCell (i := 2) h1 v2
  simp at h2
  have h3 := Joins.block_setCell (i := 3) h2 v3
  simp at h3
  have h4 := Joins.block_setCell (i := 4) h3 v4
  simp at h4
  have h5 := Joins.block_setCell (i := 5) h4 v5
  simp at h5
  have h6 := Joins.block_setCell (i := 6) h5 v6
  simp at h6
  have h7 := Joins.block_setCell (i := 7) h6 v7
  simp at h7
  have h8 := Joins.block_setCell (i := 8) h7 v8
  simp at h8
  exact h8
theorem below_set9 (h : Below B w W) (hb : B ≤ b) (v0 v1 v2 v3 v4 v5 v6 v7 v8 : Value) : Below B w ((((((((((W.setCell ⟨b, 0, none⟩ v0).setCell ⟨b, 1, none⟩ v1).setCell ⟨b, 2, none⟩ v2).setCell ⟨b, 3, none⟩ v3).setCell ⟨b, 4, none⟩ v4).setCell ⟨b, 5, none⟩ v5).setCell ⟨b, 6, none⟩ v6).setCell ⟨b, 7, none⟩ v7).setCell ⟨b, 8, none⟩ v8)) :=
  (((((((((h.setCell (p := ⟨b, 0, none⟩) hb _).setCell (p := ⟨b, 1, none⟩) hb _).setCell (p := ⟨b, 2, none⟩) hb _).setCell (p := ⟨b, 3, none⟩) hb _).setCell (p := ⟨b, 4, none⟩) hb _).setCell (p := ⟨b, 5, none⟩) hb _).setCell (p := ⟨b, 6, none⟩) hb _).setCell (p := ⟨b, 7, none⟩) hb _).setCell (p := ⟨b, 8, none⟩) hb _)
end

theorem lot_filled (l : List Int) (n : Nat) (hn : l.length = n) (h8 : n ≤ 8) : ((#[.int .i64 0, .int .i64 0, .int .i64 0, .int .i64 0, .int .i64 0, .int .i64 0, .int .i64 0, .int .i64 0, .int .i64 (n : Int)] : Array Value).toList.take 0 ++ ints l ++ (#[.int .i64 0, .int .i64 0, .int .i64 0, .int .i64 0, .int .i64 0, .int .i64 0, .int .i64 0, .int .i64 0, .int .i64 (n : Int)] : Array Value).toList.drop (0 + (ints l).length)).toArray = #[.int .i64 (lkAt l 0), .int .i64 (lkAt l 1), .int .i64 (lkAt l 2), .int .i64 (lkAt l 3), .int .i64 (lkAt l 4), .int .i64 (lkAt l 5), .int .i64 (lkAt l 6), .int .i64 (lkAt l 7), .int .i64 (l.length : Int)] := by
  subst hn
  rcases l with _ | ⟨a0, l⟩
  · rfl
  rcases l with _ | ⟨a1, l⟩
  · rfl
  rcases l with _ | ⟨a2, l⟩
  · rfl
  rcases l with _ | ⟨a3, l⟩
  · rfl
  rcases l with _ | ⟨a4, l⟩
  · rfl
  rcases l with _ | ⟨a5, l⟩
  · rfl
  rcases l with _ | ⟨a6, l⟩
  · rfl
  rcases l with _ | ⟨a7, l⟩
  · rfl
  rcases l with _ | ⟨a8, l⟩
  · rfl
  · simp at h8

set_option maxRecDepth 20000 in
set_option maxHeartbeats 1000000 in
theorem lotOf_any (a : Option Addr) (n c : Nat) (l : List Int) (w : World) (h8 : n ≤ 8) (hI : IAt w a n l) :
    Calls Try.prog 27 #[.slice a n c] w fun e w' => e = .returned (.agg #[.int .i64 (lkAt l 0), .int .i64 (lkAt l 1), .int .i64 (lkAt l 2), .int .i64 (lkAt l 3), .int .i64 (lkAt l 4), .int .i64 (lkAt l 5), .int .i64 (lkAt l 6), .int .i64 (lkAt l 7), .int .i64 (n : Int)]) ∧ Below w.heap.size w w' := by
  have HN : Hid (l.length = n) := hI.1
  obtain ⟨W, hW⟩ : ∃ W, W = (w.alloc (.cells #[.int .i64 0, .int .i64 0, .int .i64 0, .int .i64 0, .int .i64 0, .int .i64 0, .int .i64 0, .int .i64 0, .int .i64 0] 54)).alloc (.cells #[.int .i64 0, .int .i64 0, .int .i64 0, .int .i64 0, .int .i64 0, .int .i64 0, .int .i64 0, .int .i64 0, .int .i64 (n : Int)] 54) := ⟨_, rfl⟩
  have hbx : Below w.heap.size w W := by rw [hW]; exact below_box2 _ _
  have hR : W.heap[w.heap.size]? = some (.cells #[.int .i64 0, .int .i64 0, .int .i64 0, .int .i64 0, .int .i64 0, .int .i64 0, .int .i64 0, .int .i64 0, .int .i64 0] 54 (0, 0)) := by rw [hW]; exact block_at2
  have hB : W.heap[w.heap.size + 1]? = some (.cells #[.int .i64 0, .int .i64 0, .int .i64 0, .int .i64 0, .int .i64 0, .int .i64 0, .int .i64 0, .int .i64 0, .int .i64 (n : Int)] 54 (0, 0)) := by rw [hW]; exact heap_alloc_at _ _ _ (by simp)
  have hcp : ∃ w2, Hid (∀ ty, (Builtin.copy_ #[24, 24] ty #[.slice (some ⟨w.heap.size + 1, 0, none⟩) 8 8, .slice a n c]).run Try.prog W = .ok (.int .i64 (n : Int)) w2) ∧ Below w.heap.size w w2 ∧ w2.heap[w.heap.size]? = some (.cells #[.int .i64 0, .int .i64 0, .int .i64 0, .int .i64 0, .int .i64 0, .int .i64 0, .int .i64 0, .int .i64 0, .int .i64 0] 54 (0, 0)) ∧ w2.heap[w.heap.size + 1]? = some (.cells #[.int .i64 (lkAt l 0), .int .i64 (lkAt l 1), .int .i64 (lkAt l 2), .int .i64 (lkAt l 3), .int .i64 (lkAt l 4), .int .i64 (lkAt l 5), .int .i64 (lkAt l 6), .int .i64 (lkAt l 7), .int .i64 (n : Int)] 54 (0, 0)) := by
    by_cases h0 : n = 0
    · subst h0
      have hl : l = [] := List.length_eq_zero_iff.1 HN.out
      subst hl
      exact ⟨W, fun ty => run_copy_none _ _ _ ty 2 _ _ _ _ _ _ Try.underlying24 (by kernel_rfl) (by simp), hbx, hR, hB⟩
    · rcases hI.2 with h | ⟨b, off, rfl, hlt, hc⟩
      · exact absurd h h0
      have hrun := fun ty => run_copy_row (P := Try.prog) W 24 24 ty 2 (w.heap.size + 1) 0 8 8 ⟨b, off, none⟩ n c _ 54 (ints l) Try.underlying24 (by kernel_rfl) hB (by simp [ints, HN.out]; exact (Nat.min_eq_left h8).symm)
        (fun j v hj => by
          have hj2 : j < n := by rw [← HN.out]; have := (List.getElem?_eq_some_iff.1 hj).1; simpa [ints] using this
          have e : (ints l)[j]? = some (.int .i64 (l.getD j 0)) := by simp [ints, List.getD, show j < l.length by rw [HN.out]; exact hj2]
          rw [e] at hj
          cases hj
          rw [add_none]
          exact (hbx.cell (p := ⟨b, off + j, none⟩) hlt).trans (hc j hj2)) (by simp [ints, HN.out]; omega) (fun v hv => by simp [ints] at hv; obtain ⟨x, _, rfl⟩ := hv; rfl)
      have hlen : (ints l).length = n := by simp [ints, HN.out]
      refine ⟨W.setRow (w.heap.size + 1) #[.int .i64 (lkAt l 0), .int .i64 (lkAt l 1), .int .i64 (lkAt l 2), .int .i64 (lkAt l 3), .int .i64 (lkAt l 4), .int .i64 (lkAt l 5), .int .i64 (lkAt l 6), .int .i64 (lkAt l 7), .int .i64 (n : Int)], fun ty => ?_, ?_, ?_, ?_⟩
      · have := hrun ty
        rw [lot_filled l n HN.out h8, hlen] at this
        rw [HN.out] at this
        exact this
      · exact below_setRow hbx (by omega) _
      · exact (setRow_other _ _ _ _ (by omega)).trans hR
      · exact setRow_heap _ _ _ _ _ _ hB
  obtain ⟨w2, HCP, hb2, hR2, hB2⟩ := hcp
  have hrun : ∀ ty, (Builtin.copy_ #[24, 24] ty #[.slice (some ⟨w.heap.size + 1, 0, none⟩) 8 8, .slice a n c]).run Try.prog W = .ok (.int .i64 (n : Int)) w2 := HCP.out
  rw [hW] at hrun
  obtain ⟨q0, q1, q2, q3, q4, q5, q6, q7, q8⟩ := cells9 hB2
  obtain ⟨r0, r1, r2, r3, r4, r5, r6, r7, r8⟩ := cells9 hR2
  obtain ⟨f0, f1, f2, f3, f4, f5, f6, f7, f8⟩ := frozen9 hR2
  have HR2 : Hid _ := hR2
  have HB2 : Hid (Below w.heap.size w w2) := hb2
  clear hI hW hbx hR hB HCP hR2 hB2 hb2
  go_enter Try.func27, Try.ntmps27
  go_wp2_with (first | (at_builtin; go_must (refine wpList_copy_runL (by rfl) _ _ _ _ (by rfl) (by rfl) (by rfl) (hrun _) ?_); clear hrun))
  have hs := set9 HR2.out (.int .i64 (lkAt l 0)) (.int .i64 (lkAt l 1)) (.int .i64 (lkAt l 2)) (.int .i64 (lkAt l 3)) (.int .i64 (lkAt l 4)) (.int .i64 (lkAt l 5)) (.int .i64 (lkAt l 6)) (.int .i64 (lkAt l 7)) (.int .i64 (n : Int))
  obtain ⟨s0, s1, s2, s3, s4, s5, s6, s7, s8⟩ := cells9 hs
  exact bodyPost_ret (v := .agg #[.int .i64 (lkAt l 0), .int .i64 (lkAt l 1), .int .i64 (lkAt l 2), .int .i64 (lkAt l 3), .int .i64 (lkAt l 4), .int .i64 (lkAt l 5), .int .i64 (lkAt l 6), .int .i64 (lkAt l 7), .int .i64 (n : Int)]) (by simp [results, Try.results27, go_sem, s0, s1, s2, s3, s4, s5, s6, s7, s8]) rfl ⟨rfl, below_set9 HB2.out (Nat.le_refl _) _ _ _ _ _ _ _ _ _⟩

end Go.Proofs.Ytolpbichkmeaaaa
