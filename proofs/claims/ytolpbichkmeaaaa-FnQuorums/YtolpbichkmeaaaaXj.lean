/- A lot's first keys, those taken out, and a lot that is sorted. -/
import Derived.Test.YtolpbichkmeaaaaXi
import Derived.Test.YtolpbichkmeaaaaXa
import Derived.Test.YtolpbichkmeaaaaCnC
namespace Go.Proofs.Ytolpbichkmeaaaa
open Go.RowKit Go.Maps Go.WideMaps Go.Shelf

set_option maxRecDepth 20000 in
set_option maxHeartbeats 1000000 in
theorem first_any (L : List Int) (c m : Int) (w : World) :
    Calls Try.prog 30 #[.agg #[.int .i64 (lkAt L 0), .int .i64 (lkAt L 1), .int .i64 (lkAt L 2), .int .i64 (lkAt L 3), .int .i64 (lkAt L 4), .int .i64 (lkAt L 5), .int .i64 (lkAt L 6), .int .i64 (lkAt L 7), .int .i64 c], .int .i64 m] w fun e w' => e = .returned (.agg #[.int .i64 (lkAt L 0), .int .i64 (lkAt L 1), .int .i64 (lkAt L 2), .int .i64 (lkAt L 3), .int .i64 (lkAt L 4), .int .i64 (lkAt L 5), .int .i64 (lkAt L 6), .int .i64 (lkAt L 7), .int .i64 m]) ∧ Below w.heap.size w w' := by
  obtain ⟨s0, s1, s2, s3, s4, s5, s6, s7, s8⟩ := cells9 (heap_alloc_at (w.alloc (.cells #[.int .i64 (lkAt L 0), .int .i64 (lkAt L 1), .int .i64 (lkAt L 2), .int .i64 (lkAt L 3), .int .i64 (lkAt L 4), .int .i64 (lkAt L 5), .int .i64 (lkAt L 6), .int .i64 (lkAt L 7), .int .i64 m] 54)) (.cells #[.int .i64 (lkAt L 0), .int .i64 (lkAt L 1), .int .i64 (lkAt L 2), .int .i64 (lkAt L 3), .int .i64 (lkAt L 4), .int .i64 (lkAt L 5), .int .i64 (lkAt L 6), .int .i64 (lkAt L 7), .int .i64 m] 54) (w.heap.size + 1) (by simp))
  go_enter Try.func30, Try.ntmps30
  go_wp2
  exact bodyPost_ret (v := .agg #[.int .i64 (lkAt L 0), .int .i64 (lkAt L 1), .int .i64 (lkAt L 2), .int .i64 (lkAt L 3), .int .i64 (lkAt L 4), .int .i64 (lkAt L 5), .int .i64 (lkAt L 6), .int .i64 (lkAt L 7), .int .i64 m]) (by simp [results, Try.results30, go_sem, s0, s1, s2, s3, s4, s5, s6, s7, s8]) rfl ⟨rfl, below_box2 _ _⟩

theorem lot_at {W : World} {B : Nat} {L : List Int} {z : Int} (c : Nat) (hc : c ≤ L.length) (h8 : c ≤ 8) (h : W.heap[B]? = some (.cells #[.int .i64 (lkAt L 0), .int .i64 (lkAt L 1), .int .i64 (lkAt L 2), .int .i64 (lkAt L 3), .int .i64 (lkAt L 4), .int .i64 (lkAt L 5), .int .i64 (lkAt L 6), .int .i64 (lkAt L 7), .int .i64 z] 54 (0, 0))) : IAt W (some ⟨B, 0, none⟩) c (L.take c) := by
  refine ⟨by simp; omega, .inr ⟨B, 0, rfl, lt_of_block h, fun j hj => ?_⟩⟩
  have e : (L.take c).getD j 0 = lkAt L j := by simp [lkAt, List.getD, hj]
  rw [Nat.zero_add, e]
  obtain ⟨s0, s1, s2, s3, s4, s5, s6, s7, _⟩ := cells9 h
  have h9 : j = 0 ∨ j = 1 ∨ j = 2 ∨ j = 3 ∨ j = 4 ∨ j = 5 ∨ j = 6 ∨ j = 7 := by omega
  rcases h9 with rfl | rfl | rfl | rfl | rfl | rfl | rfl | rfl <;> assumption

set_option maxRecDepth 20000 in
set_option maxHeartbeats 1000000 in
theorem list_any (L : List Int) (c : Nat) (w : World) (hc : c ≤ L.length) (h8 : c ≤ 8) :
    Calls Try.prog 32 #[.agg #[.int .i64 (lkAt L 0), .int .i64 (lkAt L 1), .int .i64 (lkAt L 2), .int .i64 (lkAt L 3), .int .i64 (lkAt L 4), .int .i64 (lkAt L 5), .int .i64 (lkAt L 6), .int .i64 (lkAt L 7), .int .i64 (c : Int)]] w fun e w' => ∃ g k, e = .returned (.slice (some ⟨g, 0, none⟩) c k) ∧ w'.ownsRow w.heap.size 2 1 (.slice (some ⟨g, 0, none⟩) c k) c (ints (L.take c)) ∧ Below w.heap.size w w' := by
  have hbx : Below w.heap.size w (w.alloc (.cells #[.int .i64 (lkAt L 0), .int .i64 (lkAt L 1), .int .i64 (lkAt L 2), .int .i64 (lkAt L 3), .int .i64 (lkAt L 4), .int .i64 (lkAt L 5), .int .i64 (lkAt L 6), .int .i64 (lkAt L 7), .int .i64 (c : Int)] 54)) := below_box _
  have hC := clone_any w.heap.size 0 c 8 (L.take c) (w.alloc (.cells #[.int .i64 (lkAt L 0), .int .i64 (lkAt L 1), .int .i64 (lkAt L 2), .int .i64 (lkAt L 3), .int .i64 (lkAt L 4), .int .i64 (lkAt L 5), .int .i64 (lkAt L 6), .int .i64 (lkAt L 7), .int .i64 (c : Int)] 54)) (by omega) (lot_at c hc h8 (heap_alloc_new _ _))
  have HB : Hid (Below w.heap.size w (w.alloc (.cells #[.int .i64 (lkAt L 0), .int .i64 (lkAt L 1), .int .i64 (lkAt L 2), .int .i64 (lkAt L 3), .int .i64 (lkAt L 4), .int .i64 (lkAt L 5), .int .i64 (lkAt L 6), .int .i64 (lkAt L 7), .int .i64 (c : Int)] 54))) := hbx
  have hci : (c : Int) ≤ 8 := by omega
  clear hbx
  go_enter Try.func32, Try.ntmps32
  go_wp2_with (go_at_call 57; (with_reducible refine hC.mono ?_); clear hC; rintro e w2 ⟨g, k, rfl, ho, hb⟩)
  go_ret
  exact ⟨g, k, rfl, Joins.ownsRow_le ho HB.out.size, HB.out.trans (hb.mono HB.out.size)⟩

/-- The first c of a list sorted, the rest as it was. -/
def srt (cf : Int → Int → Int) (L : List Int) (c : Nat) : List Int := ((L.take c).mergeSort fun x y => !(ltOf cf) y x) ++ L.drop c
theorem srt_length (cf : Int → Int → Int) (L : List Int) (c : Nat) : (srt cf L c).length = L.length := by
  unfold srt
  rw [List.length_append, List.length_mergeSort]
  simp
  omega
theorem put_at (S L : List Int) (c j : Nat) (hS : S.length = c) : (if 0 ≤ j ∧ j < 0 + S.toArray.size then Value.int .i64 (S.toArray[j - 0]!) else .int .i64 (lkAt L j)) = .int .i64 (lkAt (S ++ L.drop c) j) := by
  by_cases h : j < c
  · rw [if_pos ⟨Nat.zero_le _, by simp; omega⟩]
    have e : lkAt (S ++ L.drop c) j = S[j]'(by omega) := by unfold lkAt List.getD; rw [List.getElem?_append_left (by omega), List.getElem?_eq_getElem (by omega)]; rfl
    rw [e]
    simp [show j < S.length by omega]
  · rw [if_neg (by simp; omega)]
    unfold lkAt List.getD
    rw [List.getElem?_append_right (by omega), List.getElem?_drop, hS, show c + (j - c) = j by omega]
theorem put_lot (S L : List Int) (c : Nat) (z : Int) (hS : S.length = c) (h8 : c ≤ 8) : Sort.putCells (Value.int .i64) 0 S.toArray #[.int .i64 (lkAt L 0), .int .i64 (lkAt L 1), .int .i64 (lkAt L 2), .int .i64 (lkAt L 3), .int .i64 (lkAt L 4), .int .i64 (lkAt L 5), .int .i64 (lkAt L 6), .int .i64 (lkAt L 7), .int .i64 z] = #[.int .i64 (lkAt (S ++ L.drop c) 0), .int .i64 (lkAt (S ++ L.drop c) 1), .int .i64 (lkAt (S ++ L.drop c) 2), .int .i64 (lkAt (S ++ L.drop c) 3), .int .i64 (lkAt (S ++ L.drop c) 4), .int .i64 (lkAt (S ++ L.drop c) 5), .int .i64 (lkAt (S ++ L.drop c) 6), .int .i64 (lkAt (S ++ L.drop c) 7), .int .i64 z] := by
  have h9 : ¬ (0 ≤ 8 ∧ 8 < 0 + S.toArray.size) := by simp; omega
  unfold Sort.putCells
  apply Array.ext
  · simp
  intro i h1 h2
  have hi : i < 9 := by simpa using h2
  rw [Array.getElem_mapIdx]
  have hq : i = 0 ∨ i = 1 ∨ i = 2 ∨ i = 3 ∨ i = 4 ∨ i = 5 ∨ i = 6 ∨ i = 7 ∨ i = 8 := by omega
  rcases hq with rfl | rfl | rfl | rfl | rfl | rfl | rfl | rfl | rfl
  · exact put_at S L c 0 hS
  · exact put_at S L c 1 hS
  · exact put_at S L c 2 hS
  · exact put_at S L c 3 hS
  · exact put_at S L c 4 hS
  · exact put_at S L c 5 hS
  · exact put_at S L c 6 hS
  · exact put_at S L c 7 hS
  · rw [if_neg h9]; rfl

theorem grow_of_belowQ {w w' : World} (hb : Below w.heap.size w w') (hd : w.drawn ≤ w'.drawn) : ∃ q os', w' = Sort.grow (w.drewN q) os' := by
  have hheap : w.heap ++ w'.heap.extract w.heap.size w'.heap.size = w'.heap := by
    apply Array.ext_getElem?
    intro k
    by_cases hk : k < w.heap.size
    · rw [Array.getElem?_append_left hk]; exact (hb.block k hk).symm
    · have := hb.size
      rw [Array.getElem?_append_right (by omega), Array.getElem?_extract]
      by_cases h2 : k < w'.heap.size
      · rw [if_pos (by omega)]
        congr 1
        omega
      · rw [if_neg (by omega), Array.getElem?_eq_none (by omega)]
  refine ⟨w'.drawn - w.drawn, w'.heap.extract w.heap.size w'.heap.size, ?_⟩
  have h1 := hb.os
  have h2 := hb.tape
  have h3 := hb.output
  obtain ⟨a1, a2, a3, a4, a5⟩ := w
  obtain ⟨b1, b2, b3, b4, b5⟩ := w'
  simp only at h1 h2 h3 hheap hd
  subst h1 h2 h3
  simp only [Sort.grow, World.drewN, World.mk.injEq, true_and, and_true]
  exact ⟨hheap.symm, by omega⟩

theorem block_sortedI {w : World} {g n : Nat} {os : Array Obj} {cur : Array Value} {e : TypeId} {fr : Nat × Nat} (d : Array Int) (hb : w.heap[g]? = some (.cells cur e fr)) :
    (Sort.grow (Sort.putRow (Value.int .i64) (Sort.ahead w n) g 0 d) os).heap[g]? = some (.cells (Sort.putCells (Value.int .i64) 0 d cur) e fr) := by
  have hg : g < w.heap.size := (Array.getElem?_eq_some_iff.1 hb).1
  rw [Sort.heap_grow_old _ _ (by simpa using hg)]
  simp [Sort.putRow, Sort.mapBlock, Sort.ahead, Array.getElem?_modify, hb, Sort.onCells]
theorem chg_sortedI {w : World} {g n : Nat} {os : Array Obj} (d : Array Int) : Chg w (Sort.grow (Sort.putRow (Value.int .i64) (Sort.ahead w n) g 0 d) os) g (g + 1) := by
  refine ⟨rfl, rfl, rfl, by simp, fun k hk hne => ?_⟩
  rw [Sort.heap_grow_old _ _ (by simpa using hk)]
  have : g ≠ k := by omega
  simp [Sort.putRow, Sort.mapBlock, Sort.ahead, Array.getElem?_modify, this]

/-- A function that compares two keys, whatever lies behind: it answers a fixed number, and turns nothing. -/
def CmpOk (w : World) (g : Nat) (cb : Array Value) (cf : Int → Int → Int) : Prop :=
  (∀ args w, (callFunc g args).run Try.prog w = .ok (.enter g args) w) ∧ Sort.SWO (ltOf cf) ∧ (∀ x y, (ltOf cf) x y = false → (ltOf cf) y x = false → x = y) ∧
  ∀ W, Below w.heap.size w W → ∀ x y : Int, Calls Try.prog g (#[.int .i64 x, .int .i64 y] ++ cb) W fun e w' => e = .returned (.int .i64 (cf x y)) ∧ Below W.heap.size W w' ∧ W.drawn ≤ w'.drawn

set_option maxHeartbeats 1000000 in
theorem sortI_any (B cap c g : Nat) (cb : Array Value) (cf : Int → Int → Int) (L : List Int) (z : Int) (w0 w : World) (hc : c ≤ L.length) (h8 : c ≤ 8) (hk : CmpOk w0 g cb cf) (hw : Below w0.heap.size w0 w) (hB0 : w0.heap.size ≤ B)
    (hB : w.heap[B]? = some (.cells #[.int .i64 (lkAt L 0), .int .i64 (lkAt L 1), .int .i64 (lkAt L 2), .int .i64 (lkAt L 3), .int .i64 (lkAt L 4), .int .i64 (lkAt L 5), .int .i64 (lkAt L 6), .int .i64 (lkAt L 7), .int .i64 z] 54 (0, 0))) :
    Calls Try.prog 53 #[.slice (some ⟨B, 0, none⟩) c cap, .func (.func g) #[] cb] w fun e w' => e = .returned (.tuple #[]) ∧ w'.heap[B]? = some (.cells #[.int .i64 (lkAt (srt cf L c) 0), .int .i64 (lkAt (srt cf L c) 1), .int .i64 (lkAt (srt cf L c) 2), .int .i64 (lkAt (srt cf L c) 3), .int .i64 (lkAt (srt cf L c) 4), .int .i64 (lkAt (srt cf L c) 5), .int .i64 (lkAt (srt cf L c) 6), .int .i64 (lkAt (srt cf L c) 7), .int .i64 z] 54 (0, 0)) ∧ Chg w w' B (B + 1) := by
  have hI := lot_at c hc h8 hB
  have hlt := lt_of_block hB
  have hS : (L.take c).length = c := by simp; omega
  have hcon := Any.slices_SortFunc_total Try.sortI (Value.int .i64) (fun _ => rfl) cf hk.2.1 g cb B 0 cap (L.take c).toArray w hk.1 (fun m os dk _ x y => ?_) (fun j hj => ?_) hlt (by simp; omega) hk.2.2.1
  · have hsz : (L.take c).toArray.size = c := by simpa using hS
    rw [hsz] at hcon
    refine Calls.mono (show Calls Try.prog 53 #[.slice (some ⟨B, 0, none⟩) c cap, .func (.func g) #[] cb] w _ from hcon) ?_
    rintro e w' ⟨rfl, n, os, rfl⟩
    refine ⟨rfl, ?_, chg_sortedI _⟩
    have := block_sortedI (n := n) (os := os) ((L.take c).mergeSort fun x y => !(ltOf cf) y x).toArray hB
    rw [put_lot _ L c z (by rw [List.length_mergeSort]; exact hS) h8] at this
    exact this
  · have hb : Below w0.heap.size w0 (sortWorld (Value.int .i64) w B 0 m dk os) := hw.trans ((chg_sortedI (w := w) (g := B) (n := m) (os := os) dk).below hB0 (Nat.le_trans hw.size (Nat.le_refl _)))
    exact (hk.2.2.2 _ hb x y).mono fun _ _ ⟨h1, h2, h3⟩ => ⟨h1, grow_of_belowQ h2 h3⟩
  · have hj' : j < c := by simp at hj; omega
    rcases hI.2 with h0 | ⟨b, off, e, _, hcl⟩
    · omega
    cases e
    refine ⟨?_, Joins.unfrozen_of_block hB _⟩
    rw [hcl j hj']
    simp [List.getD, hj', show j < L.length by omega]

set_option maxRecDepth 20000 in
set_option maxHeartbeats 1000000 in
theorem sortedBy_any (c g : Nat) (cb : Array Value) (cf : Int → Int → Int) (L : List Int) (w : World) (hc : c ≤ L.length) (h8 : c ≤ 8) (hk : CmpOk w g cb cf) :
    Calls Try.prog 28 #[.agg #[.int .i64 (lkAt L 0), .int .i64 (lkAt L 1), .int .i64 (lkAt L 2), .int .i64 (lkAt L 3), .int .i64 (lkAt L 4), .int .i64 (lkAt L 5), .int .i64 (lkAt L 6), .int .i64 (lkAt L 7), .int .i64 (c : Int)], .func (.func g) #[] cb] w fun e w' => e = .returned (.agg #[.int .i64 (lkAt (srt cf L c) 0), .int .i64 (lkAt (srt cf L c) 1), .int .i64 (lkAt (srt cf L c) 2), .int .i64 (lkAt (srt cf L c) 3), .int .i64 (lkAt (srt cf L c) 4), .int .i64 (lkAt (srt cf L c) 5), .int .i64 (lkAt (srt cf L c) 6), .int .i64 (lkAt (srt cf L c) 7), .int .i64 (c : Int)]) ∧ Below w.heap.size w w' := by
  obtain ⟨W, hW⟩ : ∃ W, W = (w.alloc (.cells #[.int .i64 (lkAt L 0), .int .i64 (lkAt L 1), .int .i64 (lkAt L 2), .int .i64 (lkAt L 3), .int .i64 (lkAt L 4), .int .i64 (lkAt L 5), .int .i64 (lkAt L 6), .int .i64 (lkAt L 7), .int .i64 (c : Int)] 54)).alloc (.cells #[.int .i64 0, .int .i64 0, .int .i64 0, .int .i64 0, .int .i64 0, .int .i64 0, .int .i64 0, .int .i64 0, .int .i64 0] 54) := ⟨_, rfl⟩
  have hbx : Below w.heap.size w W := by rw [hW]; exact below_box2 _ _
  have hB : W.heap[w.heap.size]? = some (.cells #[.int .i64 (lkAt L 0), .int .i64 (lkAt L 1), .int .i64 (lkAt L 2), .int .i64 (lkAt L 3), .int .i64 (lkAt L 4), .int .i64 (lkAt L 5), .int .i64 (lkAt L 6), .int .i64 (lkAt L 7), .int .i64 (c : Int)] 54 (0, 0)) := by rw [hW]; exact block_at2
  have hR : W.heap[w.heap.size + 1]? = some (.cells #[.int .i64 0, .int .i64 0, .int .i64 0, .int .i64 0, .int .i64 0, .int .i64 0, .int .i64 0, .int .i64 0, .int .i64 0] 54 (0, 0)) := by rw [hW]; exact heap_alloc_at _ _ _ (by simp)
  have hs := sortI_any w.heap.size 8 c g cb cf L (c : Int) w W hc h8 hk hbx (Nat.le_refl _) hB
  rw [hW] at hs
  have HR : Hid (W.heap[w.heap.size + 1]? = some (.cells #[.int .i64 0, .int .i64 0, .int .i64 0, .int .i64 0, .int .i64 0, .int .i64 0, .int .i64 0, .int .i64 0, .int .i64 0] 54 (0, 0))) := hR
  have HBX : Hid (Below w.heap.size w W) := hbx
  have HW : Hid (W = (w.alloc (.cells #[.int .i64 (lkAt L 0), .int .i64 (lkAt L 1), .int .i64 (lkAt L 2), .int .i64 (lkAt L 3), .int .i64 (lkAt L 4), .int .i64 (lkAt L 5), .int .i64 (lkAt L 6), .int .i64 (lkAt L 7), .int .i64 (c : Int)] 54)).alloc (.cells #[.int .i64 0, .int .i64 0, .int .i64 0, .int .i64 0, .int .i64 0, .int .i64 0, .int .i64 0, .int .i64 0, .int .i64 0] 54)) := hW
  have hci : (c : Int) ≤ 8 := by omega
  clear hk hB hR hbx hW
  go_enter Try.func28, Try.ntmps28
  go_wp2_with (go_at_call 53; (with_reducible refine hs.mono ?_); clear hs; rintro e w2 ⟨rfl, hB2, hch⟩; rw [← HW.out] at hch; have HR2 : Hid (w2.heap[w.heap.size + 1]? = some (.cells #[.int .i64 0, .int .i64 0, .int .i64 0, .int .i64 0, .int .i64 0, .int .i64 0, .int .i64 0, .int .i64 0, .int .i64 0] 54 (0, 0))) := hch.keep HR.out (.inr (Nat.le_refl _)); have HB2 : Hid (Below w.heap.size w w2) := HBX.out.trans (hch.below (Nat.le_refl _) HBX.out.size); obtain ⟨q0, q1, q2, q3, q4, q5, q6, q7, q8⟩ := cells9 hB2; obtain ⟨r0, r1, r2, r3, r4, r5, r6, r7, r8⟩ := cells9 HR2.out; obtain ⟨f0, f1, f2, f3, f4, f5, f6, f7, f8⟩ := frozen9 HR2.out; clear hch hB2)
  have hs := set9 HR2.out (.int .i64 (lkAt (srt cf L c) 0)) (.int .i64 (lkAt (srt cf L c) 1)) (.int .i64 (lkAt (srt cf L c) 2)) (.int .i64 (lkAt (srt cf L c) 3)) (.int .i64 (lkAt (srt cf L c) 4)) (.int .i64 (lkAt (srt cf L c) 5)) (.int .i64 (lkAt (srt cf L c) 6)) (.int .i64 (lkAt (srt cf L c) 7)) (.int .i64 (c : Int))
  obtain ⟨s0, s1, s2, s3, s4, s5, s6, s7, s8⟩ := cells9 hs
  exact bodyPost_ret (v := .agg #[.int .i64 (lkAt (srt cf L c) 0), .int .i64 (lkAt (srt cf L c) 1), .int .i64 (lkAt (srt cf L c) 2), .int .i64 (lkAt (srt cf L c) 3), .int .i64 (lkAt (srt cf L c) 4), .int .i64 (lkAt (srt cf L c) 5), .int .i64 (lkAt (srt cf L c) 6), .int .i64 (lkAt (srt cf L c) 7), .int .i64 (c : Int)]) (by simp [results, Try.results28, go_sem, s0, s1, s2, s3, s4, s5, s6, s7, s8]) rfl ⟨rfl, below_set9 HB2.out (by omega) _ _ _ _ _ _ _ _ _⟩

/-- How two keys stand by their ranks at a seed. -/
def rcmp (s : Int) (x y : Int) : Int := cmpR (rankR x s, x) (rankR y s, y)

set_option maxRecDepth 20000 in
set_option maxHeartbeats 4000000 in
theorem rankCmp_any (S0 : Nat) (a b s : Int) (w : World) (hS : w.cell? ⟨S0, 0, none⟩ = some (.int .i64 s)) :
    Calls Try.prog 54 #[.int .i64 a, .int .i64 b, .pointer (some ⟨S0, 0, none⟩)] w fun e w' => e = .returned (.int .i64 (rcmp s a b)) ∧ Below w.heap.size w w' ∧ w.drawn ≤ w'.drawn := by
  have hl0 : S0 < w.heap.size := World.block_lt_of_cell? _ _ hS
  obtain ⟨x, hx⟩ : ∃ p, p = rankR a s := ⟨_, rfl⟩
  obtain ⟨y, hy⟩ : ∃ p, p = rankR b s := ⟨_, rfl⟩
  obtain ⟨p, hp⟩ : ∃ p, p = cmpI x y := ⟨_, rfl⟩
  obtain ⟨q, hq⟩ : ∃ q, q = cmpI a b := ⟨_, rfl⟩
  have hr : rcmp s a b = if p = 0 then q else p := by unfold rcmp; rw [← hx, ← hy, hp, hq]; rfl
  have k1 : ∀ v, Calls Try.prog 10 #[.int .i64 a, .int .i64 s] v fun e w' => e = .returned (.int .i64 x) ∧ w' = v := fun v => by rw [hx]; exact iRankOf_any _ _ v
  have k2 : ∀ v, Calls Try.prog 10 #[.int .i64 b, .int .i64 s] v fun e w' => e = .returned (.int .i64 y) ∧ w' = v := fun v => by rw [hy]; exact iRankOf_any _ _ v
  have h1 : ∀ v, Calls Try.prog 31 #[.int .i64 x, .int .i64 y] v fun e w' => e = .returned (.int .i64 p) ∧ w' = v := fun v => by rw [hp]; exact cmpC_any _ _ v
  have h2 : ∀ v, Calls Try.prog 31 #[.int .i64 a, .int .i64 b] v fun e w' => e = .returned (.int .i64 q) ∧ w' = v := fun v => by rw [hq]; exact cmpC_any _ _ v
  rw [hr]
  obtain ⟨r, h3⟩ : ∃ r, r = if p = 0 then q else p := ⟨_, rfl⟩
  rw [← h3]
  have H3 : Hid ((if p = 0 then q else p) = r) := h3.symm
  clear hp hq hr h3 hx hy
  have hn0 : (w.alloc (.cells #[.int .i64 p, .int .i64 q] 3)).drew.heap[w.heap.size]? = some (.cells #[.int .i64 p, .int .i64 q] 3 (0, 0)) := heap_alloc_new _ _
  have hor := cmpOr_any w.heap.size 2 p q (w.alloc (.cells #[.int .i64 p, .int .i64 q] 3)).drew (cells2 hn0).1 (cells2 hn0).2
  have HBO : Hid (Below w.heap.size w (w.alloc (.cells #[.int .i64 p, .int .i64 q] 3)).drew) := (below_box _).trans ((Below.refl _ _).drew)
  clear hn0
  rw [H3.out] at hor
  go_enter Try.func54, Try.ntmps54
  go_wp2
  go_region_held3 (fun w' => w'.cell? ⟨S0, 0, none⟩ = some (.int .i64 s)) (go_keep)
    (first
      | (go_at_call 10; (first | (with_reducible refine (k1 _).mono ?_) | (with_reducible refine (k2 _).mono ?_)); rintro e w' ⟨rfl, hw⟩; have hw2 := hw.symm; subst hw2)
      | (go_at_call 31; (first | (with_reducible refine (h1 _).mono ?_) | (with_reducible refine (h2 _).mono ?_)); rintro e w' ⟨rfl, hw⟩; have hw2 := hw.symm; subst hw2)
      | (go_at_call 55; (with_reducible refine hor.mono ?_); rintro e w' ⟨rfl, hw⟩; have hw2 := hw.symm; subst hw2))
  go_wp2
  go_ret
  exact ⟨rfl, HBO.out, by show w.drawn ≤ w.drawn + 1; omega⟩

theorem cmpR_below {a b c d : Int} : cmpR (a, b) (c, d) < 0 ↔ a < c ∨ (a = c ∧ b < d) := by
  unfold cmpR cmpI
  simp only
  split <;> split <;> (try split) <;> omega
theorem ltRc (s x y : Int) : ltOf (rcmp s) x y = decide (rankR x s < rankR y s ∨ (rankR x s = rankR y s ∧ x < y)) := by
  unfold ltOf rcmp
  exact decide_eq_decide.2 cmpR_below
theorem ltCi (x y : Int) : ltOf cmpI x y = decide (x < y) := by
  unfold ltOf cmpI
  apply decide_eq_decide.2
  split <;> (try split) <;> omega

theorem cmpOk_rank (w : World) (S0 : Nat) (s : Int) (hS : w.cell? ⟨S0, 0, none⟩ = some (.int .i64 s)) : CmpOk w 54 #[.pointer (some ⟨S0, 0, none⟩)] (rcmp s) := by
  refine ⟨enters_of Try.func54 (by kernel_rfl) rfl, ⟨fun x => by rw [ltRc]; simp, fun x y z h1 h2 => by rw [ltRc] at *; simp at *; omega, fun x y z h1 h2 => by rw [ltRc] at *; simp at *; omega⟩, fun x y h1 h2 => by rw [ltRc] at *; simp at *; omega, fun W hW x y => ?_⟩
  exact rankCmp_any S0 x y s W ((hW.cell (p := ⟨S0, 0, none⟩) (World.block_lt_of_cell? _ _ hS)).trans hS)
theorem cmpOk_nums (w : World) : CmpOk w 31 #[] cmpI := by
  refine ⟨enters_of Try.func31 (by kernel_rfl) rfl, ⟨fun x => by rw [ltCi]; simp, fun x y z h1 h2 => by rw [ltCi] at *; simp at *; omega, fun x y z h1 h2 => by rw [ltCi] at *; simp at *; omega⟩, fun x y h1 h2 => by rw [ltCi] at *; simp at *; omega, fun W hW x y => ?_⟩
  exact (cmpC_any x y W).mono fun _ _ ⟨h1, h2⟩ => ⟨h1, by rw [h2]; exact Below.refl _ _, by rw [h2]; exact Nat.le_refl _⟩

end Go.Proofs.Ytolpbichkmeaaaa
