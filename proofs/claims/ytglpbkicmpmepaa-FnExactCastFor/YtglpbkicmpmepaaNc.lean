/- A node is put into the program's grove. -/
import Derived.Test.YtglpbkicmpmepaaNb
import Derived.Test.YtglpbkicmpmepaaCv
namespace Go.Proofs.Ytglpbkicmpmepaa
open Go.RowKit Go.Maps Go.WideMaps

theorem treeG_snoc {rest : List Mb} {o : Mb} : ∀ seen, treeG seen rest = 0 → nodeR (seen ++ rest) o.1 o.2.1 o.2.2 = 0 → treeG seen (rest ++ [o]) = 0 := by
  induction rest with
  | nil => intro seen _ h; rw [List.nil_append, treeG]; rw [List.append_nil] at h; rw [if_neg (by rw [h]; simp)]; rfl
  | cons g t ih =>
    intro seen h h2
    rw [treeG] at h
    by_cases e : nodeR seen g.1 g.2.1 g.2.2 ≠ 0
    · rw [if_pos e] at h; exact absurd h e
    · rw [if_neg e] at h
      rw [List.cons_append, treeG, if_neg e]
      exact ih (seen ++ [g]) h (by simpa using h2)
theorem tree_snoc {ms : List Mb} {o : Mb} (h : treeR ms = 0) (hn : nodeR ms o.1 o.2.1 o.2.2 = 0) (hl : ms.length < 60) : treeR (ms ++ [o]) = 0 := by
  unfold treeR at h ⊢
  rw [if_neg (by omega)] at h
  rw [if_neg (by simp; omega)]
  exact treeG_snoc [] h (by simpa using hn)
theorem node_ok {ms : List Mb} {id pv h : Int} (e : nodeR ms id pv h = 0) : inB id 1 60 = true ∧ nAt ms id = -1 ∧ (pv = 0 ∨ 0 ≤ nAt ms pv) := by
  unfold nodeR at e
  by_cases h1 : inB id 1 60 = false ∨ inB h 1 40 = false
  · rw [if_pos h1] at e; cases e
  · rw [if_neg h1] at e
    by_cases h2 : 0 ≤ nAt ms id
    · rw [if_pos h2] at e; cases e
    · rw [if_neg h2] at e
      by_cases h3 : pv ≠ 0 ∧ nAt ms pv < 0
      · rw [if_pos h3] at e; cases e
      · refine ⟨?_, ?_, ?_⟩
        · cases hh : inB id 1 60
          · exact absurd (.inl hh) h1
          · rfl
        · rcases nAt_lt ms id with q | ⟨j, _, q, _⟩
          · exact q
          · omega
        · by_cases e0 : pv = 0
          · exact .inl e0
          · exact .inr (by have : ¬ nAt ms pv < 0 := fun q => h3 ⟨e0, q⟩; omega)
theorem ptrOf_keep {ms : List Mb} {bs : List Nat} {o : Mb} {X : Nat} {pv : Int} (hl : bs.length = ms.length) (hn : nodeR ms o.1 o.2.1 o.2.2 = 0) (hp : pv = 0 ∨ 0 ≤ nAt ms pv) : ptrOf (ms ++ [o]) (bs ++ [X]) pv = ptrOf ms bs pv := by
  obtain ⟨h1, h2, _⟩ := node_ok hn
  rw [ptrOf_snoc hl h2, if_neg]
  rintro rfl
  rcases hp with e | e
  · rw [e] at h1; revert h1; decide
  · omega

/-- One more pointer: what the append leaves. -/
theorem ptr_added {W : World} {lo X Y j : Nat} {v : Value} {bs : List Nat} (h : W.ownsRow lo 89 1 v j (bs.map ptB)) (hX : W.heap[Y]? = some (.cells #[.pointer (some ⟨X, 0, none⟩)] 89 (0, 0))) (hj : j ≤ 1000) (hlo : lo ≤ W.heap.size) :
    ∃ g cap w5, (Builtin.append_ #[84, 84] 84 #[v, .slice (some ⟨Y, 0, none⟩) 1 1]).run Try.prog W = .ok (.slice (some ⟨g, 0, none⟩) (j + 1) cap) w5 ∧
      Hid (w5.ownsRow lo 89 1 (.slice (some ⟨g, 0, none⟩) (j + 1) cap) (j + 1) ((bs ++ [X]).map ptB) ∧ W.grownBy w5 v.ownBlock) := by
  obtain ⟨i0, hi, hz0, hz1, hz2⟩ := info_parts Try.infoPb
  obtain ⟨v', w5, hrun, hown', hgrow, hsome⟩ := run_append_own (P := Try.prog) W lo 84 84 89 i0 (.pointer none) 1 8 Try.underlying84 hi hz0 hz1 hz2 rfl (by decide) v j (bs.map ptB) h ⟨Y, 0, none⟩ 1 1 [.pointer (some ⟨X, 0, none⟩)] rfl (World.news_of_block hX) (by
    intro z hz
    simp only [List.mem_cons, List.not_mem_nil, or_false] at hz
    subst hz; rfl) (by unfold maxLen; omega) (by omega) hlo
  obtain ⟨g, cap, rfl⟩ := ownsRow_succ hown'
  refine ⟨g, cap, w5, hrun, ?_, hgrow⟩
  rw [List.map_append]
  exact hown'
theorem row_not {w : World} {lo n q z : Nat} {v : Value} {xs : List Value} {t : TypeId} {o : Obj} (ho : w.ownsRow lo t z v n xs) (hq : w.heap[q]? = some o) (hno : ∀ cur, o ≠ .cells cur t (0, 0)) : v.ownBlock ≠ some q := by
  intro hiv
  rcases ho.2 with ⟨rfl, _⟩ | ⟨g', c', cur, rfl, _, hh, _⟩
  · simp [Value.ownBlock] at hiv
  · simp [Value.ownBlock] at hiv
    subst hiv
    rw [hh] at hq
    exact hno cur (by simpa using hq.symm)

/-- The grove with one node more: the append, the store into the field, the map. -/
theorem Gv.more {V : World} {lo G B X : Nat} {s : Value} {ms : List Mb} {bs : List Nat} {o : Mb} (h : Gv V lo G B s ms bs) (hz : treeR ms = 0) (hn : nodeR ms o.1 o.2.1 o.2.2 = 0) (hl : ms.length < 60) (hlo : lo ≤ V.heap.size)
    (hX : V.heap[X]? = some (.cells #[.int .i64 o.1, .int .i64 o.2.1, .int .i64 o.2.2, ptrOf ms bs o.2.1] 103 (0, 0))) (hXl : lo ≤ X) (hXn : ∀ j, j < ms.length → bs.getD j 0 < X) :
    ∃ g cap w5, (Builtin.append_ #[84, 84] 84 #[s, .slice (some ⟨V.heap.size, 0, none⟩) 1 1]).run Try.prog (V.alloc (.cells #[.pointer (some ⟨X, 0, none⟩)] 89)) = .ok (.slice (some ⟨g, 0, none⟩) (ms.length + 1) cap) w5 ∧
      w5.cell? ⟨G, 0, none⟩ = some s ∧ w5.cell? ⟨G, 1, none⟩ = some (.map (some B)) ∧ w5.frozen? ⟨G, 0, none⟩ = false ∧
      (w5.setCell ⟨G, 0, none⟩ (.slice (some ⟨g, 0, none⟩) (ms.length + 1) cap)).cell? ⟨G, 1, none⟩ = some (.map (some B)) ∧
      Hid (∀ b, b < V.heap.size → (∀ cur, V.heap[b]? ≠ some (.cells cur 89 (0, 0))) → w5.heap[b]? = V.heap[b]?) ∧
      ∃ w7, (Instr.mapUpdate 83 (.map (some B)) (.int .i64 o.1) (.pointer (some ⟨X, 0, none⟩))).run Try.prog (w5.setCell ⟨G, 0, none⟩ (.slice (some ⟨g, 0, none⟩) (ms.length + 1) cap)).drew = .ok () w7 ∧
        Hid (Gv w7 lo G B (.slice (some ⟨g, 0, none⟩) (ms.length + 1) cap) (ms ++ [o]) (bs ++ [X]) ∧ Below lo V w7 ∧ ∀ b ob, V.heap[b]? = some ob → (∀ cur, ob ≠ .cells cur 89 (0, 0)) → b ≠ G → b ≠ B → w7.heap[b]? = some ob) := by
  obtain ⟨hid, hnat, hpv⟩ := node_ok hn
  have hb0 : Below V.heap.size V (V.alloc (.cells #[.pointer (some ⟨X, 0, none⟩)] 89)) := below_box _
  obtain ⟨g, cap, w5, hrun, HC⟩ := ptr_added (X := X) (Y := V.heap.size) (h.row.alloc (.cells #[.pointer (some ⟨X, 0, none⟩)] 89)) (heap_alloc_new _ _) (by omega) (by simp; omega)
  have ho5 := HC.out.1
  have hg5 := HC.out.2
  have keep : ∀ b, b < V.heap.size → (∀ cur, V.heap[b]? ≠ some (.cells cur 89 (0, 0))) → w5.heap[b]? = V.heap[b]? := fun b hb hno => by
    refine (hg5.block b (by simp; omega) ?_).trans (hb0.block b hb)
    intro e
    have : ∃ ob, V.heap[b]? = some ob := ⟨V.heap[b], by simp [hb]⟩
    obtain ⟨ob, hob⟩ := this
    exact row_not h.row hob (fun cur q => hno cur (by rw [hob, q])) e.symm
  have hbox5 : w5.heap[G]? = some (.cells #[s, .map (some B)] 86 (0, 0)) := (keep G (lt_of_block h.box) (fun cur q => by rw [h.box] at q; simp at q)).trans h.box
  have c0 : w5.cell? ⟨G, 0, none⟩ = some s := by simp [World.cell?, hbox5]
  have c1 : w5.cell? ⟨G, 1, none⟩ = some (.map (some B)) := by simp [World.cell?, hbox5]
  have hbox6 : (w5.setCell ⟨G, 0, none⟩ (.slice (some ⟨g, 0, none⟩) (ms.length + 1) cap)).heap[G]? = some (.cells #[.slice (some ⟨g, 0, none⟩) (ms.length + 1) cap, .map (some B)] 86 (0, 0)) := by
    have := Joins.block_setCell (i := 0) hbox5 (.slice (some ⟨g, 0, none⟩) (ms.length + 1) cap)
    simpa using this
  obtain ⟨D, ⟨es, ck, hes, hrest⟩, hat⟩ := id h.map
  have hBV : ∀ cur, V.heap[B]? ≠ some (.cells cur 89 (0, 0)) := fun cur q => by rw [hes] at q; simp at q
  have hm5 : Gm w5 B ms bs := (h.map.kept (grown_of_below hb0) (by simp)).kept hg5 (fun e => row_not h.row hes (fun cur => by simp) e.symm)
  have hGB : G ≠ B := by rintro rfl; rw [h.box] at hes; simp at hes
  have hm6 := hm5.setCell (a := ⟨G, 0, none⟩) (Ne.symm hGB) (.slice (some ⟨g, 0, none⟩) (ms.length + 1) cap)
  obtain ⟨w7, hrun7, hm7, hg7⟩ := hm6.drew.store (o := o) (X := X) (wf_in hid (by omega) (by omega)) h.len hnat (by omega)
  have hb5 : Below lo V w5 := (hb0.mono hlo).grown hg5 (by simp; omega) (fun k hk => (h.row.lt k hk).1)
  have hb6 : Below lo V (w5.setCell ⟨G, 0, none⟩ (.slice (some ⟨g, 0, none⟩) (ms.length + 1) cap)).drew := (hb5.setCell (p := ⟨G, 0, none⟩) h.gl.1 _).drew
  have hb7 : Below lo V w7 := hb6.grown hg7 (Nat.le_trans hlo hb6.size) (fun k e => by cases e; exact h.gl.2)
  have keep7 : ∀ b ob, V.heap[b]? = some ob → (∀ cur, ob ≠ .cells cur 89 (0, 0)) → b ≠ G → b ≠ B → w7.heap[b]? = some ob := fun b ob hb hno h1 h2 => by
    have hlt := lt_of_block hb
    have q5 : w5.heap[b]? = some ob := (keep b hlt (fun cur q => by rw [hb] at q; exact hno cur (by simpa using q))).trans hb
    have q6 : (w5.setCell ⟨G, 0, none⟩ (.slice (some ⟨g, 0, none⟩) (ms.length + 1) cap)).drew.heap[b]? = some ob := (Below.heap_setCell _ ⟨G, 0, none⟩ _ b h1).trans q5
    exact (hg7.block b (lt_of_block q6) (by simpa using h2)).trans q6
  have hgG : (some g : Option Nat) ≠ some G := row_not ho5 hbox5 (fun cur => by simp)
  have hes5 : w5.heap[B]? = some (.map es ck) := (keep B (lt_of_block hes) hBV).trans hes
  have hgB : (some g : Option Nat) ≠ some B := row_not ho5 hes5 (fun cur => by simp)
  have r6 := (ownsRow_setCell_other ho5 (a := ⟨G, 0, none⟩) (by simpa [Value.ownBlock] using hgG) (.slice (some ⟨g, 0, none⟩) (ms.length + 1) cap)).drew.kept hg7 (.inr hgB)
  have hXg : X ≠ G := by rintro rfl; rw [h.box] at hX; simp at hX
  have hXB : X ≠ B := by rintro rfl; rw [hes] at hX; simp at hX
  refine ⟨g, cap, w5, hrun, c0, c1, Joins.unfrozen_of_block hbox5 0, by unfold World.cell?; rw [hbox6]; rfl, keep, w7, hrun7, ⟨?_, ?_, hm7, by simp [h.len], ?_, ?_, h.gl⟩, hb7, keep7⟩
  · exact (hg7.block G (lt_of_block (w := (w5.setCell ⟨G, 0, none⟩ (.slice (some ⟨g, 0, none⟩) (ms.length + 1) cap)).drew) hbox6) (by simpa using hGB)).trans hbox6
  · have : (ms ++ [o]).length = ms.length + 1 := by simp
    rw [this]
    exact r6
  · intro j hj
    by_cases e : j < ms.length
    · have e1 : (ms ++ [o]).getD j Z3 = ms.getD j Z3 := by simp [List.getD, List.getElem?_append_left e]
      have e2 : (bs ++ [X]).getD j 0 = bs.getD j 0 := by simp [List.getD, List.getElem?_append_left (show j < bs.length by rw [h.len]; exact e)]
      have hp2 : (ms.getD j Z3).2.1 = 0 ∨ 0 ≤ nAt ms (ms.getD j Z3).2.1 := by
        rcases prev_lt hz e with q | ⟨q, _⟩
        · exact .inl q
        · exact .inr q
      rw [e1, e2, ptrOf_keep h.len hn hp2]
      obtain ⟨nd, nl⟩ := h.node j e
      refine ⟨keep7 _ _ nd (fun cur q => by simp at q) ?_ ?_, nl⟩
      · intro q; rw [q, h.box] at nd; simp at nd
      · intro q; rw [q, hes] at nd; simp at nd
    · have ej : j = ms.length := by simp at hj; omega
      have e1 : (ms ++ [o]).getD j Z3 = o := by simp [List.getD, ej]
      have e2 : (bs ++ [X]).getD j 0 = X := by simp [List.getD, ej, ← h.len]
      rw [e1, e2, ptrOf_keep h.len hn hpv]
      exact ⟨keep7 X _ hX (fun cur q => by simp at q) hXg hXB, hXl⟩
  · intro i j hij hj
    have ei : i < ms.length := by simp at hj; omega
    have e2 : (bs ++ [X]).getD i 0 = bs.getD i 0 := by simp [List.getD, List.getElem?_append_left (show i < bs.length by rw [h.len]; exact ei)]
    rw [e2]
    by_cases e : j < ms.length
    · have e3 : (bs ++ [X]).getD j 0 = bs.getD j 0 := by simp [List.getD, List.getElem?_append_left (show j < bs.length by rw [h.len]; exact e)]
      rw [e3]
      exact h.up i j hij e
    · have ej : j = ms.length := by simp at hj; omega
      have e3 : (bs ++ [X]).getD j 0 = X := by simp [List.getD, ej, ← h.len]
      rw [e3]
      exact hXn i ei

end Go.Proofs.Ytglpbkicmpmepaa
