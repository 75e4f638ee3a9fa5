/- The specification's copies of rules and coins. -/
import Derived.Test.YtngpegmfhhgkgaaGreatDoorCx
namespace Go.Proofs.YtngpegmfhhgkgaaGreatDoor
open Go.RowKit Go.Maps Go.WideMaps

set_option maxRecDepth 20000 in
set_option maxHeartbeats 1000000 in
theorem l2Copy_any (b off n cap : Nat) (l : List Int) (x y : Int) (w : World) (hn : n ≤ 1048576) (hI : IAt w (some ⟨b, off, none⟩) n l) :
    Calls Tryz.prog 69 #[.agg #[.slice (some ⟨b, off, none⟩) n cap, .int .i64 x, .int .i64 y]] w fun e w' => ∃ g c, e = .returned (.agg #[.slice (some ⟨g, 0, none⟩) n c, .int .i64 x, .int .i64 y]) ∧ w'.ownsRow (w.heap.size + 1 + 1) 2 1 (.slice (some ⟨g, 0, none⟩) n c) n (ints l) ∧ Below w.heap.size w w' := by
  obtain ⟨t0, t1, t2, t3⟩ := three_blocks w (.cells #[.slice (some ⟨b, off, none⟩) n cap, .int .i64 x, .int .i64 y] 64) (.cells #[.slice none 0 0, .int .i64 0, .int .i64 0] 64) (.cells #[] 2)
  have hbx : Below w.heap.size w (((w.alloc (.cells #[.slice (some ⟨b, off, none⟩) n cap, .int .i64 x, .int .i64 y] 64)).alloc (.cells #[.slice none 0 0, .int .i64 0, .int .i64 0] 64)).alloc (.cells #[] 2)) := below_box3 _ _ _
  obtain ⟨g, kc, w3, hrun, HW⟩ := keys_added (W := (((w.alloc (.cells #[.slice (some ⟨b, off, none⟩) n cap, .int .i64 x, .int .i64 y] 64)).alloc (.cells #[.slice none 0 0, .int .i64 0, .int .i64 0] 64)).alloc (.cells #[] 2))) (X := w.heap.size + 1 + 1) (c := cap) (base := w.heap.size + 1 + 1) t2 (Nat.le_refl _) (hI.below hbx (Nat.le_refl _)) hn (by rw [t3]; omega)
  have h0 : w3.heap[w.heap.size]? = some (.cells #[.slice (some ⟨b, off, none⟩) n cap, .int .i64 x, .int .i64 y] 64 (0, 0)) := (HW.out.2.block w.heap.size (by rw [t3]; omega) (by simp; omega)).trans t0
  have h1 : w3.heap[w.heap.size + 1]? = some (.cells #[.slice none 0 0, .int .i64 0, .int .i64 0] 64 (0, 0)) := (HW.out.2.block (w.heap.size + 1) (by rw [t3]; omega) (by simp)).trans t1
  have HB3 : Hid (Below w.heap.size w w3) := grown_new hbx HW.out.2 (by omega)
  obtain ⟨s0, s1, s2⟩ := cells3 h0
  obtain ⟨r0, r1, r2⟩ := cells3 h1
  have f0 := Joins.unfrozen_of_block h0 0
  have q0 := Joins.unfrozen_of_block h1 0
  have q1 := Joins.unfrozen_of_block h1 1
  have q2 := Joins.unfrozen_of_block h1 2
  have H1 : Hid (w3.heap[w.heap.size + 1]? = some (.cells #[.slice none 0 0, .int .i64 0, .int .i64 0] 64 (0, 0))) := h1
  clear t0 t1 t2 t3 hbx hI h0 h1
  go_enter Tryz.func69, Tryz.ntmps69
  go_wp2_with (first | (at_builtin; go_must (refine wpList_append_runC (by rfl) _ _ _ (by rfl) (by rfl) (by rfl) hrun ?_); clear hrun))
  have hR : (w3.setCell ⟨w.heap.size, 0, none⟩ (.slice (some ⟨g, 0, none⟩) n kc)).heap[w.heap.size + 1]? = some (.cells #[.slice none 0 0, .int .i64 0, .int .i64 0] 64 (0, 0)) := (Below.heap_setCell _ ⟨w.heap.size, 0, none⟩ _ (w.heap.size + 1) (show w.heap.size + 1 ≠ w.heap.size by omega)).trans H1.out
  obtain ⟨j0, j1, j2⟩ := three_set hR (.slice (some ⟨g, 0, none⟩) n kc) (.int .i64 x) (.int .i64 y)
  refine bodyPost_ret (v := .agg #[.slice (some ⟨g, 0, none⟩) n kc, .int .i64 x, .int .i64 y]) (by simp [results, Tryz.results69, go_sem, j0, j1, j2]) rfl ⟨g, kc, rfl, ?_, ?_⟩
  · exact row_set3 (ownsRow_setCell_below HW.out.1 (a := ⟨w.heap.size, 0, none⟩) (show w.heap.size < _ by omega) _) (by omega) _ _ _
  · exact below_set3 (HB3.out.setCell (p := ⟨w.heap.size, 0, none⟩) (Nat.le_refl _) _) (by omega) _ _ _

/-- A coin more: what the append leaves. -/
theorem coin_added {W : World} {lo X j : Nat} {v u : Value} {f : Nat → Co} {kv : Nat → Value} {o : Co} (h : COwn W lo W.heap.size v j f kv) (hX : W.heap[X]? = some (.cells #[.int .i64 o.p, .int .i64 o.q, .int .i64 o.v, u, .int .i64 o.x, .int .i64 o.y, .int .i64 o.h, .bool o.m] 68 (0, 0))) (hu1 : u.oneCell' = true) (hrow : W.ownsRow lo 2 1 u o.l.length (ints o.l)) (hap : ∀ i, i < j → ∀ b, (kv i).ownBlock = some b → u.ownBlock ≠ some b) (hj : j ≤ 1000) (hlo : lo ≤ W.heap.size) (hf : f j = o) :
    ∃ g cap w5, (Builtin.append_ #[29, 29] 29 #[v, .slice (some ⟨X, 0, none⟩) 1 1]).run Tryz.prog W = .ok (.slice (some ⟨g, 0, none⟩) (j + 1) cap) w5 ∧
      Hid (COwn w5 lo w5.heap.size (.slice (some ⟨g, 0, none⟩) (j + 1) cap) (j + 1) f (fun i => if i = j then u else kv i) ∧ W.grownBy w5 v.ownBlock) := by
  obtain ⟨i0, hi, hz0, hz1, hz2⟩ := info_parts Tryz.infoCoin
  obtain ⟨xs, hown, hcells⟩ := h.row
  obtain ⟨v', w5, hrun, hown', hgrow, hsome⟩ := run_append_own (P := Tryz.prog) W lo 29 29 68 i0 (.agg #[.int .i64 0, .int .i64 0, .int .i64 0, .slice none 0 0, .int .i64 0, .int .i64 0, .int .i64 0, .bool false]) 8 80 Tryz.underlying29 hi hz0 hz1 hz2 rfl (by decide) v j xs hown ⟨X, 0, none⟩ 1 1 [.int .i64 o.p, .int .i64 o.q, .int .i64 o.v, u, .int .i64 o.x, .int .i64 o.y, .int .i64 o.h, .bool o.m] rfl (World.news_of_block hX) (by
    intro z hz
    simp only [List.mem_cons, List.not_mem_nil, or_false] at hz
    rcases hz with rfl | rfl | rfl | rfl | rfl | rfl | rfl | rfl <;> first | rfl | exact hu1) (by unfold maxLen; omega) (by omega) hlo
  obtain ⟨g, cap, rfl⟩ := ownsRow_succ hown'
  have hxl := hown.1
  have kp : ∀ (z : Value) (d : Nat) (zs : List Value), W.ownsRow lo 2 1 z d zs → w5.ownsRow lo 2 1 z d zs := fun z d zs hz => hz.kept hgrow (by
    cases e : z.ownBlock with
    | none => exact .inl rfl
    | some b => exact .inr fun e2 => rows_apart (by decide) hown hz b e2.symm e)
  refine ⟨g, cap, w5, hrun, ⟨⟨_, hown', fun i hi => ?_⟩, fun b hb => (hown'.lt b hb).2, fun i hi => ?_, fun i k hik hk b hb => ?_⟩, hgrow⟩
  · by_cases e : i = j
    · subst e
      rw [if_pos rfl, hf]
      refine ⟨?_, ?_, ?_, ?_, ?_, ?_, ?_, ?_⟩ <;> (rw [List.getElem?_append_right (by omega), hxl]; simp)
    · obtain ⟨a0, a1, a2, a3, a4, a5, a6, a7⟩ := hcells i (by omega)
      rw [if_neg e]
      refine ⟨?_, ?_, ?_, ?_, ?_, ?_, ?_, ?_⟩
      · rw [List.getElem?_append_left (by omega)]; exact a0
      · rw [List.getElem?_append_left (by omega)]; exact a1
      · rw [List.getElem?_append_left (by omega)]; exact a2
      · rw [List.getElem?_append_left (by omega)]; exact a3
      · rw [List.getElem?_append_left (by omega)]; exact a4
      · rw [List.getElem?_append_left (by omega)]; exact a5
      · rw [List.getElem?_append_left (by omega)]; exact a6
      · rw [List.getElem?_append_left (by omega)]; exact a7
  · by_cases e : i = j
    · subst e
      rw [if_pos rfl, hf]
      exact ⟨kp _ _ _ hrow, fun b hb => ((kp _ _ _ hrow).lt b hb).2⟩
    · rw [if_neg e]
      have := kp _ _ _ (h.keys i (by omega)).1
      exact ⟨this, fun b hb => (this.lt b hb).2⟩
  · rw [if_neg (by omega)] at hb
    by_cases e : k = j
    · rw [if_pos e]; exact hap i (by omega) b hb
    · rw [if_neg e]; exact h.apart i k hik (by omega) b hb

end Go.Proofs.YtngpegmfhhgkgaaGreatDoor
