/- The program fills its purse with coins. -/
import Derived.Test.YtngpegmfhhgkgaaGreatDoorCu
namespace Go.Proofs.YtngpegmfhhgkgaaGreatDoor
open Go.RowKit Go.Maps Go.WideMaps

theorem news_ints {w : World} {b off n : Nat} {l : List Int} (h : IAt w (some ⟨b, off, none⟩) n l) : ∀ j u, (ints l)[j]? = some u → w.cell? ((⟨b, off, none⟩ : Addr).add j) = some u := by
  intro j u hj
  have hjl : j < l.length := by
    have := (List.getElem?_eq_some_iff.1 hj).1
    simpa [ints] using this
  rcases h.2 with h0 | ⟨b', off', e, _, hc⟩
  · have := h.1; omega
  · cases e
    have := hc j (by rw [← h.1]; exact hjl)
    have ea : (⟨b, off, none⟩ : Addr).add j = ⟨b, off + j, none⟩ := by simp [Addr.add]
    rw [ea, this]
    simp [ints] at hj
    obtain ⟨a, ha, rfl⟩ := hj
    rw [List.getD, ha]; rfl
theorem one_ints (l : List Int) : ∀ u ∈ ints l, u.oneCell' = true := by
  intro u hu
  simp [ints] at hu
  obtain ⟨a, _, rfl⟩ := hu
  rfl

/-- Keys appended to an empty row that has just been laid. -/
theorem keys_added {W : World} {X b off n c base : Nat} {l : List Int} (hX : W.heap[X]? = some (.cells #[] 2 (0, 0))) (hbX : base ≤ X) (hI : IAt W (some ⟨b, off, none⟩) n l) (hn : n ≤ 1048576) (hb : base ≤ W.heap.size) :
    ∃ g cap w3, (Builtin.append_ #[49, 49] 49 #[.slice (some ⟨X, 0, none⟩) 0 0, .slice (some ⟨b, off, none⟩) n c]).run Tryz.prog W = .ok (.slice (some ⟨g, 0, none⟩) n cap) w3 ∧
      Hid (w3.ownsRow base 2 1 (.slice (some ⟨g, 0, none⟩) n cap) n (ints l) ∧ W.grownBy w3 (some X)) := by
  obtain ⟨i0, hi, hz0, hz1, hz2⟩ := info_parts Tryz.infoI64
  have hown := own_empty (size := 1) hX hbX
  obtain ⟨v', w3, hrun, hown', hgrow, hsome⟩ := run_append_own (P := Tryz.prog) W base 49 49 2 i0 (.int .i64 0) 1 8 Tryz.underlying49 hi hz0 hz1 hz2 rfl (by decide) (.slice (some ⟨X, 0, none⟩) 0 0) 0 [] hown ⟨b, off, none⟩ n c (ints l) (by simp [ints, hI.1]) (news_ints hI) (one_ints l) (by unfold maxLen; omega) (by omega) hb
  rw [Nat.zero_add, List.nil_append] at hown'
  rcases id hown'.2 with ⟨e1, _⟩ | ⟨g, cap, cur, e1, _⟩
  · have := hsome.1 e1; simp at this
  · subst e1
    exact ⟨g, cap, w3, hrun, hown', hgrow⟩

/-- An append in a plain region, out of its own run. -/
theorem wpList_append_runC {P : Program} {w : World} {ops : Array Oper} {rest : List Oper} {o : Oper} {a : Act} {Q : Exit → Act → World → Prop} (hgd : o.guard = none) (s x : Operand) (t : TypeId)
    (hop : o.op = .call { callee := .builtin .append, args := #[s, x], argTypes := #[t, t] }) {v u v' : Value} {w' : World} (hs : a.eval s = v) (hx : a.eval x = u) (hrun : (Builtin.append_ #[t, t] o.type #[v, u]).run P w = .ok v' w') (h : wpList P ops Q rest (a.put o.dst v') w') :
    wpList P ops Q (o :: rest) a w :=
  wpList_plain hgd fun _ hK => by
    unfold Oper.wp
    simp [execOp, hop, resolve, invoke, builtin, hs, hx, hrun, Result.andThen]
    exact hK _ _ h

theorem grown_new {w W w3 : World} {X : Nat} (hb : Below w.heap.size w W) (hg : W.grownBy w3 (some X)) (hX : w.heap.size ≤ X) : Below w.heap.size w w3 := hb.grown hg hb.size (fun k e => by cases e; exact hX)

set_option maxRecDepth 20000 in
theorem clone_any (b off n cap : Nat) (l : List Int) (w : World) (hn : n ≤ 1048576) (hI : IAt w (some ⟨b, off, none⟩) n l) :
    Calls Tryz.prog 94 #[.slice (some ⟨b, off, none⟩) n cap] w fun e w' => ∃ g c, e = .returned (.slice (some ⟨g, 0, none⟩) n c) ∧ w'.ownsRow w.heap.size 2 1 (.slice (some ⟨g, 0, none⟩) n c) n (ints l) ∧ Below w.heap.size w w' := by
  have hbx : Below w.heap.size w (w.alloc (.cells #[] 2)) := below_box _
  obtain ⟨g, c, w3, hrun, HW⟩ := keys_added (W := w.alloc (.cells #[] 2)) (X := w.heap.size) (c := cap) (heap_alloc_new _ _) (Nat.le_refl _) (hI.below hbx (Nat.le_refl _)) hn hbx.size
  have HB : Hid (Below w.heap.size w (w.alloc (.cells #[] 2))) := hbx
  have hnil : ∀ W : World, (binOp BinOp.eql 49 (.slice (some ⟨b, off, none⟩) n cap) (.slice none 0 0)).run Tryz.prog W = .ok (.bool false) W := fun W => (by kernel_rfl)
  clear hI hbx
  go_enter Tryz.func94, Tryz.ntmps94
  go_wp2_with (first | (at_builtin; go_must (refine wpList_append_runC (by rfl) _ _ _ (by rfl) (by rfl) (by rfl) hrun ?_); clear hrun))
  go_ret
  exact ⟨g, c, rfl, HW.out.1, grown_new HB.out HW.out.2 (Nat.le_refl _)⟩

theorem Pu.set {w : World} {lo B b : Nat} {ps : List (Co × Value)} (h : Pu w lo B ps) (hB : B ≠ b) (hr : ∀ x ∈ ps, x.2.ownBlock ≠ some b) (i : Nat) (u : Value) : Pu (w.setCell ⟨b, i, none⟩ u) lo B ps := by
  obtain ⟨D, ho, hsz, hat⟩ := h.map
  exact ⟨⟨D, ho.setCell hB u, hsz, hat⟩, fun x hx => ownsRow_setCell_other (h.rows x hx) (a := ⟨b, i, none⟩) (hr x hx) u, h.base, h.apart, h.refs, h.wfs⟩
theorem Pu.newer {w : World} {lo B : Nat} {ps : List (Co × Value)} (h : Pu w lo B ps) {b : Nat} (hb : w.heap.size ≤ b) : ∀ x ∈ ps, x.2.ownBlock ≠ some b := fun x hx e => by
  have := ((h.rows x hx).lt b e).2
  omega

set_option maxRecDepth 20000 in
set_option maxHeartbeats 1000000 in
theorem put_any (B lo b off kc : Nat) (ps : List (Co × Value)) (op oq ov : Int) (ol : List Int) (ox oy oh : Int) (om : Bool) (w : World) (hP : Pu w lo B ps) (hlo : lo ≤ w.heap.size) (hlen : ol.length ≤ 1048576) (hI : IAt w (some ⟨b, off, none⟩) ol.length ol) (hp : (Lit.int .i64 op).wf = true) (hq : (Lit.int .i64 oq).wf = true) (hn : findP ps (op, oq) = none) (hl : ps.length ≤ 1000) :
    Calls Tryz.prog 75 #[.map (some B), .agg #[.int .i64 op, .int .i64 oq, .int .i64 ov, .slice (some ⟨b, off, none⟩) ol.length kc, .int .i64 ox, .int .i64 oy, .int .i64 oh, .bool om]] w fun e w' => e = .returned (.tuple #[]) ∧ Hid (∃ u, Pu w' lo B (ps ++ [(⟨op, oq, ov, ol, ox, oy, oh, om⟩, u)])) ∧ Chg w w' B (B + 1) := by
  have hbx : Below w.heap.size w (w.alloc (.cells #[.int .i64 op, .int .i64 oq, .int .i64 ov, .slice (some ⟨b, off, none⟩) ol.length kc, .int .i64 ox, .int .i64 oy, .int .i64 oh, .bool om] 68)) := below_box _
  have hC := clone_any b off ol.length kc ol (w.alloc (.cells #[.int .i64 op, .int .i64 oq, .int .i64 ov, .slice (some ⟨b, off, none⟩) ol.length kc, .int .i64 ox, .int .i64 oy, .int .i64 oh, .bool om] 68)) hlen (hI.below hbx (Nat.le_refl _))
  have HX : Hid ((w.alloc (.cells #[.int .i64 op, .int .i64 oq, .int .i64 ov, .slice (some ⟨b, off, none⟩) ol.length kc, .int .i64 ox, .int .i64 oy, .int .i64 oh, .bool om] 68)).heap[w.heap.size]? = some (.cells #[.int .i64 op, .int .i64 oq, .int .i64 ov, .slice (some ⟨b, off, none⟩) ol.length kc, .int .i64 ox, .int .i64 oy, .int .i64 oh, .bool om] 68 (0, 0))) := heap_alloc_new _ _
  have HBX : Hid (Below w.heap.size w (w.alloc (.cells #[.int .i64 op, .int .i64 oq, .int .i64 ov, .slice (some ⟨b, off, none⟩) ol.length kc, .int .i64 ox, .int .i64 oy, .int .i64 oh, .bool om] 68))) := hbx
  have HP : Hid (Pu w lo B ps) := hP
  have HN : Hid (findP ps (op, oq) = none) := hn
  have HWF : Hid ((Lit.int .i64 op).wf = true ∧ (Lit.int .i64 oq).wf = true) := ⟨hp, hq⟩
  clear hbx hI hP hn hp hq
  go_enter Tryz.func75, Tryz.ntmps75
  have key : ∀ w2 g c, w2.ownsRow (w.heap.size + 1) 2 1 (.slice (some ⟨g, 0, none⟩) ol.length c) ol.length (ints ol) → Below (w.heap.size + 1) (w.alloc (.cells #[.int .i64 op, .int .i64 oq, .int .i64 ov, .slice (some ⟨b, off, none⟩) ol.length kc, .int .i64 ox, .int .i64 oy, .int .i64 oh, .bool om] 68)) w2 →
      ∃ w', (Instr.mapUpdate 73 (.map (some B)) (.agg #[.int .i64 op, .int .i64 oq]) (.agg #[.int .i64 op, .int .i64 oq, .int .i64 ov, .slice (some ⟨g, 0, none⟩) ol.length c, .int .i64 ox, .int .i64 oy, .int .i64 oh, .bool om])).run Tryz.prog (w2.setCell ⟨w.heap.size, 3, none⟩ (.slice (some ⟨g, 0, none⟩) ol.length c)) = .ok () w' ∧
        Hid (Pu w' lo B (ps ++ [(⟨op, oq, ov, ol, ox, oy, oh, om⟩, .slice (some ⟨g, 0, none⟩) ol.length c)])) ∧ Hid (Chg w w' B (B + 1)) := by
    intro w2 g c hrow hb2
    have hsz : (w.alloc (.cells #[.int .i64 op, .int .i64 oq, .int .i64 ov, .slice (some ⟨b, off, none⟩) ol.length kc, .int .i64 ox, .int .i64 oy, .int .i64 oh, .bool om] 68)).heap.size = w.heap.size + 1 := by simp
    have hb2' : Below (w.alloc (.cells #[.int .i64 op, .int .i64 oq, .int .i64 ov, .slice (some ⟨b, off, none⟩) ol.length kc, .int .i64 ox, .int .i64 oy, .int .i64 oh, .bool om] 68)).heap.size (w.alloc (.cells #[.int .i64 op, .int .i64 oq, .int .i64 ov, .slice (some ⟨b, off, none⟩) ol.length kc, .int .i64 ox, .int .i64 oy, .int .i64 oh, .bool om] 68)) w2 := by rw [hsz]; exact hb2
    have hb3 : Below w.heap.size w w2 := HBX.out.trans (hb2.mono (by omega))
    have hBl := HP.out.lt
    have h1 : Pu w2 lo B ps := HP.out.below hb3
    have hgb := (hrow.lt g rfl).1
    have h2 := h1.set (b := w.heap.size) (by omega) (HP.out.newer (Nat.le_refl _)) 3 (.slice (some ⟨g, 0, none⟩) ol.length c)
    have hrow2 : (w2.setCell ⟨w.heap.size, 3, none⟩ (.slice (some ⟨g, 0, none⟩) ol.length c)).ownsRow lo 2 1 (.slice (some ⟨g, 0, none⟩) ol.length c) ol.length (ints ol) :=
      Joins.ownsRow_le (ownsRow_setCell_below hrow (a := ⟨w.heap.size, 3, none⟩) (show w.heap.size < _ by omega) _) (by omega)
    obtain ⟨w', hrun, hPu, hg⟩ := h2.store (x := (⟨op, oq, ov, ol, ox, oy, oh, om⟩, .slice (some ⟨g, 0, none⟩) ol.length c)) HWF.out.1 HWF.out.2 HN.out hl hrow2 (fun y hy b' hb' e => by
      have : g = b' := by simpa [Value.ownBlock] using e
      have := ((HP.out.rows y hy).lt b' hb').2
      omega)
    refine ⟨w', hrun, hPu, ?_⟩
    have c2 : Below w.heap.size w (w2.setCell ⟨w.heap.size, 3, none⟩ (.slice (some ⟨g, 0, none⟩) ol.length c)) := hb3.setCell (p := ⟨w.heap.size, 3, none⟩) (Nat.le_refl _) _
    exact (Chg.of_below c2 _ _).trans (Chg.of_grown hg fun k e => by cases e; omega)
  clear HWF HN
  go_wp2_with (first
    | (go_at_call 94; (with_reducible refine hC.mono ?_); clear hC; rintro e w2 ⟨g, c, rfl, hrow, hb2⟩; have hsz : (w.alloc (.cells #[.int .i64 op, .int .i64 oq, .int .i64 ov, .slice (some ⟨b, off, none⟩) ol.length kc, .int .i64 ox, .int .i64 oy, .int .i64 oh, .bool om] 68)).heap.size = w.heap.size + 1 := (by simp); rw [hsz] at hrow hb2; obtain ⟨w', hrun, HPU, HCH⟩ := key w2 g c hrow hb2; obtain ⟨⟨s0, s1, s2, s3, s4, s5, s6, s7⟩, f0, f1, f2, f3, f4, f5, f6, f7⟩ := cells8 ((hb2.block w.heap.size (by omega)).trans HX.out); clear hrow hb2 key))
  go_end0
  exact ⟨rfl, ⟨_, HPU.out⟩, HCH.out⟩

end Go.Proofs.YtngpegmfhhgkgaaGreatDoor
