/- Coins that are bent: whatever the bytes, some coins that can be read. -/
import Derived.Test.YtagokfoimokniaaGreatDoorJn9
import Derived.Test.YtagokfoimokniaaGreatDoorJn6
namespace Go.Proofs.YtagokfoimokniaaGreatDoor
open Go.RowKit Go.Shelf Go.Maps Go.WideMaps

/-- Coins that can be read, whatever is drawn behind them. -/
structure DbC (w v V : World) (SB : Nat) (ca : Option Addr) (cn cc t : Nat) (va : Option Addr) (cs : List Co) : Prop where
  src : Src w V SB ca cn cc t
  chg : Chg v V SB (SB + 1)
  rd : ∀ V' lo, Chg V V' lo (SB + 1) → CAt V' va cs.length cs
  len : cs.length ≤ 43 ∧ ∀ j, j < cs.length → (cs.getD j C0).l.length ≤ 3
  ord : SB < v.heap.size
theorem Chg.wideC {w w' : World} {lo hi lo' : Nat} (h : Chg w w' lo hi) (h1 : lo' ≤ lo) : Chg w w' lo' hi := ⟨h.os, h.tape, h.output, h.size, fun b hb hd => h.block b hb (by omega)⟩
theorem set0_at {cs : List Co} {c : Co} (hn : 0 < cs.length) : (cs.set 0 c).getD 0 C0 = c := by simp [List.getD, hn]
theorem set0_ne {cs : List Co} {c : Co} {j : Nat} (hj : j ≠ 0) : (cs.set 0 c).getD j C0 = cs.getD j C0 := by
  simp only [List.getD]
  rw [List.getElem?_set_ne (by omega)]
section
variable {w v V V' : World} {SB cn cc t t' vc g : Nat} {ca va : Option Addr} {cs : List Co}
theorem DbC.draw (h : DbC w v V SB ca cn cc t va cs) (hS : Src w V' SB ca cn cc t') (hc : Chg V V' SB (SB + 1)) : DbC w v V' SB ca cn cc t' va cs :=
  ⟨hS, h.chg.trans hc, fun V2 lo h2 => h.rd V2 (min lo SB) ((hc.wideC (Nat.min_le_right _ _)).trans (h2.wideC (Nat.min_le_left _ _))), h.len, h.ord⟩
theorem DbC.step (h : DbC w v V SB ca cn cc t va cs) (hb : Below V.heap.size V V') : DbC w v V' SB ca cn cc t va cs := h.draw (h.src.step hb) (Chg.of_below hb _ _)
theorem DbC.at (h : DbC w v V SB ca cn cc t va cs) : CAt V va cs.length cs := h.rd V SB (Chg.refl _ _ _)
theorem DcS.db (h : DcS w v V SB ca cn cc t va vc cs) : DbC w v V SB ca cn cc t va cs :=
  ⟨h.src, h.chg, fun V' lo hc => (by
    obtain ⟨kv, hk⟩ := h.own
    exact own_at2 (hk.chg hc (.inr h.ord)) rfl fun j hj => (by have := h.len.2 j hj; omega)), ⟨(by have := h.len.1; omega), h.len.2⟩, h.ord⟩
theorem DcS.form (h : DcS w v V SB ca cn cc t va vc cs) (hn : 0 < cs.length) : ∃ g, va = some ⟨g, 0, none⟩ := by
  obtain ⟨kv, hk⟩ := h.own
  obtain ⟨xs, h1, _⟩ := hk.row
  obtain ⟨g, cap, e⟩ := Joins.ownsRow_form h1 hn
  cases e
  exact ⟨g, rfl⟩
/-- The first coin's cells. -/
theorem DcS.cells0 (h : DcS w v V SB ca cn cc t (some ⟨g, 0, none⟩) vc cs) (hn : 0 < cs.length) : ∃ (c : Co) (ka : Option Addr) (kc : Nat), c = cs.getD 0 C0 ∧ CoAt V g 0 c ka kc ∧ (V.frozen? ⟨g, 0, none⟩ = false ∧ V.frozen? ⟨g, 2, none⟩ = false ∧ V.frozen? ⟨g, 6, none⟩ = false) := by
  obtain ⟨kv, hk⟩ := h.own
  obtain ⟨ka, kc, hkv⟩ : ∃ ka kc, kv 0 = .slice ka (cs.getD 0 C0).l.length kc := by
    rcases (hk.keys 0 hn).1.2 with ⟨q, q0⟩ | ⟨gg, cap, cur, q, _⟩
    · exact ⟨none, 0, by rw [q, q0]⟩
    · exact ⟨_, cap, q⟩
  obtain ⟨⟨a0, a1, a2, a3, a4, a5, a6, a7⟩, f0, f1, f2, f3, f4, f5, f6, f7⟩ := hk.cells hn rfl hkv
  exact ⟨_, ka, kc, rfl, ⟨a0, a1, a2, a3, a4, a5, a6, a7⟩, f0, f2, f6⟩
theorem DcS.set_p (h : DcS w v V SB ca cn cc t (some ⟨g, 0, none⟩) vc cs) (hn : 0 < cs.length) (z : Int) : DcS w v (V.setCell ⟨g, 0, none⟩ (.int .i64 z)) SB ca cn cc t (some ⟨g, 0, none⟩) vc (cs.set 0 { cs.getD 0 C0 with p := z }) := by
  obtain ⟨kv, hk⟩ := h.own
  obtain ⟨xs, h1, h2⟩ := hk.row
  have hg := h1.lt g rfl
  have hxl := h1.1
  have ho := h.ord
  have hsb := h.src.sb
  have hlen : (cs.set 0 { cs.getD 0 C0 with p := z }).length = cs.length := by simp
  have hll : ∀ j, j < cs.length → ((cs.set 0 { cs.getD 0 C0 with p := z }).getD j C0).l = (cs.getD j C0).l := fun j hj => by
    by_cases e : j = 0
    · subst e; rw [set0_at hn]
    · rw [set0_ne e]
  refine ⟨⟨(Below.heap_setCell _ ⟨g, 0, none⟩ _ SB (show SB ≠ g by omega)).trans h.src.box, h.src.bel.setCell (p := ⟨g, 0, none⟩) (show w.heap.size ≤ g by omega) _, hsb⟩, h.chg.setNew hg.1 _, ⟨kv, ?_⟩, ⟨by rw [hlen]; exact h.len.1, fun j hj => by rw [hlen] at hj; rw [hll j hj]; exact h.len.2 j hj⟩, ho⟩
  rw [hlen]
  refine ⟨⟨xs.set 0 (.int .i64 z), (h1.stored 0 _).1, fun j hj => ?_⟩, fun b hb => by simpa using hk.top b hb, fun j hj => ?_, hk.apart⟩
  · obtain ⟨a0, a1, a2, a3, a4, a5, a6, a7⟩ := h2 j hj
    by_cases e : j = 0
    · subst e
      rw [set0_at hn]
      refine ⟨?_, ?_, ?_, ?_, ?_, ?_, ?_, ?_⟩ <;> first | (rw [List.getElem?_set_ne (by omega)]; assumption) | (rw [List.getElem?_set_self (by omega)])
    · rw [set0_ne e]
      refine ⟨?_, ?_, ?_, ?_, ?_, ?_, ?_, ?_⟩ <;> (rw [List.getElem?_set_ne (by omega)]; assumption)
  · rw [hll j hj]
    exact ⟨ownsRow_setCell_other (hk.keys j hj).1 (a := ⟨g, 0, none⟩) (fun e => hk.far hj e rfl) _, fun b hb => by simpa using (hk.keys j hj).2 b hb⟩
theorem DcS.set_v (h : DcS w v V SB ca cn cc t (some ⟨g, 0, none⟩) vc cs) (hn : 0 < cs.length) (z : Int) : DcS w v (V.setCell ⟨g, 2, none⟩ (.int .i64 z)) SB ca cn cc t (some ⟨g, 0, none⟩) vc (cs.set 0 { cs.getD 0 C0 with v := z }) := by
  obtain ⟨kv, hk⟩ := h.own
  obtain ⟨xs, h1, h2⟩ := hk.row
  have hg := h1.lt g rfl
  have hxl := h1.1
  have ho := h.ord
  have hsb := h.src.sb
  have hlen : (cs.set 0 { cs.getD 0 C0 with v := z }).length = cs.length := by simp
  have hll : ∀ j, j < cs.length → ((cs.set 0 { cs.getD 0 C0 with v := z }).getD j C0).l = (cs.getD j C0).l := fun j hj => by
    by_cases e : j = 0
    · subst e; rw [set0_at hn]
    · rw [set0_ne e]
  refine ⟨⟨(Below.heap_setCell _ ⟨g, 2, none⟩ _ SB (show SB ≠ g by omega)).trans h.src.box, h.src.bel.setCell (p := ⟨g, 2, none⟩) (show w.heap.size ≤ g by omega) _, hsb⟩, h.chg.setNew hg.1 _, ⟨kv, ?_⟩, ⟨by rw [hlen]; exact h.len.1, fun j hj => by rw [hlen] at hj; rw [hll j hj]; exact h.len.2 j hj⟩, ho⟩
  rw [hlen]
  refine ⟨⟨xs.set 2 (.int .i64 z), (h1.stored 2 _).1, fun j hj => ?_⟩, fun b hb => by simpa using hk.top b hb, fun j hj => ?_, hk.apart⟩
  · obtain ⟨a0, a1, a2, a3, a4, a5, a6, a7⟩ := h2 j hj
    by_cases e : j = 0
    · subst e
      rw [set0_at hn]
      refine ⟨?_, ?_, ?_, ?_, ?_, ?_, ?_, ?_⟩ <;> first | (rw [List.getElem?_set_ne (by omega)]; assumption) | (rw [List.getElem?_set_self (by omega)])
    · rw [set0_ne e]
      refine ⟨?_, ?_, ?_, ?_, ?_, ?_, ?_, ?_⟩ <;> (rw [List.getElem?_set_ne (by omega)]; assumption)
  · rw [hll j hj]
    exact ⟨ownsRow_setCell_other (hk.keys j hj).1 (a := ⟨g, 2, none⟩) (fun e => hk.far hj e rfl) _, fun b hb => by simpa using (hk.keys j hj).2 b hb⟩
theorem DcS.set_h (h : DcS w v V SB ca cn cc t (some ⟨g, 0, none⟩) vc cs) (hn : 0 < cs.length) (z : Int) : DcS w v (V.setCell ⟨g, 6, none⟩ (.int .i64 z)) SB ca cn cc t (some ⟨g, 0, none⟩) vc (cs.set 0 { cs.getD 0 C0 with h := z }) := by
  obtain ⟨kv, hk⟩ := h.own
  obtain ⟨xs, h1, h2⟩ := hk.row
  have hg := h1.lt g rfl
  have hxl := h1.1
  have ho := h.ord
  have hsb := h.src.sb
  have hlen : (cs.set 0 { cs.getD 0 C0 with h := z }).length = cs.length := by simp
  have hll : ∀ j, j < cs.length → ((cs.set 0 { cs.getD 0 C0 with h := z }).getD j C0).l = (cs.getD j C0).l := fun j hj => by
    by_cases e : j = 0
    · subst e; rw [set0_at hn]
    · rw [set0_ne e]
  refine ⟨⟨(Below.heap_setCell _ ⟨g, 6, none⟩ _ SB (show SB ≠ g by omega)).trans h.src.box, h.src.bel.setCell (p := ⟨g, 6, none⟩) (show w.heap.size ≤ g by omega) _, hsb⟩, h.chg.setNew hg.1 _, ⟨kv, ?_⟩, ⟨by rw [hlen]; exact h.len.1, fun j hj => by rw [hlen] at hj; rw [hll j hj]; exact h.len.2 j hj⟩, ho⟩
  rw [hlen]
  refine ⟨⟨xs.set 6 (.int .i64 z), (h1.stored 6 _).1, fun j hj => ?_⟩, fun b hb => by simpa using hk.top b hb, fun j hj => ?_, hk.apart⟩
  · obtain ⟨a0, a1, a2, a3, a4, a5, a6, a7⟩ := h2 j hj
    by_cases e : j = 0
    · subst e
      rw [set0_at hn]
      refine ⟨?_, ?_, ?_, ?_, ?_, ?_, ?_, ?_⟩ <;> first | (rw [List.getElem?_set_ne (by omega)]; assumption) | (rw [List.getElem?_set_self (by omega)])
    · rw [set0_ne e]
      refine ⟨?_, ?_, ?_, ?_, ?_, ?_, ?_, ?_⟩ <;> (rw [List.getElem?_set_ne (by omega)]; assumption)
  · rw [hll j hj]
    exact ⟨ownsRow_setCell_other (hk.keys j hj).1 (a := ⟨g, 6, none⟩) (fun e => hk.far hj e rfl) _, fun b hb => by simpa using (hk.keys j hj).2 b hb⟩
/-- The first coin once more, at the end. -/
theorem DcS.dup (h : DcS w v V SB ca cn cc t (some ⟨g, 0, none⟩) vc cs) (hn : 0 < cs.length) {c : Co} {ka : Option Addr} {kc : Nat} (hc : c = cs.getD 0 C0) (hC : CoAt V g 0 c ka kc) :
    ∃ g5 cap w5, (Builtin.append_ #[28, 28] 28 #[.slice (some ⟨g, 0, none⟩) cs.length vc, .slice (some ⟨V.heap.size, 0, none⟩) 1 1]).run Tryz.prog (V.alloc (.cells #[.int .i64 c.p, .int .i64 c.q, .int .i64 c.v, .slice ka c.l.length kc, .int .i64 c.x, .int .i64 c.y, .int .i64 c.h, .bool c.m] 54)) = .ok (.slice (some ⟨g5, 0, none⟩) (cs.length + 1) cap) w5 ∧
      Hid (DbC w v w5 SB ca cn cc t (some ⟨g5, 0, none⟩) (cs ++ [c])) := by
  obtain ⟨i0, hi, hz0, hz1, hz2⟩ := info_parts Tryz.infoCoin
  obtain ⟨kv, hk⟩ := h.own
  obtain ⟨xs, h1, h2⟩ := hk.row
  have hll := h.len.1
  have hvs := h.chg.size
  obtain ⟨v', w5, hrun, hown', hgrow, _⟩ := run_append_own (P := Tryz.prog) (V.alloc (.cells #[.int .i64 c.p, .int .i64 c.q, .int .i64 c.v, .slice ka c.l.length kc, .int .i64 c.x, .int .i64 c.y, .int .i64 c.h, .bool c.m] 54)) v.heap.size 28 28 54 i0 (.agg #[.int .i64 0, .int .i64 0, .int .i64 0, .slice none 0 0, .int .i64 0, .int .i64 0, .int .i64 0, .bool false]) 8 80 Tryz.underlying28 hi hz0 hz1 hz2 rfl (by decide) _ cs.length xs (h1.alloc _) ⟨V.heap.size, 0, none⟩ 1 1 [.int .i64 c.p, .int .i64 c.q, .int .i64 c.v, .slice ka c.l.length kc, .int .i64 c.x, .int .i64 c.y, .int .i64 c.h, .bool c.m] rfl (World.news_of_block (heap_alloc_new _ _)) (by simp [Value.oneCell']) (by unfold maxLen; omega) (by omega) (by simp; omega)
  obtain ⟨g5, cap, rfl⟩ := ownsRow_succ hown'
  refine ⟨g5, cap, w5, hrun, ?_⟩
  have hs := h.step (below_box (.cells #[.int .i64 c.p, .int .i64 c.q, .int .i64 c.v, .slice ka c.l.length kc, .int .i64 c.x, .int .i64 c.y, .int .i64 c.h, .bool c.m] 54))
  have ho := h.ord
  have hsb := h.src.sb
  have hgb := h1.lt g rfl
  have hkr : ∀ j, j < cs.length → w5.ownsRow v.heap.size 2 1 (kv j) (cs.getD j C0).l.length (ints (cs.getD j C0).l) := fun j hj => (((hk.keys j hj).1).alloc _).kept hgrow (by
    cases e : (kv j).ownBlock with
    | none => exact .inl rfl
    | some b => exact .inr fun e2 => hk.far hj e (by simpa [Value.ownBlock] using e2.symm))
  have hk0 : kv 0 = .slice ka c.l.length kc := by
    have q1 := (h1.cellAt 3 (by have := h1.1; omega)).trans (h2 0 hn).2.2.2.1
    have q2 : V.cell? ⟨g, 3, none⟩ = some (.slice ka c.l.length kc) := hC.2.2.2.1
    exact Option.some.inj (q1.symm.trans q2)
  have hform : ∀ j, j < cs.length → ∃ a d, kv j = .slice a (cs.getD j C0).l.length d := fun j hj => by
    rcases (hk.keys j hj).1.2 with ⟨q, q0⟩ | ⟨gg, cap, cur, q, _⟩
    · exact ⟨none, 0, by rw [q, q0]⟩
    · exact ⟨_, cap, q⟩
  have hgt : ∀ j, j < cs.length → (cs ++ [c]).getD j C0 = cs.getD j C0 := fun j hj => by simp only [List.getD]; rw [List.getElem?_append_left hj]
  have hge : (cs ++ [c]).getD cs.length C0 = c := by simp [List.getD]
  have hl3 : ∀ j, j < (cs ++ [c]).length → ((cs ++ [c]).getD j C0).l.length ≤ 3 := fun j hj => by
    by_cases e : j < cs.length
    · rw [hgt j e]; exact h.len.2 j e
    · obtain rfl : j = cs.length := by simp at hj; omega
      rw [hge, hc]; exact h.len.2 0 hn
  have hxl := h1.1
  refine ⟨⟨(hgrow.block SB (by have := h.src.lt; simp; omega) (fun e => by simp [Value.ownBlock] at e; omega)).trans hs.src.box, hs.src.bel.grown hgrow (by simp; omega) (fun k e => by simp [Value.ownBlock] at e; omega), hsb⟩, ⟨hgrow.os.trans hs.chg.os, hgrow.tape.trans hs.chg.tape, hgrow.output.trans hs.chg.output, Nat.le_trans hs.chg.size hgrow.size, fun b hb hd => (hgrow.block b (Nat.lt_of_lt_of_le hb hs.chg.size) (fun e => by simp [Value.ownBlock] at e; omega)).trans (hs.chg.block b hb hd)⟩, fun V' lo hc' => ?_, ⟨by simp; omega, hl3⟩, ho⟩
  have hrow2 := hc'.row hown' (fun k e => by have := (hown'.lt k e).1; omega)
  have hxl2 := hown'.1
  rw [List.length_append]
  refine ⟨by simp, .inr ⟨g5, 0, rfl, (hrow2.lt g5 rfl).2, fun j hj => ?_⟩⟩
  have hkey : ∀ j, j < cs.length → ∀ a d, kv j = .slice a (cs.getD j C0).l.length d → IAt V' a (cs.getD j C0).l.length (cs.getD j C0).l := fun j hj a d e => by
    have q := hc'.row (hkr j hj) (fun k e2 => by have := ((hkr j hj).lt k e2).1; omega)
    rw [e] at q
    exact IAt.owned q rfl
  by_cases e : j < cs.length
  · rw [hgt j e]
    obtain ⟨a, d, hf⟩ := hform j e
    obtain ⟨a0, a1, a2, a3, a4, a5, a6, a7⟩ := h2 j e
    rw [hf] at a3
    refine ⟨a, d, ⟨?_, ?_, ?_, ?_, ?_, ?_, ?_, ?_⟩, by have := h.len.2 j e; unfold maxLen; omega, hkey j e a d hf⟩ <;> (rw [Nat.zero_add]; refine (hrow2.cellAt _ (by omega)).trans ?_; rw [List.getElem?_append_left (by omega)]; assumption)
  · obtain rfl : j = cs.length := by simp at hj; omega
    rw [hge]
    refine ⟨ka, kc, ⟨?_, ?_, ?_, ?_, ?_, ?_, ?_, ?_⟩, by have := h.len.2 0 hn; rw [← hc] at this; unfold maxLen; omega, ?_⟩
    rotate_left 8
    · have := hkey 0 hn ka kc (by rw [← hc]; exact hk0)
      rw [← hc] at this; exact this
    all_goals (rw [Nat.zero_add]; refine (hrow2.cellAt _ (by omega)).trans ?_; rw [List.getElem?_append_right (by omega), hxl]; simp)
end

theorem rep_getD {n j : Nat} (h : j < n) : (List.replicate n C0).getD j C0 = C0 := by
  rw [List.getD_eq_getElem?_getD, List.getElem?_replicate, if_pos h]; rfl
end Go.Proofs.YtagokfoimokniaaGreatDoor
