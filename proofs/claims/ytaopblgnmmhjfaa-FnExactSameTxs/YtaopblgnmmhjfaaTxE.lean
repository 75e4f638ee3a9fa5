/- Lists of outs that come in are copied into new memory. -/
import Derived.Test.YtaopblgnmmhjfaaTxC
namespace Go.Proofs.Ytaopblgnmmhjfaa
open Go.RowKit Go.Maps Go.WideMaps

theorem IAt.setOther {v : World} {g n B i : Nat} {l : List Int} (h : IAt v (some ⟨g, 0, none⟩) n l) (hne : g ≠ B) (u : Value) : IAt (v.setCell ⟨B, i, none⟩ u) (some ⟨g, 0, none⟩) n l := by
  obtain ⟨hn, h | ⟨b, off, e, hlt, hc⟩⟩ := h
  · exact ⟨hn, .inl h⟩
  · cases e
    exact ⟨hn, .inr ⟨g, 0, rfl, by simpa using hlt, fun j hj => (World.cell?_of_block (Below.heap_setCell _ ⟨B, i, none⟩ u g hne)).trans (hc j hj)⟩⟩

/-- A row of outs under way in block B: k of them are there. -/
def RowO (wr : World) (B n k : Nat) (os : List Ou) : Prop :=
  ∃ xs, wr.ownsRow B 155 4 (.slice (some ⟨B, 0, none⟩) n n) n xs ∧ ∀ j, j < k → ∃ g c, (xs[j * 4]? = some (.int .i64 (os.getD j O0).v) ∧ xs[j * 4 + 1]? = some (.slice (some ⟨g, 0, none⟩) (os.getD j O0).l.length c) ∧ xs[j * 4 + 2]? = some (.int .i64 (os.getD j O0).x) ∧ xs[j * 4 + 3]? = some (.int .i64 (os.getD j O0).y)) ∧
    B < g ∧ (os.getD j O0).l.length ≤ maxLen ∧ IAt wr (some ⟨g, 0, none⟩) (os.getD j O0).l.length (os.getD j O0).l

theorem toO_round {wr w2 : World} {B n k : Nat} {os : List Ou} {v x y : Int} {l : List Int} {g c : Nat} (ho : (⟨v, l, x, y⟩ : Ou) = os.getD k O0) (hlt : k < n) (h : RowO wr B n k os) (hb : Below wr.heap.size wr w2) (hk : w2.ownsRow wr.heap.size 2 1 (.slice (some ⟨g, 0, none⟩) l.length c) l.length (ints l)) (hBl : B < wr.heap.size) (hol : l.length ≤ maxLen) :
    ∃ u0 u1 u2 u3, w2.cell? ⟨B, k * 4, none⟩ = some u0 ∧ w2.cell? ⟨B, k * 4 + 1, none⟩ = some u1 ∧ w2.cell? ⟨B, k * 4 + 2, none⟩ = some u2 ∧ w2.cell? ⟨B, k * 4 + 3, none⟩ = some u3 ∧ w2.frozen? ⟨B, k * 4, none⟩ = false ∧ w2.frozen? ⟨B, k * 4 + 1, none⟩ = false ∧ w2.frozen? ⟨B, k * 4 + 2, none⟩ = false ∧ w2.frozen? ⟨B, k * 4 + 3, none⟩ = false ∧
      Hid (RowO ((((w2.setCell ⟨B, k * 4, none⟩ (.int .i64 v)).setCell ⟨B, k * 4 + 1, none⟩ (.slice (some ⟨g, 0, none⟩) l.length c)).setCell ⟨B, k * 4 + 2, none⟩ (.int .i64 x)).setCell ⟨B, k * 4 + 3, none⟩ (.int .i64 y)) B n (k + 1) os) := by
  obtain ⟨xs, hown0, hxs⟩ := h
  have hown := hown0.kept (w' := w2) (row := none) ⟨hb.os, hb.tape, hb.output, hb.size, fun k hk _ => hb.block k hk⟩ (by simp [Value.ownBlock])
  have hxl := hown.1
  have r1 := (hown.stored (k * 4) (.int .i64 v)).1
  have r2 := (r1.stored (k * 4 + 1) (.slice (some ⟨g, 0, none⟩) l.length c)).1
  have r3 := (r2.stored (k * 4 + 2) (.int .i64 x)).1
  have r4 := (r3.stored (k * 4 + 3) (.int .i64 y)).1
  have hgl : B < g := by have := (hk.lt g rfl).1; omega
  have hgB : g ≠ B := by omega
  have hIk : IAt w2 (some ⟨g, 0, none⟩) l.length l := IAt.owned hk rfl
  refine ⟨_, _, _, _, (hown.cellAt (k * 4) (by omega)).trans (List.getElem?_eq_getElem (by omega)), (hown.cellAt (k * 4 + 1) (by omega)).trans (List.getElem?_eq_getElem (by omega)), (hown.cellAt (k * 4 + 2) (by omega)).trans (List.getElem?_eq_getElem (by omega)), (hown.cellAt (k * 4 + 3) (by omega)).trans (List.getElem?_eq_getElem (by omega)), hown.frozenAt _, hown.frozenAt _, hown.frozenAt _, hown.frozenAt _, _, r4, fun j hj => ?_⟩
  by_cases e : k = j
  · subst e
    rw [← ho]
    refine ⟨g, c, ⟨?_, ?_, ?_, ?_⟩, hgl, hol, (((hIk.setOther hgB _).setOther hgB _).setOther hgB _).setOther hgB _⟩
    · rw [List.getElem?_set_ne (by omega), List.getElem?_set_ne (by omega), List.getElem?_set_ne (by omega), List.getElem?_set_self (by omega)]
    · rw [List.getElem?_set_ne (by omega), List.getElem?_set_ne (by omega), List.getElem?_set_self (by simp; omega)]
    · rw [List.getElem?_set_ne (by omega), List.getElem?_set_self (by simp; omega)]
    · rw [List.getElem?_set_self (by simp; omega)]
  · obtain ⟨g', c', ⟨e0, e1, e2, e3⟩, hgl', hl', hI'⟩ := hxs j (by omega)
    have hg' : g' ≠ B := by omega
    refine ⟨g', c', ⟨?_, ?_, ?_, ?_⟩, hgl', hl', ((((hI'.below hb (Nat.le_refl _)).setOther hg' _).setOther hg' _).setOther hg' _).setOther hg' _⟩
    · rw [List.getElem?_set_ne (by omega), List.getElem?_set_ne (by omega), List.getElem?_set_ne (by omega), List.getElem?_set_ne (by omega)]; exact e0
    · rw [List.getElem?_set_ne (by omega), List.getElem?_set_ne (by omega), List.getElem?_set_ne (by omega), List.getElem?_set_ne (by omega)]; exact e1
    · rw [List.getElem?_set_ne (by omega), List.getElem?_set_ne (by omega), List.getElem?_set_ne (by omega), List.getElem?_set_ne (by omega)]; exact e2
    · rw [List.getElem?_set_ne (by omega), List.getElem?_set_ne (by omega), List.getElem?_set_ne (by omega), List.getElem?_set_ne (by omega)]; exact e3

/-- Outs in new memory: their row and their keys lie in blocks from 'base' on. -/
def OAtN (w : World) (base g n : Nat) (os : List Ou) : Prop :=
  os.length = n ∧ base ≤ g ∧ g < w.heap.size ∧ ∀ j, j < n → ∃ kg kc, w.cell? ⟨g, j * 4, none⟩ = some (.int .i64 (os.getD j O0).v) ∧ w.cell? ⟨g, j * 4 + 1, none⟩ = some (.slice (some ⟨kg, 0, none⟩) (os.getD j O0).l.length kc) ∧
    w.cell? ⟨g, j * 4 + 2, none⟩ = some (.int .i64 (os.getD j O0).x) ∧ w.cell? ⟨g, j * 4 + 3, none⟩ = some (.int .i64 (os.getD j O0).y) ∧ base ≤ kg ∧ (os.getD j O0).l.length ≤ maxLen ∧ IAt w (some ⟨kg, 0, none⟩) (os.getD j O0).l.length (os.getD j O0).l
theorem OAtN.at {w : World} {base g n : Nat} {os : List Ou} (h : OAtN w base g n os) : OAt w (some ⟨g, 0, none⟩) n os := by
  obtain ⟨hn, _, hg, hc⟩ := h
  refine ⟨hn, .inr ⟨g, 0, rfl, hg, fun j hj => ?_⟩⟩
  obtain ⟨kg, kc, h0, h1, h2, h3, _, h5, h6⟩ := hc j hj
  exact ⟨_, _, kc, by rw [Nat.zero_add]; exact h0, by rw [Nat.zero_add]; exact h1, by rw [Nat.zero_add]; exact h2, by rw [Nat.zero_add]; exact h3, h5, h6⟩
theorem OAtN.set {w : World} {base g n B i : Nat} {os : List Ou} (h : OAtN w base g n os) (hB : B < base) (u : Value) : OAtN (w.setCell ⟨B, i, none⟩ u) base g n os := by
  obtain ⟨hn, hb, hg, hc⟩ := h
  have kc : ∀ o, (w.setCell ⟨B, i, none⟩ u).cell? ⟨g, o, none⟩ = w.cell? ⟨g, o, none⟩ := fun o => World.cell?_of_block (Below.heap_setCell _ ⟨B, i, none⟩ u g (show g ≠ B by omega))
  refine ⟨hn, hb, by simpa using hg, fun j hj => ?_⟩
  obtain ⟨kg, kk, h0, h1, h2, h3, h4, h5, h6⟩ := hc j hj
  exact ⟨kg, kk, (kc _).trans h0, (kc _).trans h1, (kc _).trans h2, (kc _).trans h3, h4, h5, h6.setOther (by omega) _⟩
theorem OAtN.below {w w' : World} {base g n : Nat} {os : List Ou} (h : OAtN w base g n os) (hb : Below w.heap.size w w') : OAtN w' base g n os := by
  obtain ⟨hn, h1, hg, hc⟩ := h
  refine ⟨hn, h1, Nat.lt_of_lt_of_le hg hb.size, fun j hj => ?_⟩
  obtain ⟨kg, kk, h0, h1, h2, h3, h4, h5, h6⟩ := hc j hj
  exact ⟨kg, kk, (hb.cell (p := ⟨g, j * 4, none⟩) hg).trans h0, (hb.cell (p := ⟨g, j * 4 + 1, none⟩) hg).trans h1, (hb.cell (p := ⟨g, j * 4 + 2, none⟩) hg).trans h2, (hb.cell (p := ⟨g, j * 4 + 3, none⟩) hg).trans h3, h4, h5, h6.below hb (Nat.le_refl _)⟩
theorem OAtN.mono {w : World} {base base' g n : Nat} {os : List Ou} (h : OAtN w base g n os) (hb : base' ≤ base) : OAtN w base' g n os := by
  obtain ⟨hn, h1, hg, hc⟩ := h
  refine ⟨hn, by omega, hg, fun j hj => ?_⟩
  obtain ⟨kg, kk, h0, h1, h2, h3, h4, h5, h6⟩ := hc j hj
  exact ⟨kg, kk, h0, h1, h2, h3, by omega, h5, h6⟩

theorem RowO.at {w : World} {B n : Nat} {os : List Ou} (hn : os.length = n) (h : RowO w B n n os) : OAtN w B B n os := by
  obtain ⟨xs, hown, hxs⟩ := h
  refine ⟨hn, Nat.le_refl _, (hown.lt B rfl).2, fun j hj => ?_⟩
  obtain ⟨g, c, ⟨e0, e1, e2, e3⟩, hg, hl, hI⟩ := hxs j hj
  have hxl := hown.1
  refine ⟨g, c, ?_, ?_, ?_, ?_, by omega, hl, hI⟩
  · rw [hown.cellAt (j * 4) (by omega), e0]
  · rw [hown.cellAt (j * 4 + 1) (by omega), e1]
  · rw [hown.cellAt (j * 4 + 2) (by omega), e2]
  · rw [hown.cellAt (j * 4 + 3) (by omega), e3]

set_option maxHeartbeats 1000000 in
theorem toOs_any (a : Option Addr) (n cap : Nat) (os : List Ou) (w : World) (hl : n ≤ 1048576) (hk : ∀ j, j < n → (os.getD j O0).l.length ≤ 1048576) (hs : OAt w a n os) :
    Calls Try.prog 123 #[.slice a n cap] w fun e w' => ∃ g c, e = .returned (.slice (some ⟨g, 0, none⟩) n c) ∧ OAtN w' w.heap.size g n os ∧ Below w.heap.size w w' := by
  have HN : Hid (os.length = n) := hs.1
  have HSS : Hid (OAt w a n os) := hs
  have HKL : Hid (∀ j, j < n → (os.getD j O0).l.length ≤ 1048576) := hk
  clear hs hk
  obtain ⟨i0, hi, hz0, hz1, hz2⟩ := info_parts Try.infoOut
  have hml : n ≤ maxLen := by unfold maxLen; omega
  go_enter Try.func123, Try.ntmps123
  go_wp2_with (first | (at_make; refine wpList_make_full _ rfl _ _ 84 rfl w.heap.size 155 i0 (.agg #[.int .i64 0, .slice none 0 0, .int .i64 0, .int .i64 0]) 4 Try.underlying84 hi hz0 hz1 _ _ _ _ n rfl rfl (by omega) (by omega) (by rw [hz2]; omega) hml (Nat.le_refl _) ?_; intro w1 ho1 hg1))
  have hb1 : Below w.heap.size w w1 := (Below.refl _ _).grown hg1 (Nat.le_refl _) (fun k h => by cases h)
  have hB1 : w.heap.size < w1.heap.size := (ho1.lt _ rfl).2
  go_loopw [4] (fun i wr => ∃ k : Nat, k ≤ n ∧ i = .int .i64 k ∧ Below w.heap.size w wr ∧ w.heap.size < wr.heap.size ∧ Hid (RowO wr w.heap.size n k os)) (fun i _ => n - (intOf i).toNat)
  case atStart => exact ⟨0, Nat.zero_le _, rfl, hb1, hB1, _, ho1, fun j hj => by omega⟩
  case round =>
    obtain ⟨k, hk, rfl, hbel, hBw, HX⟩ := hrel
    clear ho1 hg1 hb1 hB1
    by_cases hlt : k < n
    · rcases HSS.out.2 with h0 | ⟨b, off, ha, hb, hc⟩
      · omega
      subst ha
      obtain ⟨o, ho⟩ : ∃ o, o = os.getD k O0 := ⟨_, rfl⟩
      obtain ⟨ka, kn, kc, c0, c1, c2, c3, c4, c5⟩ := hc k hlt
      have c6 := HKL.out k hlt
      rw [← ho] at c0 c2 c3 c5 c6
      obtain ⟨ov, ol, ox, oy⟩ := o
      have HS : Hid ((⟨ov, ol, ox, oy⟩ : Ou) = os.getD k O0) := ho
      obtain rfl := c5.1
      have x0 := (hbel.cell (p := ⟨b, off + k * 4, none⟩) hb).trans c0
      have x1 := (hbel.cell (p := ⟨b, off + k * 4 + 1, none⟩) hb).trans c1
      have x2 := (hbel.cell (p := ⟨b, off + k * 4 + 2, none⟩) hb).trans c2
      have x3 := (hbel.cell (p := ⟨b, off + k * 4 + 3, none⟩) hb).trans c3
      have hto := toOut_any ov ka ol.length kc ol ox oy wr c6 (c5.below hbel (Nat.le_refl _))
      simp only at x0 x2 x3
      have HC4 : Hid (ol.length ≤ maxLen) := c4
      clear hc ho c0 c1 c2 c3 c4 c5 c6
      go_wp2_with (first | (go_at_call 154; refine hto.mono ?_; rintro e w2 ⟨g, c, rfl, hk2, hb2⟩; obtain ⟨u0, u1, u2, u3, y0, y1, y2, y3, f0, f1, f2, f3, HX2⟩ := toO_round HS.out hlt HX.out hb2 hk2 hBw HC4.out; have HB2 : Hid (Below w.heap.size w w2) := hbel.trans (hb2.mono hbel.size); have hBw2 := Nat.lt_of_lt_of_le hBw hb2.size; clear hk2 hb2))
      go_roundw
      case rel => exact ⟨k + 1, by omega, by go_num, (((HB2.out.setCell (Nat.le_refl _) _).setCell (Nat.le_refl _) _).setCell (Nat.le_refl _) _).setCell (Nat.le_refl _) _, by simpa using hBw2, HX2⟩
      case measure => simp [intOf]; omega
    · obtain rfl : k = n := by omega
      go_wp2
      go_ret
      exact ⟨_, _, rfl, HX.out.at HN.out, hbel⟩

end Go.Proofs.Ytaopblgnmmhjfaa
