/- Outs of the call's own: their row and their keys' rows; marks are written into them. -/
import Derived.Test.YtjgilpkkfpbefaaGreatDoorJn2
namespace Go.Proofs.YtjgilpkkfpbefaaGreatDoor
open Go.RowKit Go.Maps Go.WideMaps

def CellsO (xs : List Value) (j : Nat) (o : Ou) (u : Value) : Prop :=
  xs[j * 4]? = some (.int .i64 o.v) ∧ xs[j * 4 + 1]? = some u ∧ xs[j * 4 + 2]? = some (.int .i64 o.x) ∧ xs[j * 4 + 3]? = some (.int .i64 o.y)
structure OOwn (w : World) (lo hi : Nat) (v : Value) (n : Nat) (f : Nat → Ou) (kv : Nat → Value) : Prop where
  row : ∃ xs, w.ownsRow lo 84 4 v n xs ∧ ∀ j, j < n → CellsO xs j (f j) (kv j)
  top : ∀ b, v.ownBlock = some b → b < hi
  keys : ∀ j, j < n → w.ownsRow lo 2 1 (kv j) (f j).l.length (ints (f j).l) ∧ ∀ b, (kv j).ownBlock = some b → b < hi
  apart : ∀ i j, i < j → j < n → ∀ b, (kv i).ownBlock = some b → (kv j).ownBlock ≠ some b
theorem OOwn.below {w w' : World} {lo hi n : Nat} {v : Value} {f : Nat → Ou} {kv : Nat → Value} (h : OOwn w lo hi v n f kv) (hb : Below w.heap.size w w') : OOwn w' lo hi v n f kv := by
  obtain ⟨xs, h1, h2⟩ := h.row
  exact ⟨⟨xs, h1.kept (grown_of_below hb) (by cases Value.ownBlock v <;> simp), h2⟩, h.top, fun j hj => ⟨(h.keys j hj).1.kept (grown_of_below hb) (by cases Value.ownBlock (kv j) <;> simp), (h.keys j hj).2⟩, h.apart⟩
theorem OOwn.chg {w w' : World} {lo hi n lo' hi' : Nat} {v : Value} {f : Nat → Ou} {kv : Nat → Value} (h : OOwn w lo hi v n f kv) (hc : Chg w w' lo' hi') (hd : hi ≤ lo' ∨ hi' ≤ lo) : OOwn w' lo hi v n f kv := by
  obtain ⟨xs, h1, h2⟩ := h.row
  refine ⟨⟨xs, hc.row h1 fun k hk => ?_, h2⟩, h.top, fun j hj => ⟨hc.row (h.keys j hj).1 fun k hk => ?_, (h.keys j hj).2⟩, h.apart⟩
  · have a := h.top k hk
    have b := (h1.lt k hk).1
    omega
  · have a := (h.keys j hj).2 k hk
    have b := ((h.keys j hj).1.lt k hk).1
    omega
theorem OOwn.at {w : World} {lo hi n g c : Nat} {os : List Ou} {kv : Nat → Value} (h : OOwn w lo hi (.slice (some ⟨g, 0, none⟩) n c) n (fun j => os.getD j O0) kv) (hn : os.length = n) (hl : ∀ j, j < n → (os.getD j O0).l.length ≤ 1048576) : OAt w (some ⟨g, 0, none⟩) n os := by
  obtain ⟨xs, h1, h2⟩ := h.row
  have hxl := h1.1
  refine ⟨hn, .inr ⟨g, 0, rfl, (h1.lt g rfl).2, fun j hj => ?_⟩⟩
  obtain ⟨e0, e1, e2, e3⟩ := h2 j hj
  have hk := (h.keys j hj).1
  obtain ⟨ka, kc, hkv⟩ : ∃ ka kc, kv j = .slice ka (os.getD j O0).l.length kc := by
    rcases hk.2 with ⟨q, q0⟩ | ⟨gg, cap, cur, q, _⟩
    · exact ⟨none, 0, by rw [q, q0]⟩
    · exact ⟨_, cap, q⟩
  rw [hkv] at e1 hk
  refine ⟨ka, (os.getD j O0).l.length, kc, ?_, ?_, ?_, ?_, by have := hl j hj; unfold maxLen; omega, IAt.owned hk rfl⟩
  · rw [Nat.zero_add, h1.cellAt (j * 4) (by omega), e0]
  · rw [Nat.zero_add, h1.cellAt (j * 4 + 1) (by omega), e1]
  · rw [Nat.zero_add, h1.cellAt (j * 4 + 2) (by omega), e2]
  · rw [Nat.zero_add, h1.cellAt (j * 4 + 3) (by omega), e3]

/-- A row of outs of its own under way in block B: k of them are there. -/
def RowP (wr : World) (B n k : Nat) (os : List Ou) : Prop :=
  ∃ xs, ∃ kv : Nat → Value, wr.ownsRow B 84 4 (.slice (some ⟨B, 0, none⟩) n n) n xs ∧ (∀ j, j < k → CellsO xs j (os.getD j O0) (kv j) ∧ wr.ownsRow (B + 1) 2 1 (kv j) (os.getD j O0).l.length (ints (os.getD j O0).l)) ∧
    ∀ i j, i < j → j < k → ∀ b, Value.ownBlock (kv i) = some b → Value.ownBlock (kv j) ≠ some b

set_option maxHeartbeats 1000000 in
theorem toP_round {wr w2 : World} {B n k : Nat} {os : List Ou} {v x y : Int} {l : List Int} {g c : Nat} (ho : (⟨v, l, x, y⟩ : Ou) = os.getD k O0) (hlt : k < n) (hR : RowP wr B n k os) (hb : Below wr.heap.size wr w2) (hk : w2.ownsRow wr.heap.size 2 1 (.slice (some ⟨g, 0, none⟩) l.length c) l.length (ints l)) (hBl : B < wr.heap.size) :
    ∃ u0 u1 u2 u3, (w2.cell? ⟨B, k * 4, none⟩ = some u0 ∧ w2.cell? ⟨B, k * 4 + 1, none⟩ = some u1 ∧ w2.cell? ⟨B, k * 4 + 2, none⟩ = some u2 ∧ w2.cell? ⟨B, k * 4 + 3, none⟩ = some u3) ∧ (w2.frozen? ⟨B, k * 4, none⟩ = false ∧ w2.frozen? ⟨B, k * 4 + 1, none⟩ = false ∧ w2.frozen? ⟨B, k * 4 + 2, none⟩ = false ∧ w2.frozen? ⟨B, k * 4 + 3, none⟩ = false) ∧
      Hid (RowP ((((w2.setCell ⟨B, k * 4, none⟩ (.int .i64 v)).setCell ⟨B, k * 4 + 1, none⟩ (.slice (some ⟨g, 0, none⟩) l.length c)).setCell ⟨B, k * 4 + 2, none⟩ (.int .i64 x)).setCell ⟨B, k * 4 + 3, none⟩ (.int .i64 y)) B n (k + 1) os) := by
  obtain ⟨xs, kv, hown0, hxs, hap⟩ := hR
  have hown := hown0.kept (w' := w2) (row := none) ⟨hb.os, hb.tape, hb.output, hb.size, fun k hk _ => hb.block k hk⟩ (by simp [Value.ownBlock])
  have hxl := hown.1
  have r1 := (hown.stored (k * 4) (.int .i64 v)).1
  have r2 := (r1.stored (k * 4 + 1) (.slice (some ⟨g, 0, none⟩) l.length c)).1
  have r3 := (r2.stored (k * 4 + 2) (.int .i64 x)).1
  have r4 := (r3.stored (k * 4 + 3) (.int .i64 y)).1
  have hgl := (hk.lt g rfl).1
  have st : ∀ (W : World) (i : Nat) (u : Value) {z : Value} {d : Nat} {zs : List Value}, W.ownsRow (B + 1) 2 1 z d zs → (W.setCell ⟨B, i, none⟩ u).ownsRow (B + 1) 2 1 z d zs := fun W i u z d zs hW => ownsRow_setCell_below hW (a := ⟨B, i, none⟩) (show B < B + 1 by omega) u
  refine ⟨_, _, _, _, ⟨(hown.cellAt (k * 4) (by omega)).trans (List.getElem?_eq_getElem (by omega)), (hown.cellAt (k * 4 + 1) (by omega)).trans (List.getElem?_eq_getElem (by omega)), (hown.cellAt (k * 4 + 2) (by omega)).trans (List.getElem?_eq_getElem (by omega)), (hown.cellAt (k * 4 + 3) (by omega)).trans (List.getElem?_eq_getElem (by omega))⟩, ⟨hown.frozenAt _, hown.frozenAt _, hown.frozenAt _, hown.frozenAt _⟩, _, fun i => if i = k then .slice (some ⟨g, 0, none⟩) l.length c else kv i, r4, fun j hj => ?_, fun i j hij hj b hbi => ?_⟩
  · by_cases e : k = j
    · subst e
      rw [← ho]
      refine ⟨⟨?_, ?_, ?_, ?_⟩, ?_⟩
      · rw [List.getElem?_set_ne (by omega), List.getElem?_set_ne (by omega), List.getElem?_set_ne (by omega), List.getElem?_set_self (by omega)]
      · rw [List.getElem?_set_ne (by omega), List.getElem?_set_ne (by omega), List.getElem?_set_self (by simp; omega)]; simp
      · rw [List.getElem?_set_ne (by omega), List.getElem?_set_self (by simp; omega)]
      · rw [List.getElem?_set_self (by simp; omega)]
      · simp only [if_true]
        exact st _ _ _ (st _ _ _ (st _ _ _ (st _ _ _ (Joins.ownsRow_le hk (by omega)))))
    · obtain ⟨⟨e0, e1, e2, e3⟩, hr⟩ := hxs j (by omega)
      dsimp only
      rw [if_neg (Ne.symm e)]
      refine ⟨⟨?_, ?_, ?_, ?_⟩, ?_⟩
      · rw [List.getElem?_set_ne (by omega), List.getElem?_set_ne (by omega), List.getElem?_set_ne (by omega), List.getElem?_set_ne (by omega)]; exact e0
      · rw [List.getElem?_set_ne (by omega), List.getElem?_set_ne (by omega), List.getElem?_set_ne (by omega), List.getElem?_set_ne (by omega)]; exact e1
      · rw [List.getElem?_set_ne (by omega), List.getElem?_set_ne (by omega), List.getElem?_set_ne (by omega), List.getElem?_set_ne (by omega)]; exact e2
      · rw [List.getElem?_set_ne (by omega), List.getElem?_set_ne (by omega), List.getElem?_set_ne (by omega), List.getElem?_set_ne (by omega)]; exact e3
      · exact st _ _ _ (st _ _ _ (st _ _ _ (st _ _ _ (hr.kept (grown_of_below hb) (by cases Value.ownBlock (kv j) <;> simp)))))
  · have hik : i ≠ k := by omega
    dsimp only at hbi ⊢
    rw [if_neg hik] at hbi
    by_cases e : j = k
    · rw [if_pos e]
      have h1 := ((hxs i (by omega)).2.lt b hbi).2
      intro e2
      have : g = b := by simpa [Value.ownBlock] using e2
      omega
    · rw [if_neg e]
      exact hap i j hij (by omega) b hbi
theorem RowP.own {w : World} {B n : Nat} {os : List Ou} (h : RowP w B n n os) : ∃ kv, OOwn w B w.heap.size (.slice (some ⟨B, 0, none⟩) n n) n (fun j => os.getD j O0) kv := by
  obtain ⟨xs, kv, h1, h2, h3⟩ := h
  exact ⟨kv, ⟨xs, h1, fun j hj => (h2 j hj).1⟩, fun b hb => (h1.lt b hb).2, fun j hj => ⟨Joins.ownsRow_le (h2 j hj).2 (by omega), fun b hb => ((h2 j hj).2.lt b hb).2⟩, h3⟩

set_option maxHeartbeats 1000000 in
theorem toOsO_any (a : Option Addr) (n cap : Nat) (os : List Ou) (w : World) (hl : n ≤ 1048576) (hk : ∀ j, j < n → (os.getD j O0).l.length ≤ 1048576) (hs : OAt w a n os) :
    Calls Tryz.prog 32 #[.slice a n cap] w fun e w' => ∃ g c kv, e = .returned (.slice (some ⟨g, 0, none⟩) n c) ∧ OOwn w' w.heap.size w'.heap.size (.slice (some ⟨g, 0, none⟩) n c) n (fun j => os.getD j O0) kv ∧ Below w.heap.size w w' := by
  have HSS : Hid (OAt w a n os) := hs
  have HKL : Hid (∀ j, j < n → (os.getD j O0).l.length ≤ 1048576) := hk
  clear hs hk
  obtain ⟨i0, hi, hz0, hz1, hz2⟩ := info_parts Tryz.infoOut
  have hml : n ≤ maxLen := by unfold maxLen; omega
  go_enter Tryz.func32, Tryz.ntmps32
  go_wp2_with (first | (at_make; refine wpList_make_full _ rfl _ _ 44 rfl w.heap.size 84 i0 (.agg #[.int .i64 0, .slice none 0 0, .int .i64 0, .int .i64 0]) 4 Tryz.underlying44 hi hz0 hz1 _ _ _ _ n rfl rfl (by omega) (by omega) (by rw [hz2]; omega) hml (Nat.le_refl _) ?_; intro w1 ho1 hg1))
  have hb1 : Below w.heap.size w w1 := (Below.refl _ _).grown hg1 (Nat.le_refl _) (fun k h => by cases h)
  have hB1 : w.heap.size < w1.heap.size := (ho1.lt _ rfl).2
  go_loopw [4] (fun i wr => ∃ k : Nat, k ≤ n ∧ i = .int .i64 k ∧ Below w.heap.size w wr ∧ w.heap.size < wr.heap.size ∧ Hid (RowP wr w.heap.size n k os)) (fun i _ => n - (intOf i).toNat)
  case atStart => exact ⟨0, Nat.zero_le _, rfl, hb1, hB1, _, fun _ => .slice none 0 0, ho1, fun j hj => (by omega), fun i j _ hj => (by omega)⟩
  case round =>
    obtain ⟨k, hk, rfl, hbel, hBw, HX⟩ := hrel
    clear ho1 hg1 hb1 hB1
    by_cases hlt : k < n
    · rcases HSS.out.2 with h0 | ⟨b, off, ha, hb, hc⟩
      · omega
      subst ha
      obtain ⟨o, ho⟩ : ∃ o, o = os.getD k O0 := ⟨_, rfl⟩
      obtain ⟨ka, kn, kc, c0, c1, c2, c3, c4, c5⟩ := hc k hlt
      have c6 := HKL.out k hlt
      rw [← ho] at c0 c2 c3 c5 c6
      obtain ⟨ov, ol, ox, oy⟩ := o
      have HS : Hid ((⟨ov, ol, ox, oy⟩ : Ou) = os.getD k O0) := ho
      obtain rfl := c5.1
      have x0 := (hbel.cell (p := ⟨b, off + k * 4, none⟩) hb).trans c0
      have x1 := (hbel.cell (p := ⟨b, off + k * 4 + 1, none⟩) hb).trans c1
      have x2 := (hbel.cell (p := ⟨b, off + k * 4 + 2, none⟩) hb).trans c2
      have x3 := (hbel.cell (p := ⟨b, off + k * 4 + 3, none⟩) hb).trans c3
      have hto := toOut_any ov ka ol.length kc ol ox oy wr c6 (c5.below hbel (Nat.le_refl _))
      simp only at x0 x2 x3
      clear hc ho c0 c1 c2 c3 c4 c5 c6
      go_wp2_with (first | (go_at_call 59; refine hto.mono ?_; rintro e w2 ⟨g, c, rfl, hk2, hb2⟩; obtain ⟨u0, u1, u2, u3, ⟨y0, y1, y2, y3⟩, ⟨f0, f1, f2, f3⟩, HX2⟩ := toP_round HS.out hlt HX.out hb2 hk2 hBw; have HB2 : Hid (Below w.heap.size w w2) := hbel.trans (hb2.mono hbel.size); have hBw2 := Nat.lt_of_lt_of_le hBw hb2.size; clear hk2 hb2))
      go_roundw
      case rel => exact ⟨k + 1, by omega, by go_num, (((HB2.out.setCell (Nat.le_refl _) _).setCell (Nat.le_refl _) _).setCell (Nat.le_refl _) _).setCell (Nat.le_refl _) _, by simpa using hBw2, HX2⟩
      case measure => simp [intOf]; omega
    · obtain rfl : k = n := by omega
      go_wp2
      go_ret
      obtain ⟨kv, hO⟩ := HX.out.own
      exact ⟨_, _, kv, rfl, hO, hbel⟩

end Go.Proofs.YtjgilpkkfpbefaaGreatDoor
