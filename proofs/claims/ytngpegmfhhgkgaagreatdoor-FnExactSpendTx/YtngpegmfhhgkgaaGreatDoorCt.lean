/- Lists of coins that come in are copied into memory of their own: the row, and each one's keys. -/
import Derived.Test.YtngpegmfhhgkgaaGreatDoorCh
namespace Go.Proofs.YtngpegmfhhgkgaaGreatDoor
open Go.RowKit Go.Maps Go.WideMaps

/-- A row of coins of its own under way in block B: k of them are there. -/
def RowD (wr : World) (B n k : Nat) (cs : List Co) : Prop :=
  ∃ xs, ∃ kv : Nat → Value, wr.ownsRow B 68 8 (.slice (some ⟨B, 0, none⟩) n n) n xs ∧ (∀ j, j < k → CellsC xs j (cs.getD j C0) (kv j) ∧ wr.ownsRow (B + 1) 2 1 (kv j) (cs.getD j C0).l.length (ints (cs.getD j C0).l)) ∧
    ∀ i j, i < j → j < k → ∀ b, Value.ownBlock (kv i) = some b → Value.ownBlock (kv j) ≠ some b

set_option maxHeartbeats 1000000 in
theorem toD_round {wr w2 : World} {B n k : Nat} {cs : List Co} {p q v x y h : Int} {m : Bool} {l : List Int} {g c : Nat} (ho : (⟨p, q, v, l, x, y, h, m⟩ : Co) = cs.getD k C0) (hlt : k < n) (hR : RowD wr B n k cs) (hb : Below wr.heap.size wr w2) (hk : w2.ownsRow wr.heap.size 2 1 (.slice (some ⟨g, 0, none⟩) l.length c) l.length (ints l)) (hBl : B < wr.heap.size) :
    ∃ u0 u1 u2 u3 u4 u5 u6 u7, (w2.cell? ⟨B, k * 8, none⟩ = some u0 ∧ w2.cell? ⟨B, k * 8 + 1, none⟩ = some u1 ∧ w2.cell? ⟨B, k * 8 + 2, none⟩ = some u2 ∧ w2.cell? ⟨B, k * 8 + 3, none⟩ = some u3 ∧ w2.cell? ⟨B, k * 8 + 4, none⟩ = some u4 ∧ w2.cell? ⟨B, k * 8 + 5, none⟩ = some u5 ∧ w2.cell? ⟨B, k * 8 + 6, none⟩ = some u6 ∧ w2.cell? ⟨B, k * 8 + 7, none⟩ = some u7) ∧ (w2.frozen? ⟨B, k * 8, none⟩ = false ∧ w2.frozen? ⟨B, k * 8 + 1, none⟩ = false ∧ w2.frozen? ⟨B, k * 8 + 2, none⟩ = false ∧ w2.frozen? ⟨B, k * 8 + 3, none⟩ = false ∧ w2.frozen? ⟨B, k * 8 + 4, none⟩ = false ∧ w2.frozen? ⟨B, k * 8 + 5, none⟩ = false ∧ w2.frozen? ⟨B, k * 8 + 6, none⟩ = false ∧ w2.frozen? ⟨B, k * 8 + 7, none⟩ = false) ∧
      Hid (RowD ((((((((w2.setCell ⟨B, k * 8, none⟩ (.int .i64 p)).setCell ⟨B, k * 8 + 1, none⟩ (.int .i64 q)).setCell ⟨B, k * 8 + 2, none⟩ (.int .i64 v)).setCell ⟨B, k * 8 + 3, none⟩ (.slice (some ⟨g, 0, none⟩) l.length c)).setCell ⟨B, k * 8 + 4, none⟩ (.int .i64 x)).setCell ⟨B, k * 8 + 5, none⟩ (.int .i64 y)).setCell ⟨B, k * 8 + 6, none⟩ (.int .i64 h)).setCell ⟨B, k * 8 + 7, none⟩ (.bool m)) B n (k + 1) cs) := by
  obtain ⟨xs, kv, hown0, hxs, hap⟩ := hR
  have hown := hown0.kept (w' := w2) (row := none) ⟨hb.os, hb.tape, hb.output, hb.size, fun k hk _ => hb.block k hk⟩ (by simp [Value.ownBlock])
  have hxl := hown.1
  have r1 := (hown.stored (k * 8) (.int .i64 p)).1
  have r2 := (r1.stored (k * 8 + 1) (.int .i64 q)).1
  have r3 := (r2.stored (k * 8 + 2) (.int .i64 v)).1
  have r4 := (r3.stored (k * 8 + 3) (.slice (some ⟨g, 0, none⟩) l.length c)).1
  have r5 := (r4.stored (k * 8 + 4) (.int .i64 x)).1
  have r6 := (r5.stored (k * 8 + 5) (.int .i64 y)).1
  have r7 := (r6.stored (k * 8 + 6) (.int .i64 h)).1
  have r8 := (r7.stored (k * 8 + 7) (.bool m)).1
  have hgl := (hk.lt g rfl).1
  have st : ∀ (W : World) (i : Nat) (u : Value) {z : Value} {d : Nat} {zs : List Value}, W.ownsRow (B + 1) 2 1 z d zs → (W.setCell ⟨B, i, none⟩ u).ownsRow (B + 1) 2 1 z d zs := fun W i u z d zs hW => ownsRow_setCell_below hW (a := ⟨B, i, none⟩) (show B < B + 1 by omega) u
  refine ⟨_, _, _, _, _, _, _, _, ⟨(hown.cellAt (k * 8) (by omega)).trans (List.getElem?_eq_getElem (by omega)), (hown.cellAt (k * 8 + 1) (by omega)).trans (List.getElem?_eq_getElem (by omega)), (hown.cellAt (k * 8 + 2) (by omega)).trans (List.getElem?_eq_getElem (by omega)), (hown.cellAt (k * 8 + 3) (by omega)).trans (List.getElem?_eq_getElem (by omega)), (hown.cellAt (k * 8 + 4) (by omega)).trans (List.getElem?_eq_getElem (by omega)), (hown.cellAt (k * 8 + 5) (by omega)).trans (List.getElem?_eq_getElem (by omega)), (hown.cellAt (k * 8 + 6) (by omega)).trans (List.getElem?_eq_getElem (by omega)), (hown.cellAt (k * 8 + 7) (by omega)).trans (List.getElem?_eq_getElem (by omega))⟩, ⟨hown.frozenAt _, hown.frozenAt _, hown.frozenAt _, hown.frozenAt _, hown.frozenAt _, hown.frozenAt _, hown.frozenAt _, hown.frozenAt _⟩, _, fun i => if i = k then .slice (some ⟨g, 0, none⟩) l.length c else kv i, r8, fun j hj => ?_, fun i j hij hj b hbi => ?_⟩
  · by_cases e : k = j
    · subst e
      rw [← ho]
      refine ⟨⟨?_, ?_, ?_, ?_, ?_, ?_, ?_, ?_⟩, ?_⟩
      · rw [List.getElem?_set_ne (by omega), List.getElem?_set_ne (by omega), List.getElem?_set_ne (by omega), List.getElem?_set_ne (by omega), List.getElem?_set_ne (by omega), List.getElem?_set_ne (by omega), List.getElem?_set_ne (by omega), List.getElem?_set_self (by omega)]
      · rw [List.getElem?_set_ne (by omega), List.getElem?_set_ne (by omega), List.getElem?_set_ne (by omega), List.getElem?_set_ne (by omega), List.getElem?_set_ne (by omega), List.getElem?_set_ne (by omega), List.getElem?_set_self (by simp; omega)]
      · rw [List.getElem?_set_ne (by omega), List.getElem?_set_ne (by omega), List.getElem?_set_ne (by omega), List.getElem?_set_ne (by omega), List.getElem?_set_ne (by omega), List.getElem?_set_self (by simp; omega)]
      · rw [List.getElem?_set_ne (by omega), List.getElem?_set_ne (by omega), List.getElem?_set_ne (by omega), List.getElem?_set_ne (by omega), List.getElem?_set_self (by simp; omega)]; simp
      · rw [List.getElem?_set_ne (by omega), List.getElem?_set_ne (by omega), List.getElem?_set_ne (by omega), List.getElem?_set_self (by simp; omega)]
      · rw [List.getElem?_set_ne (by omega), List.getElem?_set_ne (by omega), List.getElem?_set_self (by simp; omega)]
      · rw [List.getElem?_set_ne (by omega), List.getElem?_set_self (by simp; omega)]
      · rw [List.getElem?_set_self (by simp; omega)]
      · simp only [if_true]
        exact (st _ _ _ (st _ _ _ (st _ _ _ (st _ _ _ (st _ _ _ (st _ _ _ (st _ _ _ (st _ _ _ (Joins.ownsRow_le hk (by omega))))))))))
    · obtain ⟨⟨e0, e1, e2, e3, e4, e5, e6, e7⟩, hr⟩ := hxs j (by omega)
      dsimp only
      rw [if_neg (Ne.symm e)]
      refine ⟨⟨?_, ?_, ?_, ?_, ?_, ?_, ?_, ?_⟩, ?_⟩
      · rw [List.getElem?_set_ne (by omega), List.getElem?_set_ne (by omega), List.getElem?_set_ne (by omega), List.getElem?_set_ne (by omega), List.getElem?_set_ne (by omega), List.getElem?_set_ne (by omega), List.getElem?_set_ne (by omega), List.getElem?_set_ne (by omega)]; exact e0
      · rw [List.getElem?_set_ne (by omega), List.getElem?_set_ne (by omega), List.getElem?_set_ne (by omega), List.getElem?_set_ne (by omega), List.getElem?_set_ne (by omega), List.getElem?_set_ne (by omega), List.getElem?_set_ne (by omega), List.getElem?_set_ne (by omega)]; exact e1
      · rw [List.getElem?_set_ne (by omega), List.getElem?_set_ne (by omega), List.getElem?_set_ne (by omega), List.getElem?_set_ne (by omega), List.getElem?_set_ne (by omega), List.getElem?_set_ne (by omega), List.getElem?_set_ne (by omega), List.getElem?_set_ne (by omega)]; exact e2
      · rw [List.getElem?_set_ne (by omega), List.getElem?_set_ne (by omega), List.getElem?_set_ne (by omega), List.getElem?_set_ne (by omega), List.getElem?_set_ne (by omega), List.getElem?_set_ne (by omega), List.getElem?_set_ne (by omega), List.getElem?_set_ne (by omega)]; exact e3
      · rw [List.getElem?_set_ne (by omega), List.getElem?_set_ne (by omega), List.getElem?_set_ne (by omega), List.getElem?_set_ne (by omega), List.getElem?_set_ne (by omega), List.getElem?_set_ne (by omega), List.getElem?_set_ne (by omega), List.getElem?_set_ne (by omega)]; exact e4
      · rw [List.getElem?_set_ne (by omega), List.getElem?_set_ne (by omega), List.getElem?_set_ne (by omega), List.getElem?_set_ne (by omega), List.getElem?_set_ne (by omega), List.getElem?_set_ne (by omega), List.getElem?_set_ne (by omega), List.getElem?_set_ne (by omega)]; exact e5
      · rw [List.getElem?_set_ne (by omega), List.getElem?_set_ne (by omega), List.getElem?_set_ne (by omega), List.getElem?_set_ne (by omega), List.getElem?_set_ne (by omega), List.getElem?_set_ne (by omega), List.getElem?_set_ne (by omega), List.getElem?_set_ne (by omega)]; exact e6
      · rw [List.getElem?_set_ne (by omega), List.getElem?_set_ne (by omega), List.getElem?_set_ne (by omega), List.getElem?_set_ne (by omega), List.getElem?_set_ne (by omega), List.getElem?_set_ne (by omega), List.getElem?_set_ne (by omega), List.getElem?_set_ne (by omega)]; exact e7
      · exact (st _ _ _ (st _ _ _ (st _ _ _ (st _ _ _ (st _ _ _ (st _ _ _ (st _ _ _ (st _ _ _ (hr.kept (grown_of_below hb) (by cases Value.ownBlock (kv j) <;> simp))))))))))
  · have hik : i ≠ k := by omega
    dsimp only at hbi ⊢
    rw [if_neg hik] at hbi
    by_cases e : j = k
    · rw [if_pos e]
      have h1 := ((hxs i (by omega)).2.lt b hbi).2
      intro e2
      have : g = b := by simpa [Value.ownBlock] using e2
      omega
    · rw [if_neg e]
      exact hap i j hij (by omega) b hbi

theorem RowD.own {w : World} {B n : Nat} {cs : List Co} (h : RowD w B n n cs) : ∃ kv, COwn w B w.heap.size (.slice (some ⟨B, 0, none⟩) n n) n (fun j => cs.getD j C0) kv := by
  obtain ⟨xs, kv, h1, h2, h3⟩ := h
  exact ⟨kv, ⟨xs, h1, fun j hj => (h2 j hj).1⟩, fun b hb => (h1.lt b hb).2, fun j hj => ⟨Joins.ownsRow_le (h2 j hj).2 (by omega), fun b hb => ((h2 j hj).2.lt b hb).2⟩, h3⟩

set_option maxHeartbeats 1000000 in
theorem toCsO_any (a : Option Addr) (n cap : Nat) (cs : List Co) (w : World) (hl : n ≤ 1048576) (hk : ∀ j, j < n → (cs.getD j C0).l.length ≤ 1048576) (hs : CAt w a n cs) :
    Calls Tryz.prog 7 #[.slice a n cap] w fun e w' => ∃ g c kv, e = .returned (.slice (some ⟨g, 0, none⟩) n c) ∧ COwn w' w.heap.size w'.heap.size (.slice (some ⟨g, 0, none⟩) n c) n (fun j => cs.getD j C0) kv ∧ n ≤ c ∧ c ≤ maxLen ∧ Below w.heap.size w w' := by
  have HSS : Hid (CAt w a n cs) := hs
  have HKL : Hid (∀ j, j < n → (cs.getD j C0).l.length ≤ 1048576) := hk
  clear hs hk
  obtain ⟨i0, hi, hz0, hz1, hz2⟩ := info_parts Tryz.infoCoin
  have hml : n ≤ maxLen := by unfold maxLen; omega
  go_enter Tryz.func7, Tryz.ntmps7
  go_wp2_with (first | (at_make; refine wpList_make_full _ rfl _ _ 29 rfl w.heap.size 68 i0 (.agg #[.int .i64 0, .int .i64 0, .int .i64 0, .slice none 0 0, .int .i64 0, .int .i64 0, .int .i64 0, .bool false]) 8 Tryz.underlying29 hi hz0 hz1 _ _ _ _ n rfl rfl (by omega) (by omega) (by rw [hz2]; omega) hml (Nat.le_refl _) ?_; intro w1 ho1 hg1))
  have hb1 : Below w.heap.size w w1 := (Below.refl _ _).grown hg1 (Nat.le_refl _) (fun k h => by cases h)
  have hB1 : w.heap.size < w1.heap.size := (ho1.lt _ rfl).2
  go_loopw [4] (fun i wr => ∃ k : Nat, k ≤ n ∧ i = .int .i64 k ∧ Below w.heap.size w wr ∧ w.heap.size < wr.heap.size ∧ Hid (RowD wr w.heap.size n k cs)) (fun i _ => n - (intOf i).toNat)
  case atStart => exact ⟨0, Nat.zero_le _, rfl, hb1, hB1, _, fun _ => .slice none 0 0, ho1, fun j hj => (by omega), fun i j _ hj => (by omega)⟩
  case round =>
    obtain ⟨k, hk, rfl, hbel, hBw, HX⟩ := hrel
    clear ho1 hg1 hb1 hB1
    by_cases hlt : k < n
    · rcases HSS.out.2 with h0 | ⟨b, off, ha, hb, hc⟩
      · omega
      subst ha
      obtain ⟨o, ho⟩ : ∃ o, o = cs.getD k C0 := ⟨_, rfl⟩
      obtain ⟨ka, kc, c0, c4, c5⟩ := hc k hlt
      have c6 := HKL.out k hlt
      rw [← ho] at c0 c4 c5 c6
      obtain ⟨op, oq, ov, ol, ox, oy, oh, om⟩ := o
      have HS : Hid ((⟨op, oq, ov, ol, ox, oy, oh, om⟩ : Co) = cs.getD k C0) := ho
      obtain ⟨x0, x1, x2, x3, x4, x5, x6, x7⟩ := c0.below hbel hb
      simp only at x0 x1 x2 x3 x4 x5 x6 x7
      have hto := toCoin_any op oq ov ka ol.length kc ol ox oy oh om wr c6 (c5.below hbel (Nat.le_refl _))
      clear hc ho c0 c4 c5 c6
      go_wp2_with (first | (go_at_call 24; (with_reducible refine hto.mono ?_); clear hto; rintro e w2 ⟨g, c, rfl, hk2, hb2⟩; obtain ⟨u0, u1, u2, u3, u4, u5, u6, u7, ⟨y0, y1, y2, y3, y4, y5, y6, y7⟩, ⟨f0, f1, f2, f3, f4, f5, f6, f7⟩, HX2⟩ := toD_round HS.out hlt HX.out hb2 hk2 hBw; have HB2 : Hid (Below w.heap.size w w2) := hbel.trans (hb2.mono hbel.size); have hBw2 := Nat.lt_of_lt_of_le hBw hb2.size; clear hk2 hb2))
      go_roundw
      case rel => exact ⟨k + 1, by omega, by go_num, ((((((((HB2.out.setCell (Nat.le_refl _) _).setCell (Nat.le_refl _) _).setCell (Nat.le_refl _) _).setCell (Nat.le_refl _) _).setCell (Nat.le_refl _) _).setCell (Nat.le_refl _) _).setCell (Nat.le_refl _) _).setCell (Nat.le_refl _) _), by simpa using hBw2, HX2⟩
      case measure => simp [intOf]; omega
    · obtain rfl : k = n := by omega
      go_wp2
      go_ret
      obtain ⟨kv, hO⟩ := HX.out.own
      exact ⟨_, _, kv, rfl, hO, Nat.le_refl _, hml, hbel⟩

end Go.Proofs.YtngpegmfhhgkgaaGreatDoor
