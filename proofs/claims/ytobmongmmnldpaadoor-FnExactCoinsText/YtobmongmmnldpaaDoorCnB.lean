/- Lists of coins that come in are copied into new memory; two lists are compared. -/
import Derived.Test.YtobmongmmnldpaaDoorCnA
namespace Go.Proofs.YtobmongmmnldpaaDoor
open Go.RowKit Go.Maps Go.WideMaps

/-- A row of coins under way in block B: k of them are there. -/
def RowC (wr : World) (B n k : Nat) (cs : List Co) : Prop :=
  ∃ xs, wr.ownsRow B 49 8 (.slice (some ⟨B, 0, none⟩) n n) n xs ∧ ∀ j, j < k → ∃ g c, (xs[j * 8]? = some (.int .i64 (cs.getD j C0).p) ∧ xs[j * 8 + 1]? = some (.int .i64 (cs.getD j C0).q) ∧ xs[j * 8 + 2]? = some (.int .i64 (cs.getD j C0).v) ∧ xs[j * 8 + 3]? = some (.slice (some ⟨g, 0, none⟩) (cs.getD j C0).l.length c) ∧ xs[j * 8 + 4]? = some (.int .i64 (cs.getD j C0).x) ∧ xs[j * 8 + 5]? = some (.int .i64 (cs.getD j C0).y) ∧ xs[j * 8 + 6]? = some (.int .i64 (cs.getD j C0).h) ∧ xs[j * 8 + 7]? = some (.bool (cs.getD j C0).m)) ∧
    B < g ∧ (cs.getD j C0).l.length ≤ maxLen ∧ IAt wr (some ⟨g, 0, none⟩) (cs.getD j C0).l.length (cs.getD j C0).l

set_option maxHeartbeats 1000000 in
theorem toC_round {wr w2 : World} {B n k : Nat} {cs : List Co} {p q v x y h : Int} {m : Bool} {l : List Int} {g c : Nat} (ho : (⟨p, q, v, l, x, y, h, m⟩ : Co) = cs.getD k C0) (hlt : k < n) (hR : RowC wr B n k cs) (hb : Below wr.heap.size wr w2) (hk : w2.ownsRow wr.heap.size 2 1 (.slice (some ⟨g, 0, none⟩) l.length c) l.length (ints l)) (hBl : B < wr.heap.size) (hol : l.length ≤ maxLen) :
    ∃ u0 u1 u2 u3 u4 u5 u6 u7, (w2.cell? ⟨B, k * 8, none⟩ = some u0 ∧ w2.cell? ⟨B, k * 8 + 1, none⟩ = some u1 ∧ w2.cell? ⟨B, k * 8 + 2, none⟩ = some u2 ∧ w2.cell? ⟨B, k * 8 + 3, none⟩ = some u3 ∧ w2.cell? ⟨B, k * 8 + 4, none⟩ = some u4 ∧ w2.cell? ⟨B, k * 8 + 5, none⟩ = some u5 ∧ w2.cell? ⟨B, k * 8 + 6, none⟩ = some u6 ∧ w2.cell? ⟨B, k * 8 + 7, none⟩ = some u7) ∧ (w2.frozen? ⟨B, k * 8, none⟩ = false ∧ w2.frozen? ⟨B, k * 8 + 1, none⟩ = false ∧ w2.frozen? ⟨B, k * 8 + 2, none⟩ = false ∧ w2.frozen? ⟨B, k * 8 + 3, none⟩ = false ∧ w2.frozen? ⟨B, k * 8 + 4, none⟩ = false ∧ w2.frozen? ⟨B, k * 8 + 5, none⟩ = false ∧ w2.frozen? ⟨B, k * 8 + 6, none⟩ = false ∧ w2.frozen? ⟨B, k * 8 + 7, none⟩ = false) ∧
      Hid (RowC ((((((((w2.setCell ⟨B, k * 8, none⟩ (.int .i64 p)).setCell ⟨B, k * 8 + 1, none⟩ (.int .i64 q)).setCell ⟨B, k * 8 + 2, none⟩ (.int .i64 v)).setCell ⟨B, k * 8 + 3, none⟩ (.slice (some ⟨g, 0, none⟩) l.length c)).setCell ⟨B, k * 8 + 4, none⟩ (.int .i64 x)).setCell ⟨B, k * 8 + 5, none⟩ (.int .i64 y)).setCell ⟨B, k * 8 + 6, none⟩ (.int .i64 h)).setCell ⟨B, k * 8 + 7, none⟩ (.bool m)) B n (k + 1) cs) := by
  obtain ⟨xs, hown0, hxs⟩ := hR
  have hown := hown0.kept (w' := w2) (row := none) ⟨hb.os, hb.tape, hb.output, hb.size, fun k hk _ => hb.block k hk⟩ (by simp [Value.ownBlock])
  have hxl := hown.1
  have r1 := (hown.stored (k * 8) (.int .i64 p)).1
  have r2 := (r1.stored (k * 8 + 1) (.int .i64 q)).1
  have r3 := (r2.stored (k * 8 + 2) (.int .i64 v)).1
  have r4 := (r3.stored (k * 8 + 3) (.slice (some ⟨g, 0, none⟩) l.length c)).1
  have r5 := (r4.stored (k * 8 + 4) (.int .i64 x)).1
  have r6 := (r5.stored (k * 8 + 5) (.int .i64 y)).1
  have r7 := (r6.stored (k * 8 + 6) (.int .i64 h)).1
  have r8 := (r7.stored (k * 8 + 7) (.bool m)).1
  have hgl : B < g := by have := (hk.lt g rfl).1; omega
  have hgB : g ≠ B := by omega
  have hIk : IAt w2 (some ⟨g, 0, none⟩) l.length l := IAt.owned hk rfl
  refine ⟨_, _, _, _, _, _, _, _, ⟨(hown.cellAt (k * 8) (by omega)).trans (List.getElem?_eq_getElem (by omega)), (hown.cellAt (k * 8 + 1) (by omega)).trans (List.getElem?_eq_getElem (by omega)), (hown.cellAt (k * 8 + 2) (by omega)).trans (List.getElem?_eq_getElem (by omega)), (hown.cellAt (k * 8 + 3) (by omega)).trans (List.getElem?_eq_getElem (by omega)), (hown.cellAt (k * 8 + 4) (by omega)).trans (List.getElem?_eq_getElem (by omega)), (hown.cellAt (k * 8 + 5) (by omega)).trans (List.getElem?_eq_getElem (by omega)), (hown.cellAt (k * 8 + 6) (by omega)).trans (List.getElem?_eq_getElem (by omega)), (hown.cellAt (k * 8 + 7) (by omega)).trans (List.getElem?_eq_getElem (by omega))⟩, ⟨hown.frozenAt _, hown.frozenAt _, hown.frozenAt _, hown.frozenAt _, hown.frozenAt _, hown.frozenAt _, hown.frozenAt _, hown.frozenAt _⟩, _, r8, fun j hj => ?_⟩
  by_cases e : k = j
  · subst e
    rw [← ho]
    refine ⟨g, c, ⟨?_, ?_, ?_, ?_, ?_, ?_, ?_, ?_⟩, hgl, hol, ((((((((hIk.setOther hgB _).setOther hgB _).setOther hgB _).setOther hgB _).setOther hgB _).setOther hgB _).setOther hgB _).setOther hgB _)⟩
    · rw [List.getElem?_set_ne (by omega), List.getElem?_set_ne (by omega), List.getElem?_set_ne (by omega), List.getElem?_set_ne (by omega), List.getElem?_set_ne (by omega), List.getElem?_set_ne (by omega), List.getElem?_set_ne (by omega), List.getElem?_set_self (by omega)]
    · rw [List.getElem?_set_ne (by omega), List.getElem?_set_ne (by omega), List.getElem?_set_ne (by omega), List.getElem?_set_ne (by omega), List.getElem?_set_ne (by omega), List.getElem?_set_ne (by omega), List.getElem?_set_self (by simp; omega)]
    · rw [List.getElem?_set_ne (by omega), List.getElem?_set_ne (by omega), List.getElem?_set_ne (by omega), List.getElem?_set_ne (by omega), List.getElem?_set_ne (by omega), List.getElem?_set_self (by simp; omega)]
    · rw [List.getElem?_set_ne (by omega), List.getElem?_set_ne (by omega), List.getElem?_set_ne (by omega), List.getElem?_set_ne (by omega), List.getElem?_set_self (by simp; omega)]
    · rw [List.getElem?_set_ne (by omega), List.getElem?_set_ne (by omega), List.getElem?_set_ne (by omega), List.getElem?_set_self (by simp; omega)]
    · rw [List.getElem?_set_ne (by omega), List.getElem?_set_ne (by omega), List.getElem?_set_self (by simp; omega)]
    · rw [List.getElem?_set_ne (by omega), List.getElem?_set_self (by simp; omega)]
    · rw [List.getElem?_set_self (by simp; omega)]
  · obtain ⟨g', c', ⟨e0, e1, e2, e3, e4, e5, e6, e7⟩, hgl', hl', hI'⟩ := hxs j (by omega)
    have hg' : g' ≠ B := by omega
    refine ⟨g', c', ⟨?_, ?_, ?_, ?_, ?_, ?_, ?_, ?_⟩, hgl', hl', (((((((((hI'.below hb (Nat.le_refl _)).setOther hg' _).setOther hg' _).setOther hg' _).setOther hg' _).setOther hg' _).setOther hg' _).setOther hg' _).setOther hg' _)⟩
    · rw [List.getElem?_set_ne (by omega), List.getElem?_set_ne (by omega), List.getElem?_set_ne (by omega), List.getElem?_set_ne (by omega), List.getElem?_set_ne (by omega), List.getElem?_set_ne (by omega), List.getElem?_set_ne (by omega), List.getElem?_set_ne (by omega)]; exact e0
    · rw [List.getElem?_set_ne (by omega), List.getElem?_set_ne (by omega), List.getElem?_set_ne (by omega), List.getElem?_set_ne (by omega), List.getElem?_set_ne (by omega), List.getElem?_set_ne (by omega), List.getElem?_set_ne (by omega), List.getElem?_set_ne (by omega)]; exact e1
    · rw [List.getElem?_set_ne (by omega), List.getElem?_set_ne (by omega), List.getElem?_set_ne (by omega), List.getElem?_set_ne (by omega), List.getElem?_set_ne (by omega), List.getElem?_set_ne (by omega), List.getElem?_set_ne (by omega), List.getElem?_set_ne (by omega)]; exact e2
    · rw [List.getElem?_set_ne (by omega), List.getElem?_set_ne (by omega), List.getElem?_set_ne (by omega), List.getElem?_set_ne (by omega), List.getElem?_set_ne (by omega), List.getElem?_set_ne (by omega), List.getElem?_set_ne (by omega), List.getElem?_set_ne (by omega)]; exact e3
    · rw [List.getElem?_set_ne (by omega), List.getElem?_set_ne (by omega), List.getElem?_set_ne (by omega), List.getElem?_set_ne (by omega), List.getElem?_set_ne (by omega), List.getElem?_set_ne (by omega), List.getElem?_set_ne (by omega), List.getElem?_set_ne (by omega)]; exact e4
    · rw [List.getElem?_set_ne (by omega), List.getElem?_set_ne (by omega), List.getElem?_set_ne (by omega), List.getElem?_set_ne (by omega), List.getElem?_set_ne (by omega), List.getElem?_set_ne (by omega), List.getElem?_set_ne (by omega), List.getElem?_set_ne (by omega)]; exact e5
    · rw [List.getElem?_set_ne (by omega), List.getElem?_set_ne (by omega), List.getElem?_set_ne (by omega), List.getElem?_set_ne (by omega), List.getElem?_set_ne (by omega), List.getElem?_set_ne (by omega), List.getElem?_set_ne (by omega), List.getElem?_set_ne (by omega)]; exact e6
    · rw [List.getElem?_set_ne (by omega), List.getElem?_set_ne (by omega), List.getElem?_set_ne (by omega), List.getElem?_set_ne (by omega), List.getElem?_set_ne (by omega), List.getElem?_set_ne (by omega), List.getElem?_set_ne (by omega), List.getElem?_set_ne (by omega)]; exact e7

/-- Coins in new memory: their row and their keys lie in blocks from 'base' on. -/
def CAtN (w : World) (base g n : Nat) (cs : List Co) : Prop :=
  cs.length = n ∧ base ≤ g ∧ g < w.heap.size ∧ ∀ j, j < n → ∃ kg kc, CoAt w g (j * 8) (cs.getD j C0) (some ⟨kg, 0, none⟩) kc ∧ base ≤ kg ∧ (cs.getD j C0).l.length ≤ maxLen ∧ IAt w (some ⟨kg, 0, none⟩) (cs.getD j C0).l.length (cs.getD j C0).l
theorem CAtN.at {w : World} {base g n : Nat} {cs : List Co} (h : CAtN w base g n cs) : CAt w (some ⟨g, 0, none⟩) n cs := by
  obtain ⟨hn, _, hg, hc⟩ := h
  refine ⟨hn, .inr ⟨g, 0, rfl, hg, fun j hj => ?_⟩⟩
  obtain ⟨kg, kc, h0, _, h5, h6⟩ := hc j hj
  exact ⟨_, kc, by rw [Nat.zero_add]; exact h0, h5, h6⟩
theorem CAtN.below {w w' : World} {base g n : Nat} {cs : List Co} (h : CAtN w base g n cs) (hb : Below w.heap.size w w') : CAtN w' base g n cs := by
  obtain ⟨hn, h1, hg, hc⟩ := h
  refine ⟨hn, h1, Nat.lt_of_lt_of_le hg hb.size, fun j hj => ?_⟩
  obtain ⟨kg, kk, h0, h4, h5, h6⟩ := hc j hj
  exact ⟨kg, kk, h0.below hb hg, h4, h5, h6.below hb (Nat.le_refl _)⟩

theorem RowC.at {w : World} {B n : Nat} {cs : List Co} (hn : cs.length = n) (h : RowC w B n n cs) : CAtN w B B n cs := by
  obtain ⟨xs, hown, hxs⟩ := h
  refine ⟨hn, Nat.le_refl _, (hown.lt B rfl).2, fun j hj => ?_⟩
  obtain ⟨g, c, ⟨e0, e1, e2, e3, e4, e5, e6, e7⟩, hg, hl, hI⟩ := hxs j hj
  have hxl := hown.1
  refine ⟨g, c, ⟨?_, ?_, ?_, ?_, ?_, ?_, ?_, ?_⟩, by omega, hl, hI⟩
  · rw [hown.cellAt (j * 8) (by omega), e0]
  · rw [hown.cellAt (j * 8 + 1) (by omega), e1]
  · rw [hown.cellAt (j * 8 + 2) (by omega), e2]
  · rw [hown.cellAt (j * 8 + 3) (by omega), e3]
  · rw [hown.cellAt (j * 8 + 4) (by omega), e4]
  · rw [hown.cellAt (j * 8 + 5) (by omega), e5]
  · rw [hown.cellAt (j * 8 + 6) (by omega), e6]
  · rw [hown.cellAt (j * 8 + 7) (by omega), e7]

set_option maxHeartbeats 1000000 in
theorem toCs_any (a : Option Addr) (n cap : Nat) (cs : List Co) (w : World) (hl : n ≤ 1048576) (hk : ∀ j, j < n → (cs.getD j C0).l.length ≤ 1048576) (hs : CAt w a n cs) :
    Calls Tryd.prog 6 #[.slice a n cap] w fun e w' => ∃ g c, e = .returned (.slice (some ⟨g, 0, none⟩) n c) ∧ CAtN w' w.heap.size g n cs ∧ n ≤ c ∧ c ≤ maxLen ∧ Below w.heap.size w w' := by
  have HN : Hid (cs.length = n) := hs.1
  have HSS : Hid (CAt w a n cs) := hs
  have HKL : Hid (∀ j, j < n → (cs.getD j C0).l.length ≤ 1048576) := hk
  clear hs hk
  obtain ⟨i0, hi, hz0, hz1, hz2⟩ := info_parts Tryd.infoCoin
  have hml : n ≤ maxLen := by unfold maxLen; omega
  go_enter Tryd.func6, Tryd.ntmps6
  go_wp2_with (first | (at_make; refine wpList_make_full _ rfl _ _ 27 rfl w.heap.size 49 i0 (.agg #[.int .i64 0, .int .i64 0, .int .i64 0, .slice none 0 0, .int .i64 0, .int .i64 0, .int .i64 0, .bool false]) 8 Tryd.underlying27 hi hz0 hz1 _ _ _ _ n rfl rfl (by omega) (by omega) (by rw [hz2]; omega) hml (Nat.le_refl _) ?_; intro w1 ho1 hg1))
  have hb1 : Below w.heap.size w w1 := (Below.refl _ _).grown hg1 (Nat.le_refl _) (fun k h => by cases h)
  have hB1 : w.heap.size < w1.heap.size := (ho1.lt _ rfl).2
  go_loopw [4] (fun i wr => ∃ k : Nat, k ≤ n ∧ i = .int .i64 k ∧ Below w.heap.size w wr ∧ w.heap.size < wr.heap.size ∧ Hid (RowC wr w.heap.size n k cs)) (fun i _ => n - (intOf i).toNat)
  case atStart => exact ⟨0, Nat.zero_le _, rfl, hb1, hB1, _, ho1, fun j hj => by omega⟩
  case round =>
    obtain ⟨k, hk, rfl, hbel, hBw, HX⟩ := hrel
    clear ho1 hg1 hb1 hB1
    by_cases hlt : k < n
    · rcases HSS.out.2 with h0 | ⟨b, off, ha, hb, hc⟩
      · omega
      subst ha
      obtain ⟨o, ho⟩ : ∃ o, o = cs.getD k C0 := ⟨_, rfl⟩
      obtain ⟨ka, kc, c0, c4, c5⟩ := hc k hlt
      have c6 := HKL.out k hlt
      rw [← ho] at c0 c4 c5 c6
      obtain ⟨op, oq, ov, ol, ox, oy, oh, om⟩ := o
      have HS : Hid ((⟨op, oq, ov, ol, ox, oy, oh, om⟩ : Co) = cs.getD k C0) := ho
      obtain ⟨x0, x1, x2, x3, x4, x5, x6, x7⟩ := c0.below hbel hb
      simp only at x0 x1 x2 x3 x4 x5 x6 x7
      have hto := toCoin_any op oq ov ka ol.length kc ol ox oy oh om wr c6 (c5.below hbel (Nat.le_refl _))
      have HC4 : Hid (ol.length ≤ maxLen) := c4
      clear hc ho c0 c4 c5 c6
      go_wp2_with (first | (go_at_call 13; refine hto.mono ?_; clear hto; rintro e w2 ⟨g, c, rfl, hk2, hb2⟩; obtain ⟨u0, u1, u2, u3, u4, u5, u6, u7, ⟨y0, y1, y2, y3, y4, y5, y6, y7⟩, ⟨f0, f1, f2, f3, f4, f5, f6, f7⟩, HX2⟩ := toC_round HS.out hlt HX.out hb2 hk2 hBw HC4.out; have HB2 : Hid (Below w.heap.size w w2) := hbel.trans (hb2.mono hbel.size); have hBw2 := Nat.lt_of_lt_of_le hBw hb2.size; clear hk2 hb2))
      go_roundw
      case rel => exact ⟨k + 1, by omega, by go_num, ((((((((HB2.out.setCell (Nat.le_refl _) _).setCell (Nat.le_refl _) _).setCell (Nat.le_refl _) _).setCell (Nat.le_refl _) _).setCell (Nat.le_refl _) _).setCell (Nat.le_refl _) _).setCell (Nat.le_refl _) _).setCell (Nat.le_refl _) _), by simpa using hBw2, HX2⟩
      case measure => simp [intOf]; omega
    · obtain rfl : k = n := by omega
      go_wp2
      go_ret
      exact ⟨_, _, rfl, HX.out.at HN.out, Nat.le_refl _, hml, hbel⟩

theorem blocks2 (w : World) (o o' : Obj) : ((w.alloc o).alloc o').heap[w.heap.size]? = some o ∧ ((w.alloc o).alloc o').heap[w.heap.size + 1]? = some o' ∧ ((w.alloc o).alloc o').heap.size = w.heap.size + 1 + 1 := by
  refine ⟨block_at2, ?_, by simp⟩
  rw [show w.heap.size + 1 = (w.alloc o).heap.size by simp]
  exact heap_alloc_new _ _

set_option maxHeartbeats 1000000 in
theorem eqCoin_any (p q v : Int) (a b : Option Addr) (n c1 c2 : Nat) (l : List Int) (x y h : Int) (m : Bool) (w : World) (hl : n ≤ 1048576) (ha : IAt w a n l) (hb : IAt w b n l) :
    Calls Tryd.prog 16 #[.agg #[.int .i64 p, .int .i64 q, .int .i64 v, .slice a n c1, .int .i64 x, .int .i64 y, .int .i64 h, .bool m], .agg #[.int .i64 p, .int .i64 q, .int .i64 v, .slice b n c2, .int .i64 x, .int .i64 y, .int .i64 h, .bool m]] w fun e w' => e = .returned (.bool true) ∧ Below w.heap.size w w' := by
  obtain ⟨t0, t1, t2⟩ := blocks2 w (.cells #[.int .i64 p, .int .i64 q, .int .i64 v, .slice a n c1, .int .i64 x, .int .i64 y, .int .i64 h, .bool m] 49) (.cells #[.int .i64 p, .int .i64 q, .int .i64 v, .slice b n c2, .int .i64 x, .int .i64 y, .int .i64 h, .bool m] 49)
  have HBX : Hid (Below w.heap.size w ((w.alloc (.cells #[.int .i64 p, .int .i64 q, .int .i64 v, .slice a n c1, .int .i64 x, .int .i64 y, .int .i64 h, .bool m] 49)).alloc (.cells #[.int .i64 p, .int .i64 q, .int .i64 v, .slice b n c2, .int .i64 x, .int .i64 y, .int .i64 h, .bool m] 49))) := below_box2 _ _
  have T0 : Hid (((w.alloc (.cells #[.int .i64 p, .int .i64 q, .int .i64 v, .slice a n c1, .int .i64 x, .int .i64 y, .int .i64 h, .bool m] 49)).alloc (.cells #[.int .i64 p, .int .i64 q, .int .i64 v, .slice b n c2, .int .i64 x, .int .i64 y, .int .i64 h, .bool m] 49)).heap[w.heap.size]? = some (.cells #[.int .i64 p, .int .i64 q, .int .i64 v, .slice a n c1, .int .i64 x, .int .i64 y, .int .i64 h, .bool m] 49 (0, 0))) := t0
  have T1 : Hid (((w.alloc (.cells #[.int .i64 p, .int .i64 q, .int .i64 v, .slice a n c1, .int .i64 x, .int .i64 y, .int .i64 h, .bool m] 49)).alloc (.cells #[.int .i64 p, .int .i64 q, .int .i64 v, .slice b n c2, .int .i64 x, .int .i64 y, .int .i64 h, .bool m] 49)).heap[w.heap.size + 1]? = some (.cells #[.int .i64 p, .int .i64 q, .int .i64 v, .slice b n c2, .int .i64 x, .int .i64 y, .int .i64 h, .bool m] 49 (0, 0))) := t1
  have hR := eqRef_any p q ((w.alloc (.cells #[.int .i64 p, .int .i64 q, .int .i64 v, .slice a n c1, .int .i64 x, .int .i64 y, .int .i64 h, .bool m] 49)).alloc (.cells #[.int .i64 p, .int .i64 q, .int .i64 v, .slice b n c2, .int .i64 x, .int .i64 y, .int .i64 h, .bool m] 49))
  have HA : Hid (IAt w a n l) := ha
  have HB : Hid (IAt w b n l) := hb
  have em : (m != m) = false := by simp
  clear t0 t1 t2 ha hb
  go_enter Tryd.func16, Tryd.ntmps16
  go_wp2_with (first
    | (go_at_call 32; refine hR.mono ?_; clear hR; rintro e w2 ⟨rfl, hb2⟩; have HBW : Hid (Below w.heap.size w w2) := HBX.out.trans (hb2.mono (by simp; omega)); have U0 := keepb T0.out hb2; have U1 := keepb T1.out hb2; obtain ⟨⟨s0, s1, s2, s3, s4, s5, s6, s7⟩, _⟩ := cells8 U0.out; obtain ⟨⟨z0, z1, z2, z3, z4, z5, z6, z7⟩, _⟩ := cells8 U1.out; clear hb2; have hO := eqOut_any v a b n c1 c2 l x y w2 hl (HA.out.below HBW.out (Nat.le_refl _)) (HB.out.below HBW.out (Nat.le_refl _)))
    | (go_at_call 33; refine hO.mono ?_; clear hO; rintro e w3 ⟨rfl, hb3⟩; have HBV : Hid (Below w.heap.size w w3) := HBW.out.trans (hb3.mono HBW.out.size); clear s0 s1 s2 s3 s4 s5 s6 s7 z0 z1 z2 z3 z4 z5 z6 z7; have V0 := keepb U0.out hb3; have V1 := keepb U1.out hb3; obtain ⟨⟨s0, s1, s2, s3, s4, s5, s6, s7⟩, _⟩ := cells8 V0.out; obtain ⟨⟨z0, z1, z2, z3, z4, z5, z6, z7⟩, _⟩ := cells8 V1.out; clear hb3))
  go_ret
  exact ⟨rfl, HBV.out⟩

set_option maxHeartbeats 4000000 in
theorem eqCs_any (a b : Option Addr) (n c1 c2 : Nat) (cs : List Co) (w : World) (hl : n ≤ 1048576) (hk : ∀ j, j < n → (cs.getD j C0).l.length ≤ 1048576) (ha : CAt w a n cs) (hb : CAt w b n cs) :
    Calls Tryd.prog 9 #[.slice a n c1, .slice b n c2] w fun e w' => e = .returned (.bool true) ∧ Below w.heap.size w w' := by
  have HA : Hid (CAt w a n cs) := ha
  have HB : Hid (CAt w b n cs) := hb
  have HKL : Hid (∀ j, j < n → (cs.getD j C0).l.length ≤ 1048576) := hk
  clear ha hb hk
  go_enter Tryd.func9, Tryd.ntmps9
  go_wp2
  go_loopw [5] (fun i wr => ∃ k : Nat, k ≤ n ∧ i = .int .i64 k ∧ Below w.heap.size w wr) (fun i _ => n - (intOf i).toNat)
  case atStart => exact ⟨0, Nat.zero_le _, rfl, Below.refl _ _⟩
  case round =>
    obtain ⟨k, hk, rfl, hbel⟩ := hrel
    by_cases hlt : k < n
    · rcases HA.out.2 with h0 | ⟨b0, o0, e0, l0, d0⟩
      · omega
      subst e0
      rcases HB.out.2 with h0 | ⟨b1, o1, e1, l1, d1⟩
      · omega
      subst e1
      obtain ⟨o, ho⟩ : ∃ o, o = cs.getD k C0 := ⟨_, rfl⟩
      obtain ⟨ka, kc, p0, p4, p5⟩ := d0 k hlt
      obtain ⟨ja, jc, q0, q4, q5⟩ := d1 k hlt
      have hol := HKL.out k hlt
      rw [← ho] at p0 p5 q0 q5 hol
      obtain ⟨op, oq, ov, ol, ox, oy, oh, om⟩ := o
      obtain ⟨x0, x1, x2, x3, x4, x5, x6, x7⟩ := p0.below hbel l0
      obtain ⟨y0, y1, y2, y3, y4, y5, y6, y7⟩ := q0.below hbel l1
      simp only at x0 x1 x2 x3 x4 x5 x6 x7 y0 y1 y2 y3 y4 y5 y6 y7 hol p5 q5
      have hki : (k : Int) < (n : Int) := by omega
      have hw0 : b0 < wr.heap.size := Nat.lt_of_lt_of_le l0 hbel.size
      have hw1 : b1 < wr.heap.size := Nat.lt_of_lt_of_le l1 hbel.size
      have hcall : Calls Tryd.prog 16 #[.agg #[.int .i64 op, .int .i64 oq, .int .i64 ov, .slice ka ol.length kc, .int .i64 ox, .int .i64 oy, .int .i64 oh, .bool om], .agg #[.int .i64 op, .int .i64 oq, .int .i64 ov, .slice ja ol.length jc, .int .i64 ox, .int .i64 oy, .int .i64 oh, .bool om]] wr.drew fun e w' => e = .returned (.bool true) ∧ Below wr.heap.size wr w' :=
        (eqCoin_any op oq ov ka ja ol.length kc jc ol ox oy oh om _ hol ((p5.below hbel (Nat.le_refl _)).below (Below.refl _ _).drew (Nat.le_refl _)) ((q5.below hbel (Nat.le_refl _)).below (Below.refl _ _).drew (Nat.le_refl _))).mono fun e w' h => ⟨h.1, (Below.refl _ _).drew.trans h.2⟩
      clear ho d0 d1 p0 p4 p5 q0 q4 q5 hol
      go_wp2
      go_region_held3 (fun w' => (w'.cell? ⟨b0, o0 + k * 8, none⟩ = some (.int .i64 op) ∧ w'.cell? ⟨b0, o0 + k * 8 + 1, none⟩ = some (.int .i64 oq) ∧ w'.cell? ⟨b0, o0 + k * 8 + 2, none⟩ = some (.int .i64 ov) ∧ w'.cell? ⟨b0, o0 + k * 8 + 3, none⟩ = some (.slice ka ol.length kc) ∧ w'.cell? ⟨b0, o0 + k * 8 + 4, none⟩ = some (.int .i64 ox) ∧ w'.cell? ⟨b0, o0 + k * 8 + 5, none⟩ = some (.int .i64 oy) ∧ w'.cell? ⟨b0, o0 + k * 8 + 6, none⟩ = some (.int .i64 oh) ∧ w'.cell? ⟨b0, o0 + k * 8 + 7, none⟩ = some (.bool om)) ∧ w'.cell? ⟨b1, o1 + k * 8, none⟩ = some (.int .i64 op) ∧ w'.cell? ⟨b1, o1 + k * 8 + 1, none⟩ = some (.int .i64 oq) ∧ w'.cell? ⟨b1, o1 + k * 8 + 2, none⟩ = some (.int .i64 ov) ∧ w'.cell? ⟨b1, o1 + k * 8 + 3, none⟩ = some (.slice ja ol.length jc) ∧ w'.cell? ⟨b1, o1 + k * 8 + 4, none⟩ = some (.int .i64 ox) ∧ w'.cell? ⟨b1, o1 + k * 8 + 5, none⟩ = some (.int .i64 oy) ∧ w'.cell? ⟨b1, o1 + k * 8 + 6, none⟩ = some (.int .i64 oh) ∧ w'.cell? ⟨b1, o1 + k * 8 + 7, none⟩ = some (.bool om)) (go_keep)
        (first | (go_at_call 16; refine hcall.mono ?_; rintro e w3 ⟨rfl, hb3⟩; have z0 := (hb3.cell (p := ⟨b0, o0 + k * 8, none⟩) hw0).trans x0; have z1 := (hb3.cell (p := ⟨b0, o0 + k * 8 + 1, none⟩) hw0).trans x1; have z2 := (hb3.cell (p := ⟨b0, o0 + k * 8 + 2, none⟩) hw0).trans x2; have z3 := (hb3.cell (p := ⟨b0, o0 + k * 8 + 3, none⟩) hw0).trans x3; have z4 := (hb3.cell (p := ⟨b0, o0 + k * 8 + 4, none⟩) hw0).trans x4; have z5 := (hb3.cell (p := ⟨b0, o0 + k * 8 + 5, none⟩) hw0).trans x5; have z6 := (hb3.cell (p := ⟨b0, o0 + k * 8 + 6, none⟩) hw0).trans x6; have z7 := (hb3.cell (p := ⟨b0, o0 + k * 8 + 7, none⟩) hw0).trans x7; have v0 := (hb3.cell (p := ⟨b1, o1 + k * 8, none⟩) hw1).trans y0; have v1 := (hb3.cell (p := ⟨b1, o1 + k * 8 + 1, none⟩) hw1).trans y1; have v2 := (hb3.cell (p := ⟨b1, o1 + k * 8 + 2, none⟩) hw1).trans y2; have v3 := (hb3.cell (p := ⟨b1, o1 + k * 8 + 3, none⟩) hw1).trans y3; have v4 := (hb3.cell (p := ⟨b1, o1 + k * 8 + 4, none⟩) hw1).trans y4; have v5 := (hb3.cell (p := ⟨b1, o1 + k * 8 + 5, none⟩) hw1).trans y5; have v6 := (hb3.cell (p := ⟨b1, o1 + k * 8 + 6, none⟩) hw1).trans y6; have v7 := (hb3.cell (p := ⟨b1, o1 + k * 8 + 7, none⟩) hw1).trans y7))
      go_wp2
      go_roundw
      case rel => exact ⟨k + 1, by omega, by go_num, hbel.trans (hb3.mono hbel.size)⟩
      case measure => simp [intOf]; omega
    · go_wp2
      go_ret
      exact ⟨rfl, hbel⟩

end Go.Proofs.YtobmongmmnldpaaDoor
