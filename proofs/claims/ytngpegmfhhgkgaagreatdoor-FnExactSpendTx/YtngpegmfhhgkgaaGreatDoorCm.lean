/- Coins of the call's own: their row and their keys' rows; marks are written into them, and read back. -/
import Derived.Test.YtngpegmfhhgkgaaGreatDoorCnB
import Derived.Test.YtngpegmfhhgkgaaGreatDoorMk
import Derived.OneCell
namespace Go.Proofs.YtngpegmfhhgkgaaGreatDoor
open Go.RowKit Go.Maps Go.WideMaps

set_option maxHeartbeats 400000 in
theorem markK_any (v : Value) (n base k : Nat) (xs : List Value) (w : World) (hkn : k + n ≤ 4611686018427387904) (ho : w.ownsRow base 2 1 v n xs) :
    Calls Tryz.prog 33 #[v, .int .i64 k] w fun e w' => e = .returned (.int .i64 (k + n : Nat)) ∧ w'.ownsRow base 2 1 v n (mkI k n) ∧ w.grownBy w' v.ownBlock := by
  rcases id ho.2 with ⟨rfl, rfl⟩ | ⟨g, cap, cur, rfl, hbg, hgg, hnc, hcm, _⟩
  · go_enter Tryz.func33, Tryz.ntmps33
    go_wp2
    refine wp_loop_rounds 1 ?_
    rw [rounds_succ]
    go_wp2
    go_ret
    exact ⟨rfl, World.ownsRow_nil _ _ _ _, World.grownBy.refl _ _⟩
  · have HO : Hid (w.ownsRow base 2 1 (.slice (some ⟨g, 0, none⟩) n cap) n xs) := ho
    clear ho hbg hgg hnc hcm
    go_enter Tryz.func33, Tryz.ntmps33
    go_wp2
    go_loopw [1, 5] (fun a i wr => ∃ j : Nat, j ≤ n ∧ i = .int .i64 j ∧ a = .int .i64 (k + j : Nat) ∧ Hid (w.grownBy wr (some g)) ∧ Hid (∃ xs, wr.ownsRow base 2 1 (.slice (some ⟨g, 0, none⟩) n cap) n xs ∧ ∀ t, t < j → xs[t]? = some (.int .i64 (k + t : Nat)))) (fun _ i _ => n - (intOf i).toNat)
    case atStart => exact ⟨0, Nat.zero_le _, rfl, rfl, World.grownBy.refl _ _, xs, HO.out, fun t ht => by omega⟩
    case round =>
      obtain ⟨j, hj, rfl, rfl, HG, HX⟩ := hrel
      by_cases hlt : j < n
      · obtain ⟨u, c0, f0, HR⟩ := markI_round hlt HG.out HX.out (a := (k : Int) + (j : Int)) (by omega)
        go_wp2
        go_roundw
        case rel => exact ⟨j + 1, by omega, by go_num, by go_num, HR.out.1, HR.out.2⟩
        case measure => simp [intOf]; omega
      · go_wp2
        go_ret
        obtain ⟨ys, h1, h2⟩ := HX.out
        have hjn : j = n := by omega
        subst hjn
        refine ⟨rfl, ?_, HG.out⟩
        rw [← mkI_of h1.1 h2]
        exact h1

set_option maxHeartbeats 400000 in
theorem heldK_any (v : Value) (n base k : Nat) (w : World) (hkn : k + n ≤ 4611686018427387904) (ho : w.ownsRow base 2 1 v n (mkI k n)) :
    Calls Tryz.prog 62 #[v, .int .i64 k] w fun e w' => e = .returned (.int .i64 (k + n : Nat)) ∧ w' = w := by
  rcases id ho.2 with ⟨rfl, rfl⟩ | ⟨g, cap, cur, rfl, hbg, hgg, hnc, hcm, _⟩
  · go_enter Tryz.func62, Tryz.ntmps62
    go_wp2
    refine wp_loop_rounds 1 ?_
    rw [rounds_succ]
    go_wp2
    go_ret
    exact ⟨rfl, rfl⟩
  · have HO : Hid (w.ownsRow base 2 1 (.slice (some ⟨g, 0, none⟩) n cap) n (mkI k n)) := ho
    clear ho hbg hgg hnc hcm
    go_enter Tryz.func62, Tryz.ntmps62
    go_wp2
    go_loop [1, 5] (fun a i => ∃ j : Nat, j ≤ n ∧ i = .int .i64 j ∧ a = .int .i64 (k + j : Nat)) (fun _ i => n - (intOf i).toNat)
    case atStart => exact ⟨0, Nat.zero_le _, rfl, rfl⟩
    case round =>
      obtain ⟨j, hj, rfl, rfl⟩ := hrel
      by_cases hlt : j < n
      · have c0 : w.cell? ⟨g, j, none⟩ = some (.int .i64 ((k : Int) + (j : Int))) := (HO.out.cellAt j (by omega)).trans (by rw [mkI_at hlt]; simp)
        go_wp2
        go_round
        case rel => exact ⟨j + 1, by omega, by go_num, by go_num⟩
        case measure => simp [intOf]; omega
      · go_wp2
        go_ret
        have hjn : j = n := by omega
        subst hjn
        exact ⟨rfl, rfl⟩

theorem Chg.refl (w : World) (lo hi : Nat) : Chg w w lo hi := ⟨rfl, rfl, rfl, Nat.le_refl _, fun _ _ _ => rfl⟩
theorem Chg.setCell {w W : World} {lo hi g t : Nat} (h : Chg w W lo hi) (hg : lo ≤ g ∧ g < hi) (u : Value) : Chg w (W.setCell ⟨g, t, none⟩ u) lo hi :=
  ⟨h.os, h.tape, h.output, by simpa using h.size, fun b hb ho => (Below.heap_setCell _ ⟨g, t, none⟩ u b (show b ≠ g by omega)).trans (h.block b hb ho)⟩

/-- The eight cells of a coin in a row. -/
def CellsC (xs : List Value) (j : Nat) (c : Co) (u : Value) : Prop :=
  xs[j * 8]? = some (.int .i64 c.p) ∧ xs[j * 8 + 1]? = some (.int .i64 c.q) ∧ xs[j * 8 + 2]? = some (.int .i64 c.v) ∧ xs[j * 8 + 3]? = some (u) ∧ xs[j * 8 + 4]? = some (.int .i64 c.x) ∧ xs[j * 8 + 5]? = some (.int .i64 c.y) ∧ xs[j * 8 + 6]? = some (.int .i64 c.h) ∧ xs[j * 8 + 7]? = some (.bool c.m)

/-- Coins whose row and whose keys' rows lie in blocks from lo on and below hi, no two in one. -/
structure COwn (w : World) (lo hi : Nat) (v : Value) (n : Nat) (f : Nat → Co) (kv : Nat → Value) : Prop where
  row : ∃ xs, w.ownsRow lo 68 8 v n xs ∧ ∀ j, j < n → CellsC xs j (f j) (kv j)
  top : ∀ b, v.ownBlock = some b → b < hi
  keys : ∀ j, j < n → w.ownsRow lo 2 1 (kv j) (f j).l.length (ints (f j).l) ∧ ∀ b, (kv j).ownBlock = some b → b < hi
  apart : ∀ i j, i < j → j < n → ∀ b, (kv i).ownBlock = some b → (kv j).ownBlock ≠ some b

theorem COwn.below {w w' : World} {lo hi n : Nat} {v : Value} {f : Nat → Co} {kv : Nat → Value} (h : COwn w lo hi v n f kv) (hb : Below w.heap.size w w') : COwn w' lo hi v n f kv := by
  obtain ⟨xs, h1, h2⟩ := h.row
  exact ⟨⟨xs, h1.kept (grown_of_below hb) (by cases Value.ownBlock v <;> simp), h2⟩, h.top, fun j hj => ⟨(h.keys j hj).1.kept (grown_of_below hb) (by cases Value.ownBlock (kv j) <;> simp), (h.keys j hj).2⟩, h.apart⟩
theorem COwn.chg {w w' : World} {lo hi n lo' hi' : Nat} {v : Value} {f : Nat → Co} {kv : Nat → Value} (h : COwn w lo hi v n f kv) (hc : Chg w w' lo' hi') (hd : hi ≤ lo' ∨ hi' ≤ lo) : COwn w' lo hi v n f kv := by
  obtain ⟨xs, h1, h2⟩ := h.row
  refine ⟨⟨xs, hc.row h1 fun k hk => ?_, h2⟩, h.top, fun j hj => ⟨hc.row (h.keys j hj).1 fun k hk => ?_, (h.keys j hj).2⟩, h.apart⟩
  · have a := h.top k hk
    have b := (h1.lt k hk).1
    omega
  · have a := (h.keys j hj).2 k hk
    have b := ((h.keys j hj).1.lt k hk).1
    omega
theorem COwn.mono {w : World} {lo hi hi' n : Nat} {v : Value} {f : Nat → Co} {kv : Nat → Value} (h : COwn w lo hi v n f kv) (hh : hi ≤ hi') : COwn w lo hi' v n f kv :=
  ⟨h.row, fun b hb => Nat.lt_of_lt_of_le (h.top b hb) hh, fun j hj => ⟨(h.keys j hj).1, fun b hb => Nat.lt_of_lt_of_le ((h.keys j hj).2 b hb) hh⟩, h.apart⟩

/-- The row's own block is no block of keys. -/
theorem COwn.far {w : World} {lo hi n g cap : Nat} {f : Nat → Co} {kv : Nat → Value} (h : COwn w lo hi (.slice (some ⟨g, 0, none⟩) n cap) n f kv) {j : Nat} (hj : j < n) {b : Nat} (hb : (kv j).ownBlock = some b) : g ≠ b := by
  obtain ⟨xs, h1, _⟩ := h.row
  exact fun e => rows_apart (by decide) h1 (h.keys j hj).1 g rfl (by rw [hb, e])

theorem COwn.cells {w : World} {lo hi n g cap : Nat} {f : Nat → Co} {kv : Nat → Value} (h : COwn w lo hi (.slice (some ⟨g, 0, none⟩) n cap) n f kv) {j : Nat} (hj : j < n) {c : Co} (hc : f j = c) {u : Value} (hu : kv j = u) :
    (w.cell? ⟨g, j * 8, none⟩ = some (.int .i64 c.p) ∧ w.cell? ⟨g, j * 8 + 1, none⟩ = some (.int .i64 c.q) ∧ w.cell? ⟨g, j * 8 + 2, none⟩ = some (.int .i64 c.v) ∧ w.cell? ⟨g, j * 8 + 3, none⟩ = some (u) ∧ w.cell? ⟨g, j * 8 + 4, none⟩ = some (.int .i64 c.x) ∧ w.cell? ⟨g, j * 8 + 5, none⟩ = some (.int .i64 c.y) ∧ w.cell? ⟨g, j * 8 + 6, none⟩ = some (.int .i64 c.h) ∧ w.cell? ⟨g, j * 8 + 7, none⟩ = some (.bool c.m)) ∧ (w.frozen? ⟨g, j * 8, none⟩ = false ∧ w.frozen? ⟨g, j * 8 + 1, none⟩ = false ∧ w.frozen? ⟨g, j * 8 + 2, none⟩ = false ∧ w.frozen? ⟨g, j * 8 + 3, none⟩ = false ∧ w.frozen? ⟨g, j * 8 + 4, none⟩ = false ∧ w.frozen? ⟨g, j * 8 + 5, none⟩ = false ∧ w.frozen? ⟨g, j * 8 + 6, none⟩ = false ∧ w.frozen? ⟨g, j * 8 + 7, none⟩ = false) := by
  obtain ⟨xs, h1, h2⟩ := h.row
  have h3 := h2 j hj
  rw [hc, hu] at h3
  obtain ⟨a0, a1, a2, a3, a4, a5, a6, a7⟩ := h3
  have hl := h1.1
  exact ⟨⟨(h1.cellAt (j * 8) (by omega)).trans a0, (h1.cellAt (j * 8 + 1) (by omega)).trans a1, (h1.cellAt (j * 8 + 2) (by omega)).trans a2, (h1.cellAt (j * 8 + 3) (by omega)).trans a3, (h1.cellAt (j * 8 + 4) (by omega)).trans a4, (h1.cellAt (j * 8 + 5) (by omega)).trans a5, (h1.cellAt (j * 8 + 6) (by omega)).trans a6, (h1.cellAt (j * 8 + 7) (by omega)).trans a7⟩, h1.frozenAt _, h1.frozenAt _, h1.frozenAt _, h1.frozenAt _, h1.frozenAt _, h1.frozenAt _, h1.frozenAt _, h1.frozenAt _⟩

def mkKs (k n : Nat) : List Int := (List.range n).map fun t => ((k + t : Nat) : Int)
theorem ints_mkKs (k n : Nat) : ints (mkKs k n) = mkI k n := by simp [ints, mkKs, mkI]
theorem mkKs_length (k n : Nat) : (mkKs k n).length = n := by simp [mkKs]
def mkB (z : Nat) : Bool := decide (z % 3 = 0)
theorem remB (z : Int) (m : Nat) (h : z = (m : Nat)) : (z % 3 == 0) = mkB m := by
  subst h
  unfold mkB
  by_cases e : m % 3 = 0
  · rw [decide_eq_true e]; simp; omega
  · rw [decide_eq_false e]; simp; omega
def mkC (k : Nat) (c : Co) : Co := ⟨(k : Nat), (k + 1 : Nat), (k + 2 : Nat), mkKs (k + 3) c.l.length, (k + 3 + c.l.length : Nat), (k + 4 + c.l.length : Nat), (k + 5 + c.l.length : Nat), mkB (k + 6 + c.l.length)⟩
def kAt (k : Nat) (f : Nat → Co) : Nat → Nat
  | 0 => k
  | j + 1 => kAt k f j + 7 + (f j).l.length
def mkF (k : Nat) (f : Nat → Co) (i : Nat) : Co := mkC (kAt k f i) (f i)
def mkT2 (k : Nat) (f : Nat → Co) (j i : Nat) : Co := if i < j then mkF k f i else f i
theorem kAt_le {k : Nat} {f : Nat → Co} {n : Nat} (hl : ∀ j, j < n → (f j).l.length ≤ 1048576) : ∀ j, j ≤ n → kAt k f j ≤ k + j * 1048583 := by
  intro j
  induction j with
  | zero => intro _; simp [kAt]
  | succ j ih =>
    intro hj
    have h1 := ih (by omega)
    have h2 := hl j (by omega)
    simp only [kAt]
    omega

/-- In the midst of a coin's marks: three numbers and the keys are written. -/
def MarkMid (wr w4 : World) (lo g _n _cap j : Nat) (kv : Nat → Value) (u0 u1 u2 : Int) (K len : Nat) : Prop :=
  w4.ownsRow lo 2 1 (kv j) len (mkI (K + 3) len) ∧ (((wr.setCell ⟨g, j * 8, none⟩ (.int .i64 u0)).setCell ⟨g, j * 8 + 1, none⟩ (.int .i64 u1)).setCell ⟨g, j * 8 + 2, none⟩ (.int .i64 u2)).grownBy w4 (kv j).ownBlock

theorem mark_mid {wr : World} {lo hi g n cap j : Nat} {f : Nat → Co} {kv : Nat → Value} {c : Co} (h : COwn wr lo hi (.slice (some ⟨g, 0, none⟩) n cap) n f kv) (hj : j < n) (hc : f j = c) (K : Nat) (hK : K + 3 + c.l.length ≤ 4611686018427387904) (u0 u1 u2 z : Int) (hz : z = (K + 3 : Nat)) :
    Calls Tryz.prog 33 #[kv j, .int .i64 z] (((wr.setCell ⟨g, j * 8, none⟩ (.int .i64 u0)).setCell ⟨g, j * 8 + 1, none⟩ (.int .i64 u1)).setCell ⟨g, j * 8 + 2, none⟩ (.int .i64 u2)) fun e w' => e = .returned (.int .i64 (K + 3 + c.l.length : Nat)) ∧ Hid (MarkMid wr w' lo g n cap j kv u0 u1 u2 K c.l.length) := by
  subst hz
  have h1 := (h.keys j hj).1
  rw [hc] at h1
  have hb : ∀ b, (kv j).ownBlock = some b → g ≠ b := fun b hb => h.far hj hb
  have set : ∀ (W : World) (i : Nat) (u : Value), W.ownsRow lo 2 1 (kv j) c.l.length (ints c.l) → (W.setCell ⟨g, i, none⟩ u).ownsRow lo 2 1 (kv j) c.l.length (ints c.l) := fun W i u hW => ownsRow_setCell_other hW (a := ⟨g, i, none⟩) (fun e => hb g e rfl) u
  exact (markK_any (kv j) c.l.length lo (K + 3) (ints c.l) _ hK (set _ _ _ (set _ _ _ (set _ _ _ h1)))).mono fun e w' ⟨h1, h2, h3⟩ => ⟨h1, h2, h3⟩

theorem mid_cells {wr w4 : World} {lo hi g n cap j : Nat} {f : Nat → Co} {kv : Nat → Value} {c : Co} {u0 u1 u2 : Int} {K : Nat} (h : COwn wr lo hi (.slice (some ⟨g, 0, none⟩) n cap) n f kv) (hj : j < n) (hc : f j = c) (hm : MarkMid wr w4 lo g n cap j kv u0 u1 u2 K c.l.length) :
    (w4.cell? ⟨g, j * 8 + 4, none⟩ = some (.int .i64 c.x) ∧ w4.cell? ⟨g, j * 8 + 5, none⟩ = some (.int .i64 c.y) ∧ w4.cell? ⟨g, j * 8 + 6, none⟩ = some (.int .i64 c.h) ∧ w4.cell? ⟨g, j * 8 + 7, none⟩ = some (.bool c.m)) ∧ (w4.frozen? ⟨g, j * 8 + 4, none⟩ = false ∧ w4.frozen? ⟨g, j * 8 + 5, none⟩ = false ∧ w4.frozen? ⟨g, j * 8 + 6, none⟩ = false ∧ w4.frozen? ⟨g, j * 8 + 7, none⟩ = false) ∧ ∃ ys, Hid (w4.ownsRow lo 68 8 (.slice (some ⟨g, 0, none⟩) n cap) n ys ∧ ∀ i, i < n → CellsC ys i (if i = j then ⟨u0, u1, u2, c.l, c.x, c.y, c.h, c.m⟩ else f i) (kv i)) := by
  obtain ⟨xs, h1, h2⟩ := h.row
  have hg : (Value.slice (some ⟨g, 0, none⟩) n cap).ownBlock = some g := rfl
  have r1 := (h1.stored (j * 8) (.int .i64 u0)).1
  have r2 := (r1.stored (j * 8 + 1) (.int .i64 u1)).1
  have r3 := (r2.stored (j * 8 + 2) (.int .i64 u2)).1
  have r4 := r3.kept (w' := w4) hm.2 (.inr (by
    rw [hg]
    intro e
    exact h.far hj e.symm rfl))
  have hl := h1.1
  have h3 := h2 j hj
  rw [hc] at h3
  obtain ⟨a0, a1, a2, a3, a4, a5, a6, a7⟩ := h3
  refine ⟨⟨?_, ?_, ?_, ?_⟩, ⟨r4.frozenAt _, r4.frozenAt _, r4.frozenAt _, r4.frozenAt _⟩, _, r4, fun i hi => ?_⟩
  · rw [r4.cellAt (j * 8 + 4) (by omega), List.getElem?_set_ne (by omega), List.getElem?_set_ne (by omega), List.getElem?_set_ne (by omega)]; exact a4
  · rw [r4.cellAt (j * 8 + 5) (by omega), List.getElem?_set_ne (by omega), List.getElem?_set_ne (by omega), List.getElem?_set_ne (by omega)]; exact a5
  · rw [r4.cellAt (j * 8 + 6) (by omega), List.getElem?_set_ne (by omega), List.getElem?_set_ne (by omega), List.getElem?_set_ne (by omega)]; exact a6
  · rw [r4.cellAt (j * 8 + 7) (by omega), List.getElem?_set_ne (by omega), List.getElem?_set_ne (by omega), List.getElem?_set_ne (by omega)]; exact a7
  · by_cases e : i = j
    · subst e
      rw [if_pos rfl]
      refine ⟨?_, ?_, ?_, ?_, ?_, ?_, ?_, ?_⟩
      · rw [List.getElem?_set_ne (by omega), List.getElem?_set_ne (by omega), List.getElem?_set_self (by omega)]
      · rw [List.getElem?_set_ne (by omega), List.getElem?_set_self (by simp; omega)]
      · rw [List.getElem?_set_self (by simp; omega)]
      · rw [List.getElem?_set_ne (by omega), List.getElem?_set_ne (by omega), List.getElem?_set_ne (by omega)]; exact a3
      · rw [List.getElem?_set_ne (by omega), List.getElem?_set_ne (by omega), List.getElem?_set_ne (by omega)]; exact a4
      · rw [List.getElem?_set_ne (by omega), List.getElem?_set_ne (by omega), List.getElem?_set_ne (by omega)]; exact a5
      · rw [List.getElem?_set_ne (by omega), List.getElem?_set_ne (by omega), List.getElem?_set_ne (by omega)]; exact a6
      · rw [List.getElem?_set_ne (by omega), List.getElem?_set_ne (by omega), List.getElem?_set_ne (by omega)]; exact a7
    · rw [if_neg e]
      obtain ⟨b0, b1, b2, b3, b4, b5, b6, b7⟩ := h2 i hi
      refine ⟨?_, ?_, ?_, ?_, ?_, ?_, ?_, ?_⟩
      · rw [List.getElem?_set_ne (by omega), List.getElem?_set_ne (by omega), List.getElem?_set_ne (by omega)]; exact b0
      · rw [List.getElem?_set_ne (by omega), List.getElem?_set_ne (by omega), List.getElem?_set_ne (by omega)]; exact b1
      · rw [List.getElem?_set_ne (by omega), List.getElem?_set_ne (by omega), List.getElem?_set_ne (by omega)]; exact b2
      · rw [List.getElem?_set_ne (by omega), List.getElem?_set_ne (by omega), List.getElem?_set_ne (by omega)]; exact b3
      · rw [List.getElem?_set_ne (by omega), List.getElem?_set_ne (by omega), List.getElem?_set_ne (by omega)]; exact b4
      · rw [List.getElem?_set_ne (by omega), List.getElem?_set_ne (by omega), List.getElem?_set_ne (by omega)]; exact b5
      · rw [List.getElem?_set_ne (by omega), List.getElem?_set_ne (by omega), List.getElem?_set_ne (by omega)]; exact b6
      · rw [List.getElem?_set_ne (by omega), List.getElem?_set_ne (by omega), List.getElem?_set_ne (by omega)]; exact b7

theorem mark_end {wr w4 : World} {lo hi g n cap j : Nat} {f : Nat → Co} {kv : Nat → Value} {k : Nat} {c : Co} {u0 u1 u2 u4 u5 u6 : Int} {u7 : Bool} {K : Nat} (h : COwn wr lo hi (.slice (some ⟨g, 0, none⟩) n cap) n (mkT2 k f j) kv) (hj : j < n) (hc : f j = c) (hK : kAt k f j = K)
    (hm : MarkMid wr w4 lo g n cap j kv u0 u1 u2 K c.l.length) (e0 : u0 = (K : Nat)) (e1 : u1 = (K + 1 : Nat)) (e2 : u2 = (K + 2 : Nat)) (e4 : u4 = (K + 3 + c.l.length : Nat)) (e5 : u5 = (K + 4 + c.l.length : Nat)) (e6 : u6 = (K + 5 + c.l.length : Nat)) (e7 : u7 = mkB (K + 6 + c.l.length)) :
    COwn ((((w4.setCell ⟨g, j * 8 + 4, none⟩ (.int .i64 u4)).setCell ⟨g, j * 8 + 5, none⟩ (.int .i64 u5)).setCell ⟨g, j * 8 + 6, none⟩ (.int .i64 u6)).setCell ⟨g, j * 8 + 7, none⟩ (.bool u7)) lo hi (.slice (some ⟨g, 0, none⟩) n cap) n (mkT2 k f (j + 1)) kv := by
  have hcj : mkT2 k f j j = c := by unfold mkT2; rw [if_neg (by omega), hc]
  obtain ⟨_, _, ys, HY⟩ := mid_cells h hj hcj hm
  obtain ⟨hrow, hcells⟩ := HY.out
  have r1 := (hrow.stored (j * 8 + 4) (.int .i64 u4)).1
  have r2 := (r1.stored (j * 8 + 5) (.int .i64 u5)).1
  have r3 := (r2.stored (j * 8 + 6) (.int .i64 u6)).1
  have r4 := (r3.stored (j * 8 + 7) (.bool u7)).1
  have hl := hrow.1
  have hnew : mkT2 k f (j + 1) j = mkC K c := by unfold mkT2 mkF; rw [if_pos (by omega), hK, hc]
  have hold : ∀ i, i ≠ j → mkT2 k f (j + 1) i = mkT2 k f j i := fun i hi => by
    unfold mkT2
    by_cases a : i < j
    · rw [if_pos a, if_pos (by omega)]
    · rw [if_neg a, if_neg (by omega)]
  have far : ∀ i, i < n → ∀ b, (kv i).ownBlock = some b → g ≠ b := fun i hi b hb => h.far hi hb
  refine ⟨⟨_, r4, fun i hi => ?_⟩, h.top, fun i hi => ?_, h.apart⟩
  · by_cases e : i = j
    · subst e
      have hx := hcells i hj
      rw [if_pos rfl] at hx
      obtain ⟨a0, a1, a2, a3, _⟩ := hx
      simp only at a0 a1 a2 a3
      rw [hnew]
      refine ⟨?_, ?_, ?_, ?_, ?_, ?_, ?_, ?_⟩
      · rw [List.getElem?_set_ne (by omega), List.getElem?_set_ne (by omega), List.getElem?_set_ne (by omega), List.getElem?_set_ne (by omega), a0, e0]; rfl
      · rw [List.getElem?_set_ne (by omega), List.getElem?_set_ne (by omega), List.getElem?_set_ne (by omega), List.getElem?_set_ne (by omega), a1, e1]; rfl
      · rw [List.getElem?_set_ne (by omega), List.getElem?_set_ne (by omega), List.getElem?_set_ne (by omega), List.getElem?_set_ne (by omega), a2, e2]; rfl
      · rw [List.getElem?_set_ne (by omega), List.getElem?_set_ne (by omega), List.getElem?_set_ne (by omega), List.getElem?_set_ne (by omega), a3]
      · rw [List.getElem?_set_ne (by omega), List.getElem?_set_ne (by omega), List.getElem?_set_ne (by omega), List.getElem?_set_self (by omega), e4]; rfl
      · rw [List.getElem?_set_ne (by omega), List.getElem?_set_ne (by omega), List.getElem?_set_self (by simp; omega), e5]; rfl
      · rw [List.getElem?_set_ne (by omega), List.getElem?_set_self (by simp; omega), e6]; rfl
      · rw [List.getElem?_set_self (by simp; omega), e7]; rfl
    · have hx := hcells i hi
      rw [if_neg e] at hx
      obtain ⟨b0, b1, b2, b3, b4, b5, b6, b7⟩ := hx
      rw [hold i e]
      refine ⟨?_, ?_, ?_, ?_, ?_, ?_, ?_, ?_⟩
      · rw [List.getElem?_set_ne (by omega), List.getElem?_set_ne (by omega), List.getElem?_set_ne (by omega), List.getElem?_set_ne (by omega)]; exact b0
      · rw [List.getElem?_set_ne (by omega), List.getElem?_set_ne (by omega), List.getElem?_set_ne (by omega), List.getElem?_set_ne (by omega)]; exact b1
      · rw [List.getElem?_set_ne (by omega), List.getElem?_set_ne (by omega), List.getElem?_set_ne (by omega), List.getElem?_set_ne (by omega)]; exact b2
      · rw [List.getElem?_set_ne (by omega), List.getElem?_set_ne (by omega), List.getElem?_set_ne (by omega), List.getElem?_set_ne (by omega)]; exact b3
      · rw [List.getElem?_set_ne (by omega), List.getElem?_set_ne (by omega), List.getElem?_set_ne (by omega), List.getElem?_set_ne (by omega)]; exact b4
      · rw [List.getElem?_set_ne (by omega), List.getElem?_set_ne (by omega), List.getElem?_set_ne (by omega), List.getElem?_set_ne (by omega)]; exact b5
      · rw [List.getElem?_set_ne (by omega), List.getElem?_set_ne (by omega), List.getElem?_set_ne (by omega), List.getElem?_set_ne (by omega)]; exact b6
      · rw [List.getElem?_set_ne (by omega), List.getElem?_set_ne (by omega), List.getElem?_set_ne (by omega), List.getElem?_set_ne (by omega)]; exact b7
  · have set : ∀ (W : World) (t : Nat) (u : Value) (m : Nat) (zs : List Value), W.ownsRow lo 2 1 (kv i) m zs → (W.setCell ⟨g, t, none⟩ u).ownsRow lo 2 1 (kv i) m zs := fun W t u m zs hW => ownsRow_setCell_other hW (a := ⟨g, t, none⟩) (fun e => far i hi g e rfl) u
    refine ⟨?_, (h.keys i hi).2⟩
    by_cases e : i = j
    · subst e
      rw [hnew]
      show World.ownsRow _ lo 2 1 (kv i) (mkKs (K + 3) c.l.length).length (ints (mkKs (K + 3) c.l.length))
      rw [mkKs_length, ints_mkKs]
      exact set _ _ _ _ _ (set _ _ _ _ _ (set _ _ _ _ _ (set _ _ _ _ _ hm.1)))
    · rw [hold i e]
      have hk := (h.keys i hi).1
      refine set _ _ _ _ _ (set _ _ _ _ _ (set _ _ _ _ _ (set _ _ _ _ _ ?_)))
      refine (set _ _ _ _ _ (set _ _ _ _ _ (set _ _ _ _ _ hk))).kept hm.2 ?_
      cases hb : (kv i).ownBlock with
      | none => exact .inl rfl
      | some b =>
        refine .inr fun e2 => ?_
        rcases Nat.lt_or_ge i j with hij | hij
        · exact h.apart i j hij hj b hb e2.symm
        · exact h.apart j i (by omega) hi b e2.symm hb

theorem mark_chg {wr w4 : World} {lo hi g n cap j : Nat} {f : Nat → Co} {kv : Nat → Value} {u0 u1 u2 u4 u5 u6 : Int} {u7 : Bool} {K len : Nat} (h : COwn wr lo hi (.slice (some ⟨g, 0, none⟩) n cap) n f kv) (hj : j < n) (hm : MarkMid wr w4 lo g n cap j kv u0 u1 u2 K len) :
    Chg wr ((((w4.setCell ⟨g, j * 8 + 4, none⟩ (.int .i64 u4)).setCell ⟨g, j * 8 + 5, none⟩ (.int .i64 u5)).setCell ⟨g, j * 8 + 6, none⟩ (.int .i64 u6)).setCell ⟨g, j * 8 + 7, none⟩ (.bool u7)) lo hi := by
  obtain ⟨xs, h1, _⟩ := h.row
  have hg1 := (h1.lt g rfl).1
  have hg2 := h.top g rfl
  have set : ∀ (W : World) (t : Nat) (u : Value), Chg wr W lo hi → Chg wr (W.setCell ⟨g, t, none⟩ u) lo hi := fun W t u hW => hW.setCell ⟨hg1, hg2⟩ u
  have h3 := set _ (j * 8 + 2) (.int .i64 u2) (set _ (j * 8 + 1) (.int .i64 u1) (set _ (j * 8) (.int .i64 u0) (Chg.refl wr lo hi)))
  have h4 : Chg wr w4 lo hi := h3.trans (Chg.of_grown hm.2 fun b hb => ⟨((h.keys j hj).1.lt b hb).1, (h.keys j hj).2 b hb⟩)
  exact set _ _ _ (set _ _ _ (set _ _ _ (set _ _ _ h4)))

set_option maxRecDepth 20000 in
set_option maxHeartbeats 4000000 in
theorem markCs_any (v : Value) (n lo hi k : Nat) (f : Nat → Co) (kv : Nat → Value) (w : World) (hn : n ≤ 1048576) (hl : ∀ j, j < n → (f j).l.length ≤ 1048576) (hk : k ≤ 1000000000000000) (h : COwn w lo hi v n f kv) :
    Calls Tryz.prog 13 #[v, .int .i64 k] w fun e w' => e = .returned (.int .i64 (kAt k f n : Nat)) ∧ COwn w' lo hi v n (mkF k f) kv ∧ Chg w w' lo hi := by
  obtain ⟨xs0, hr0, _⟩ := h.row
  rcases id hr0.2 with ⟨rfl, rfl⟩ | ⟨g, cap, cur, rfl, hbg, hgg, hnc, hcm, _⟩
  · go_enter Tryz.func13, Tryz.ntmps13
    go_wp2
    refine wp_loop_rounds 1 ?_
    rw [rounds_succ]
    go_wp2
    go_ret
    exact ⟨rfl, ⟨⟨[], World.ownsRow_nil _ _ _ _, fun j hj => by omega⟩, fun b hb => (by cases hb), fun j hj => (by omega), fun i j _ hj => (by omega)⟩, Chg.refl _ _ _⟩
  · have HO : Hid (COwn w lo hi (.slice (some ⟨g, 0, none⟩) n cap) n f kv) := h
    have HL : Hid (∀ j, j < n → (f j).l.length ≤ 1048576) := hl
    clear h hr0 hbg hgg hnc hcm hl
    go_enter Tryz.func13, Tryz.ntmps13
    go_wp2
    go_loopw [1, 5] (fun a i wr => ∃ j : Nat, j ≤ n ∧ i = .int .i64 j ∧ ∃ K : Nat, a = .int .i64 K ∧ Hid (kAt k f j = K) ∧ Hid (COwn wr lo hi (.slice (some ⟨g, 0, none⟩) n cap) n (mkT2 k f j) kv) ∧ Hid (Chg w wr lo hi)) (fun _ i _ => n - (intOf i).toNat)
    case atStart => exact ⟨0, Nat.zero_le _, rfl, k, rfl, rfl, HO.out, Chg.refl _ _ _⟩
    case round =>
      obtain ⟨j, hj, rfl, K, rfl, HK, HC, HG⟩ := hrel
      by_cases hlt : j < n
      · obtain ⟨c, hc⟩ : ∃ c, f j = c := ⟨_, rfl⟩
        have HF : Hid (f j = c) := hc
        have hcj : mkT2 k f j j = c := by unfold mkT2; rw [if_neg (by omega), hc]
        obtain ⟨u, hu⟩ : ∃ u, kv j = u := ⟨_, rfl⟩
        have HU : Hid (kv j = u) := hu
        obtain ⟨⟨x0, x1, x2, x3, x4, x5, x6, x7⟩, f0, f1, f2, f3, f4, f5, f6, f7⟩ := HC.out.cells hlt hcj hu
        have hKb : K ≤ 1000000000000000 + n * 1048583 := by have := kAt_le (k := k) HL.out j hj; rw [HK.out] at this; have h2 : j * 1048583 ≤ n * 1048583 := Nat.mul_le_mul_right _ hj; omega
        have hlc : c.l.length ≤ 1048576 := by rw [← hc]; exact HL.out j hlt
        obtain ⟨len, hlen⟩ : ∃ len, len = c.l.length := ⟨_, rfl⟩
        have HLEN : Hid (len = c.l.length) := hlen
        rw [← hlen] at hlc
        have hM := fun u0 u1 u2 z hz => mark_mid HC.out hlt hcj K (by omega) u0 u1 u2 z hz
        rw [hu, ← hlen] at hM
        have HKN : Hid (kAt k f (j + 1) = K + 7 + len) := by show kAt k f j + 7 + (f j).l.length = _; rw [HK.out, hc, hlen]
        clear hc hu hlen hcj
        have hki : (j : Int) < (n : Int) := by omega
        go_wp2_with (first
          | (go_at_call 33; refine (hM _ _ _ _ (by omega)).mono ?_; clear hM; rintro e w4 ⟨rfl, HM⟩; rw [HLEN.out] at HM; obtain ⟨⟨y4, y5, y6, y7⟩, ⟨q4, q5, q6, q7⟩, _⟩ := mid_cells HC.out hlt (show mkT2 k f j j = c by unfold mkT2; rw [if_neg (by omega)]; exact HF.out) HM.out))
        go_roundw
        case rel =>
          refine ⟨j + 1, by omega, by go_num, K + 7 + len, by go_num, HKN.out, ?_, HG.out.trans (mark_chg HC.out hlt HM.out)⟩
          refine mark_end HC.out hlt HF.out HK.out HM.out (by omega) (by omega) (by omega) (by rw [← HLEN.out]; omega) (by rw [← HLEN.out]; omega) (by rw [← HLEN.out]; omega) ?_
          rw [← HLEN.out]
          exact remB _ _ (by omega)
        case measure => simp [intOf]; omega
      · obtain rfl : j = n := by omega
        go_wp2
        go_ret
        refine ⟨by rw [HK.out]; rfl, ?_, HG.out⟩
        obtain ⟨⟨xs, r1, r2⟩, r3, r4, r5⟩ := HC.out
        exact ⟨⟨xs, r1, fun i hi => by have := r2 i hi; unfold mkT2 at this; rwa [if_pos hi] at this⟩, r3, fun i hi => by have := r4 i hi; unfold mkT2 at this; rwa [if_pos hi] at this, r5⟩

end Go.Proofs.YtngpegmfhhgkgaaGreatDoor
