/- The specification's l2Parse: a rule is read. -/
import Derived.Test.YtciefdphjkjikaaGreatDoorAj
import Derived.Test.YtciefdphjkjikaaGreatDoorGd
namespace Go.Proofs.YtciefdphjkjikaaGreatDoor
open Go.RowKit Go.Shelf Go.Maps Go.WideMaps

def OutU (w w' : World) (e : Ending) (t : List UInt8) : Prop := Below w.heap.size w w' ∧ ∃ (l : List Int) (x y : Int) (va : Option Addr) (vc : Nat), e = .returned (.tuple #[.agg #[.slice va l.length vc, .int .i64 x, .int .i64 y], .bool (parU t).2]) ∧ w'.ownsRow w.heap.size 2 1 (.slice va l.length vc) l.length (ints l) ∧ ((parU t).2 = true → (parU t).1 = (l, x, y))
theorem cells3F {v : World} {b : Nat} {a0 a1 a2 : Value} {t : TypeId} (h : v.heap[b]? = some (.cells #[a0, a1, a2] t (0, 0))) :
    (v.cell? ⟨b, 0, none⟩ = some a0 ∧ v.cell? ⟨b, 1, none⟩ = some a1 ∧ v.cell? ⟨b, 2, none⟩ = some a2) ∧ v.frozen? ⟨b, 0, none⟩ = false ∧ v.frozen? ⟨b, 1, none⟩ = false ∧ v.frozen? ⟨b, 2, none⟩ = false :=
  ⟨cells3 h, Joins.unfrozen_of_block h 0, Joins.unfrozen_of_block h 1, Joins.unfrozen_of_block h 2⟩
theorem three_setU {w : World} {b : Nat} {c0 c1 c2 : Value} {t : TypeId} (h : w.heap[b]? = some (.cells #[c0, c1, c2] t (0, 0))) (v0 v1 v2 : Value) :
    (w.setCell ⟨b, 0, none⟩ v0).cell? ⟨b, 0, none⟩ = some v0 ∧ ((w.setCell ⟨b, 0, none⟩ v0).setCell ⟨b, 1, none⟩ v1).cell? ⟨b, 1, none⟩ = some v1 ∧ (((w.setCell ⟨b, 0, none⟩ v0).setCell ⟨b, 1, none⟩ v1).setCell ⟨b, 2, none⟩ v2).cell? ⟨b, 2, none⟩ = some v2 := by
  have h1 : (w.setCell ⟨b, 0, none⟩ v0).heap[b]? = some (.cells #[v0, c1, c2] t (0, 0)) := by
    have := Joins.block_setCell (i := 0) h v0
    simpa using this
  have h2 : ((w.setCell ⟨b, 0, none⟩ v0).setCell ⟨b, 1, none⟩ v1).heap[b]? = some (.cells #[v0, v1, c2] t (0, 0)) := by
    have := Joins.block_setCell (i := 1) h1 v1
    simpa using this
  have h3 : (((w.setCell ⟨b, 0, none⟩ v0).setCell ⟨b, 1, none⟩ v1).setCell ⟨b, 2, none⟩ v2).heap[b]? = some (.cells #[v0, v1, v2] t (0, 0)) := by
    have := Joins.block_setCell (i := 2) h2 v2
    simpa using this
  exact ⟨(cells3 h1).1, (cells3 h2).2.1, (cells3 h3).2.2⟩
theorem row_res3 {w2 : World} {b base base' : Nat} {e : TypeId} {size n : Nat} {v : Value} {xs : List Value} (h : w2.ownsRow base e size v n xs) (hb : b < base) (hb' : base' ≤ base) (v0 v1 v2 : Value) : (((w2.setCell ⟨b, 0, none⟩ v0).setCell ⟨b, 1, none⟩ v1).setCell ⟨b, 2, none⟩ v2).ownsRow base' e size v n xs :=
  Joins.ownsRow_le (ownsRow_setCell_below (ownsRow_setCell_below (ownsRow_setCell_below h (a := ⟨b, 0, none⟩) hb _) (a := ⟨b, 1, none⟩) hb _) (a := ⟨b, 2, none⟩) hb _) hb'
theorem keepR3 {W : World} {b R : Nat} {v0 v1 v2 u0 u1 u2 : Value} (h : W.cell? ⟨b, 0, none⟩ = some v0 ∧ W.cell? ⟨b, 1, none⟩ = some v1 ∧ W.cell? ⟨b, 2, none⟩ = some v2) (hne : b ≠ R) :
    (((W.setCell ⟨R, 0, none⟩ u0).setCell ⟨R, 1, none⟩ u1).setCell ⟨R, 2, none⟩ u2).cell? ⟨b, 0, none⟩ = some v0 ∧ (((W.setCell ⟨R, 0, none⟩ u0).setCell ⟨R, 1, none⟩ u1).setCell ⟨R, 2, none⟩ u2).cell? ⟨b, 1, none⟩ = some v1 ∧ (((W.setCell ⟨R, 0, none⟩ u0).setCell ⟨R, 1, none⟩ u1).setCell ⟨R, 2, none⟩ u2).cell? ⟨b, 2, none⟩ = some v2 := by
  have k : (((W.setCell ⟨R, 0, none⟩ u0).setCell ⟨R, 1, none⟩ u1).setCell ⟨R, 2, none⟩ u2).heap[b]? = W.heap[b]? := (Below.heap_setCell _ ⟨R, 2, none⟩ _ b hne).trans ((Below.heap_setCell _ ⟨R, 1, none⟩ _ b hne).trans (Below.heap_setCell _ ⟨R, 0, none⟩ _ b hne))
  exact ⟨(World.cell?_of_block k).trans h.1, (World.cell?_of_block k).trans h.2.1, (World.cell?_of_block k).trans h.2.2⟩
theorem cellsK3 {B : Nat} {w w' : World} {b : Nat} {v0 v1 v2 : Value} (hb : Below B w w') (hl : b < B) (h : w.cell? ⟨b, 0, none⟩ = some v0 ∧ w.cell? ⟨b, 1, none⟩ = some v1 ∧ w.cell? ⟨b, 2, none⟩ = some v2) :
    w'.cell? ⟨b, 0, none⟩ = some v0 ∧ w'.cell? ⟨b, 1, none⟩ = some v1 ∧ w'.cell? ⟨b, 2, none⟩ = some v2 :=
  ⟨(hb.cell (p := ⟨b, 0, none⟩) hl).trans h.1, (hb.cell (p := ⟨b, 1, none⟩) hl).trans h.2.1, (hb.cell (p := ⟨b, 2, none⟩) hl).trans h.2.2⟩
theorem fin3_f {g z d : Bool} (h : false = (g && z)) : (g && z && d) = false := by rw [← h]; rfl
theorem fin3_t {g z d : Bool} (h : true = (g && z)) : (g && z && d) = d := by rw [← h]; rfl
theorem fin5_f {g z q d : Bool} (h : false = (g && z)) : (g && z && q && d) = false := by rw [← h]; rfl
theorem fin5_t {g z g4 a d : Bool} {n4 : Int} (h : true = (g && z)) (h4 : g4 = true) (ha : a = true) (hp : 0 < n4) : (g && z && (g4 && a && decide (0 < n4)) && d) = d := by rw [← h, h4, ha, decide_eq_true hp]; rfl
theorem row_cells3 {w : World} {base g vc : Nat} {w0 w1 w2 : List UInt8} (h : w.ownsRow base 9 1 (.slice (some ⟨g, 0, none⟩) 3 vc) 3 (texts [w0, w1, w2])) :
    w.cell? ⟨g, 0, none⟩ = some (.string (str w0)) ∧ w.cell? ⟨g, 1, none⟩ = some (.string (str w1)) ∧ w.cell? ⟨g, 2, none⟩ = some (.string (str w2)) :=
  ⟨h.cellAt 0 (by omega), h.cellAt 1 (by omega), h.cellAt 2 (by omega)⟩
theorem cutw_3 {l : List (List UInt8)} (h : l.length = 3) : ∃ a b c, l = [a, b, c] := by
  match l, h with
  | [a, b, c], _ => exact ⟨a, b, c, rfl⟩
theorem cutw_5 {l : List (List UInt8)} (h : l.length = 5) : ∃ a b c d e, l = [a, b, c, d, e] := by
  match l, h with
  | [a, b, c, d, e], _ => exact ⟨a, b, c, d, e, rfl⟩
theorem cutw_len3 {t w0 w1 w2 : List UInt8} (hw : cutL 32 t = [w0, w1, w2]) : w2.length + 2 ≤ t.length := by
  have h := join_cut 32 t
  rw [hw] at h
  rw [← h]
  simp [Lib.join, List.intercalate, List.intersperse]
  omega
theorem cutw_len5 {t w0 w1 w2 w3 w4 : List UInt8} (hw : cutL 32 t = [w0, w1, w2, w3, w4]) : w2.length + 2 ≤ t.length := by
  have h := join_cut 32 t
  rw [hw] at h
  rw [← h]
  simp [Lib.join, List.intercalate, List.intersperse]
  omega
theorem parU_short {t : List UInt8} (h3 : (cutL 32 t).length ≠ 3) (h5 : (cutL 32 t).length ≠ 5) : (parU t).2 = false := by
  unfold parU
  split
  · rename_i hw; rw [hw] at h3; simp at h3
  · rename_i hw; rw [hw] at h5; simp at h5
  · rfl
/-- The rule under way in X. -/
structure UX (w3 wr : World) (X : Nat) (xa : Option Addr) (l : List Int) (xc : Nat) (x y : Int) : Prop where
  box : wr.heap[X]? = some (.cells #[.slice xa l.length xc, .int .i64 x, .int .i64 y] 42 (0, 0))
  row : wr.ownsRow w3.heap.size 2 1 (.slice xa l.length xc) l.length (ints l)
  chg : Chg w3 wr X (X + 1)
  lt : X < w3.heap.size
theorem UX.add {w3 wr w5 : World} {X : Nat} {x y : Int} {xa : Option Addr} {l : List Int} {xc g cap : Nat} {k : Int} (H : UX w3 wr X xa l xc x y) (h5 : w5.ownsRow w3.heap.size 2 1 (.slice (some ⟨g, 0, none⟩) (l.length + 1) cap) (l.length + 1) (ints l ++ [.int .i64 k])) (hb : Below w3.heap.size wr w5) :
    UX w3 (w5.setCell ⟨X, 0, none⟩ (.slice (some ⟨g, 0, none⟩) (l.length + 1) cap)) X (some ⟨g, 0, none⟩) (l ++ [k]) cap x y := by
  have hX := (hb.block X H.lt).trans H.box
  have b1 := Joins.block_setCell (i := 0) hX (.slice (some ⟨g, 0, none⟩) (l.length + 1) cap)
  have hc5 : Chg w3 w5 X (X + 1) := ⟨hb.os.trans H.chg.os, hb.tape.trans H.chg.tape, hb.output.trans H.chg.output, Nat.le_trans H.chg.size hb.size, fun b hb1 hd => (hb.block b hb1).trans (H.chg.block b hb1 hd)⟩
  refine ⟨?_, ?_, hc5.setCell ⟨Nat.le_refl _, by omega⟩ _, H.lt⟩
  · rw [List.length_append, List.length_singleton]; simpa using b1
  · rw [List.length_append, List.length_singleton, ints_more]
    exact ownsRow_setCell_below h5 (a := ⟨X, 0, none⟩) H.lt _
theorem UX.aft {w3 wr : World} {X : Nat} {x y : Int} {xa : Option Addr} {l : List Int} {xc : Nat} (H : UX w3 wr X xa l xc x y) (z : Int) : UX w3 (wr.setCell ⟨X, 2, none⟩ (.int .i64 z)) X xa l xc x z :=
  ⟨by have := Joins.block_setCell (i := 2) H.box (.int .i64 z); simpa using this, ownsRow_setCell_below H.row (a := ⟨X, 2, none⟩) H.lt _, H.chg.setCell ⟨Nat.le_refl _, by omega⟩ _, H.lt⟩

set_option maxRecDepth 20000 in
set_option maxHeartbeats 8000000 in
theorem l2Parse_any (t : List UInt8) (w : World) (ht : t.length ≤ 1048576) :
    Calls Tryz.prog 53 #[.string (str t)] w fun e w' => OutU w w' e t := by
  have HB1 : Hid (Below w.heap.size w (w.alloc (.cells #[.slice none 0 0, .int .i64 0, .int .i64 0] 42))) := below_box _
  have HR1 : Hid ((w.alloc (.cells #[.slice none 0 0, .int .i64 0, .int .i64 0] 42)).heap[w.heap.size]? = some (.cells #[.slice none 0 0, .int .i64 0, .int .i64 0] 42 (0, 0))) := heap_alloc_new _ _
  have hcut := l2Cut_any t 32 (w.alloc (.cells #[.slice none 0 0, .int .i64 0, .int .i64 0] 42)) ht
  have hsz1 : (w.alloc (.cells #[.slice none 0 0, .int .i64 0, .int .i64 0] 42)).heap.size = w.heap.size + 1 := by simp
  by_cases h3 : (cutL 32 t).length = 3
  · obtain ⟨w0, w1, w2, hw⟩ := cutw_3 h3
    rw [hw] at hcut
    have hsub : ∀ x ∈ cutL 32 t, x.length ≤ 1048576 := fun x hx => Nat.le_trans (cutL_sub 32 t x hx) ht
    rw [hw] at hsub
    have hl0 := hsub w0 (by simp)
    have hl2 := hsub w2 (by simp)
    have hcut' : Calls Tryz.prog 50 #[.string (str t), .int .u8 32] (w.alloc (.cells #[.slice none 0 0, .int .i64 0, .int .i64 0] 42)) fun e w' => ∃ g vc, e = .returned (.slice (some ⟨g, 0, none⟩) 3 vc) ∧ Hid (w'.ownsRow (w.heap.size + 1) 9 1 (.slice (some ⟨g, 0, none⟩) 3 vc) 3 (texts [w0, w1, w2])) ∧ Hid (Below (w.heap.size + 1) (w.alloc (.cells #[.slice none 0 0, .int .i64 0, .int .i64 0] 42)) w') := by
      refine hcut.mono fun e w' ⟨va, vc, e1, hO, hb⟩ => ?_
      obtain ⟨g, rfl⟩ := row_some hO (by simp)
      rw [hsz1] at hO hb
      exact ⟨g, vc, e1, hO, hb⟩
    clear h3
    by_cases hof : w1 = [111, 102]
    · have eof : ((str w1).toList == [111, 102]) = true := by rw [str_is, decide_eq_true hof]
      have HPB : Hid (parU t = (((kysP w2).1, (numR w0 1).1, 0), (numR w0 1).2 && (kysP w2).2 && decide (ruleR (kysP w2).1 (numR w0 1).1 0 = 0))) := by show _ = _; unfold parU; rw [hw]; simp only [if_pos hof]
      obtain ⟨n1, hn1⟩ : ∃ x, x = (numR w0 1).1 := ⟨_, rfl⟩
      obtain ⟨g1, hg1⟩ : ∃ x, x = (numR w0 1).2 := ⟨_, rfl⟩
      rw [← hn1, ← hg1] at HPB
      have hN1 : ∀ u, Calls Tryz.prog 51 #[.string (str w0), .int .i64 1] u fun e w' => e = .returned (.tuple #[.int .i64 n1, .bool g1]) ∧ w' = u := fun u => by rw [hn1, hg1]; exact l2Number_any w0 1 u hl0 (by omega)
      obtain ⟨ls, hls⟩ : ∃ x, x = cutL 44 w2 := ⟨_, rfl⟩
      have HL4 : Hid (ls.length ≤ 1048576) := by show _ ≤ _; rw [hls]; have := cutL_len 44 w2; have := cutw_len3 hw; omega
      have HSUB : Hid (∀ x ∈ ls, x.length ≤ 1048576) := fun x hx => Nat.le_trans (cutL_sub 44 w2 x (by rw [← hls]; exact hx)) hl2
      have HLN : Hid (1 ≤ ls.length) := by show _ ≤ _; rw [hls]; exact List.length_pos_iff.2 (cutL_ne 44 w2)
      have HTL : Hid ((kysP w2).1 = (ls.map fun x => (numR x 3).1) ∧ (kysP w2).2 = ls.all fun x => (numR x 3).2) := by rw [hls]; exact ⟨rfl, rfl⟩
      have HCUT2 : Hid (∀ W, Calls Tryz.prog 50 #[.string (str w2), .int .u8 44] W fun e w' => ∃ g vc, e = .returned (.slice (some ⟨g, 0, none⟩) ls.length vc) ∧ Hid (w'.ownsRow W.heap.size 9 1 (.slice (some ⟨g, 0, none⟩) ls.length vc) ls.length (texts ls)) ∧ Hid (Below W.heap.size W w')) := fun W => by
        rw [hls]
        refine (l2Cut_any w2 44 W hl2).mono fun e w' ⟨va, vc, e1, hO, hb⟩ => ?_
        obtain ⟨g, rfl⟩ := row_some hO (fun e => by have := List.length_pos_iff.2 (cutL_ne 44 w2); omega)
        exact ⟨g, vc, e1, hO, hb⟩
      clear hcut hn1 hg1 hls hw hsub hof hl0 hl2
      go_enter Tryz.func53, Tryz.ntmps53
      go_wp2_with (first
        | (go_at_call 50; (first
            | ((with_reducible refine hcut'.mono ?_); clear hcut'; rintro e u2 ⟨g, vc, rfl, HO2, HB2⟩; obtain ⟨s0, s1, s2⟩ := row_cells3 HO2.out; have s2' : ∀ o, (u2.alloc o).cell? ⟨g, 2, none⟩ = some (.string (str w2)) := (fun o => kept1 o s2); have hC2 := HCUT2.out (u2.alloc (.cells #[.slice none 0 0, .int .i64 n1, .int .i64 0] 42)))
            | (have hq := hC2; clear hC2; (with_reducible refine hq.mono ?_); clear hq; rintro e u3 ⟨gl, vl, rfl, HO3, HB3⟩)))
        | (go_at_call 51; (with_reducible refine (hN1 _).mono ?_); clear hN1; rintro e w' ⟨rfl, hw⟩; have hw2 := hw.symm; subst hw2; clear hw))
      have HRX : Hid (w.heap.size < u2.heap.size) := by have := HB2.out.size; simp at this; show _ < _; omega
      have HGX : Hid (g < u2.heap.size ∧ u2.heap.size < gl) := ⟨(HO2.out.lt g rfl).2, by have := (HO3.out.lt gl rfl).1; simp at this; omega⟩
      have HS3 : Hid (u2.heap.size < u3.heap.size) := by have := HB3.out.size; simp at this; show _ < _; omega
      have HBU : Hid (Below w.heap.size w u3) := (HB1.out.trans (HB2.out.mono (by omega))).trans ((below_box (.cells #[.slice none 0 0, .int .i64 n1, .int .i64 0] 42)).mono (by have := HRX.out; omega) |>.trans (HB3.out.mono (by have := HRX.out; simp; omega)))
      have HRU : Hid (u3.heap[w.heap.size]? = some (.cells #[.slice none 0 0, .int .i64 0, .int .i64 0] 42 (0, 0))) := (keepb (keepb ((HB2.out.block w.heap.size (by omega)).trans HR1.out) (below_box (.cells #[.slice none 0 0, .int .i64 n1, .int .i64 0] 42))).out HB3.out).out
      have HX0 : Hid (UX u3 u3 u2.heap.size none [] 0 n1 0) := ⟨(keepb (heap_alloc_new u2 _) HB3.out).out, World.ownsRow_nil _ _ _ _, Chg.refl _ _ _, HS3.out⟩
      clear s0 s1 s2 s2'
      go_loopw [6, 9] (fun okv i wr => ∃ j : Nat, j ≤ ls.length ∧ i = .int .i64 j ∧ ∃ kk : Bool, okv = .bool kk ∧ Hid (kk = (g1 && (ls.take j).all fun x => (numR x 3).2)) ∧ ∃ xa xc, ∃ l : List Int, Hid (l.length = j) ∧ Hid (l = (ls.take j).map fun x => (numR x 3).1) ∧ Hid (UX u3 wr u2.heap.size xa l xc n1 0)) (fun _ i _ => ls.length - (intOf i).toNat)
      case atStart => exact ⟨0, Nat.zero_le _, rfl, _, rfl, by show _ = _; simp, none, 0, [], rfl, by show _ = _; simp, HX0.out⟩
      case round =>
        obtain ⟨j, hj, rfl, kk, rfl, HKK, xa, xc, l, HLJ, HLL, HBX⟩ := hrel
        have HRr : Hid (wr.heap[w.heap.size]? = some (.cells #[.slice none 0 0, .int .i64 0, .int .i64 0] 42 (0, 0))) := HBX.out.chg.keep HRU.out (.inl HRX.out)
        have HBr : Hid (Below w.heap.size w wr) := HBU.out.trans (HBX.out.chg.below (Nat.le_of_lt HRX.out) HBU.out.size)
        by_cases hlt : j < ls.length
        · obtain ⟨x, hx⟩ : ∃ x, x = ls.getD j [] := ⟨_, rfl⟩
          have HX : Hid (x = ls.getD j []) := hx
          have hxm : x ∈ ls := by rw [hx, List.getD, List.getElem?_eq_getElem hlt]; exact List.getElem_mem _
          have cl : wr.cell? ⟨gl, j, none⟩ = some (.string (str x)) := by
            rw [HBX.out.chg.cell (HO3.out.lt gl rfl).2 (.inr HGX.out.2), HO3.out.cellAt j (by omega), hx]
            simp [texts, List.getD, hlt]
          obtain ⟨nx, hnx⟩ : ∃ q, q = (numR x 3).1 := ⟨_, rfl⟩
          obtain ⟨gx, hgx⟩ : ∃ q, q = (numR x 3).2 := ⟨_, rfl⟩
          have hNX : ∀ u, Calls Tryz.prog 51 #[.string (str x), .int .i64 3] u fun e w' => e = .returned (.tuple #[.int .i64 nx, .bool gx]) ∧ w' = u := fun u => by rw [hnx, hgx]; exact l2Number_any x 3 u (HSUB.out x hxm) (by omega)
          have HNX : Hid (nx = (numR x 3).1 ∧ gx = (numR x 3).2) := ⟨hnx, hgx⟩
          have hln := HL4.out
          obtain ⟨g5, cap, w5, hrun, HC5⟩ := int_addedG (W := wr) (k := nx) HBX.out.row (by rw [HLJ.out]; omega) HBX.out.chg.size
          obtain ⟨⟨b0, b1, b2⟩, b3, b4, b5⟩ := cells3F HBX.out.box
          obtain ⟨⟨y0, y1, y2⟩, y3, y4, y5⟩ := cells3F ((HC5.out.2.block u2.heap.size HBX.out.lt).trans HBX.out.box)
          have HBN := show Hid (UX u3 (w5.setCell ⟨u2.heap.size, 0, none⟩ (.slice (some ⟨g5, 0, none⟩) (l.length + 1) cap)) u2.heap.size (some ⟨g5, 0, none⟩) (l ++ [nx]) cap n1 0) from HBX.out.add HC5.out.1 HC5.out.2
          have HLN2 : Hid (l ++ [nx] = (ls.take (j + 1)).map fun x => (numR x 3).1) := by show _ = _; rw [take_nextL hlt HX.out, List.map_append, ← HLL.out, HNX.out.1]; rfl
          have HK2 : Hid (∀ q, kk = q → (q && gx) = (g1 && (ls.take (j + 1)).all fun x => (numR x 3).2)) := fun q hq => by rw [← hq, take_nextL hlt HX.out, List.all_append, ← Bool.and_assoc, ← HKK.out, HNX.out.2]; simp
          have hki : (j : Int) < (ls.length : Int) := by omega
          clear hx hxm hnx hgx
          cases kk
          · have HK3 := HK2.out false rfl
            have HK4 : Hid (false = (g1 && (ls.take (j + 1)).all fun x => (numR x 3).2)) := by show _ = _; rw [← HK3]; simp
            clear HK3
            go_wp2_with (first
              | (go_at_call 51; (with_reducible refine (hNX _).mono ?_); clear hNX; rintro e w' ⟨rfl, hw⟩; have hw2 := hw.symm; subst hw2; clear hw)
              | (at_builtin; go_must (refine wpList_append_runC (by rfl) _ _ _ (by rfl) (by rfl) (by rfl) hrun ?_); clear hrun))
            go_roundw
            case rel => exact ⟨j + 1, by omega, by go_num, false, rfl, HK4, some ⟨g5, 0, none⟩, cap, l ++ [nx], by show _ = _; rw [List.length_append, HLJ.out]; rfl, HLN2, HBN⟩
            case measure => simp [intOf]; omega
          · have HK3 := HK2.out true rfl
            have HK4 : Hid (gx = (g1 && (ls.take (j + 1)).all fun x => (numR x 3).2)) := by show _ = _; rw [← HK3]; simp
            clear HK3
            go_wp2_with (first
              | (go_at_call 51; (with_reducible refine (hNX _).mono ?_); clear hNX; rintro e w' ⟨rfl, hw⟩; have hw2 := hw.symm; subst hw2; clear hw)
              | (at_builtin; go_must (refine wpList_append_runC (by rfl) _ _ _ (by rfl) (by rfl) (by rfl) hrun ?_); clear hrun))
            go_roundw
            case rel => exact ⟨j + 1, by omega, by go_num, gx, rfl, HK4, some ⟨g5, 0, none⟩, cap, l ++ [nx], by show _ = _; rw [List.length_append, HLJ.out]; rfl, HLN2, HBN⟩
            case measure => simp [intOf]; omega
        · have hja : ls.take j = ls := List.take_of_length_le (by omega)
          have HL : Hid (l = (kysP w2).1) := by show _ = _; rw [HTL.out.1, HLL.out, hja]
          have HKA : Hid (kk = (g1 && (kysP w2).2)) := by show _ = _; rw [HTL.out.2, HKK.out, hja]
          have hll : l.length ≤ 1048576 := by rw [HLJ.out]; have := HL4.out; omega
          clear hja
          obtain ⟨⟨b0, b1, b2⟩, b3, b4, b5⟩ := cells3F HBX.out.box
          obtain ⟨⟨r0, r1, r2⟩, r3, r4, r5⟩ := cells3F HRr.out
          have hRX : w.heap.size < u2.heap.size := HRX.out
          obtain ⟨hca, hcb⟩ := row_capsI HBX.out.row
          have hXl := HBX.out.lt
          have hXw := HBX.out.chg.size
          cases kk
          · have HFIN : Hid ((parU t).2 = false) := by show _ = _; rw [HPB.out]; exact fin3_f HKA.out
            go_wp2
            go_big_region
            go_wp2
            obtain ⟨j0, j1, j2⟩ := three_setU HRr.out (.slice xa l.length xc) (.int .i64 n1) (.int .i64 0)
            refine bodyPost_ret (v := .tuple #[.agg #[.slice xa l.length xc, .int .i64 n1, .int .i64 0], .bool false]) (by simp [results, Tryz.results53, go_sem, j0, j1, j2]) rfl ?_
            refine ⟨(((HBr.out.setCell (p := ⟨w.heap.size, 0, none⟩) (Nat.le_refl _) _).setCell (p := ⟨w.heap.size, 1, none⟩) (Nat.le_refl _) _).setCell (p := ⟨w.heap.size, 2, none⟩) (Nat.le_refl _) _).drew, l, n1, 0, _, _, (by rw [HFIN.out]; try rfl), ?_, fun e => by rw [HFIN.out] at e; cases e⟩
            exact row_res3 (w2 := wr) HBX.out.row (by omega) (by omega) _ _ _
          · have hF := l2Fault_any u2.heap.size l.length xc xa l n1 0 (World.drew wr) hll ((iat_row HBX.out.row rfl).below (Below.refl _ _).drew (Nat.le_refl _)) HBX.out.box
            obtain ⟨cf, hcf⟩ : ∃ c, c = ruleR l n1 0 := ⟨_, rfl⟩
            rw [← hcf] at hF
            have HFIN : Hid ((parU t).2 = decide (cf = 0) ∧ (parU t).1 = (l, n1, 0)) := by rw [HPB.out, ← HL.out, hcf]; exact ⟨fin3_t HKA.out, rfl⟩
            clear hcf
            have hFd : Calls Tryz.prog 79 #[.pointer (some ⟨u2.heap.size, 0, none⟩)] (World.drew wr) fun e w' => e = .returned (.int .i64 cf) ∧ Below (World.heap wr).size wr w' := hF.mono fun e w' h => ⟨h.1, (Below.refl _ _).drew.trans h.2⟩
            clear hF
            go_wp2
            go_region_held3 (fun w' => w'.cell? ⟨u2.heap.size, 0, none⟩ = some (.slice xa l.length xc) ∧ w'.cell? ⟨u2.heap.size, 1, none⟩ = some (.int .i64 n1) ∧ w'.cell? ⟨u2.heap.size, 2, none⟩ = some (.int .i64 0)) (first | go_keep | exact keepR3 ⟨z0, z1, z2⟩ (by omega))
              (first | (go_at_call 79; (with_reducible refine hFd.mono ?_); clear hFd; rintro e w6 ⟨rfl, hb6⟩; obtain ⟨z0, z1, z2⟩ := cellsK3 hb6 (by omega) ⟨b0, b1, b2⟩; have HR6 : Hid (w6.heap[w.heap.size]? = some (.cells #[.slice none 0 0, .int .i64 0, .int .i64 0] 42 (0, 0))) := (hb6.block _ (lt_of_block HRr.out)).trans HRr.out; obtain ⟨⟨q0, q1, q2⟩, q3, q4, q5⟩ := cells3F HR6.out))
            go_wp2
            obtain ⟨j0, j1, j2⟩ := three_setU HR6.out (.slice xa l.length xc) (.int .i64 n1) (.int .i64 0)
            refine bodyPost_ret (v := .tuple #[.agg #[.slice xa l.length xc, .int .i64 n1, .int .i64 0], .bool (cf == 0)]) (by simp [results, Tryz.results53, go_sem, j0, j1, j2]) rfl ?_
            have HB6 : Below w.heap.size w w6 := HBr.out.trans (hb6.mono HBr.out.size)
            refine ⟨(((HB6.setCell (p := ⟨w.heap.size, 0, none⟩) (Nat.le_refl _) _).setCell (p := ⟨w.heap.size, 1, none⟩) (Nat.le_refl _) _).setCell (p := ⟨w.heap.size, 2, none⟩) (Nat.le_refl _) _), l, n1, 0, _, _, by rw [HFIN.out.1]; first | rfl | (congr 4; by_cases h : cf = 0 <;> simp [h]), ?_, fun _ => HFIN.out.2⟩
            exact row_res3 (row_on HBX.out.row hb6) (by omega) (by omega) _ _ _
    · have eof : ((str w1).toList == [111, 102]) = false := by rw [str_is, decide_eq_false hof]
      have HPB : Hid ((parU t).2 = false) := by show _ = _; unfold parU; rw [hw]; simp only [if_neg hof]
      clear hcut hw hsub hof
      go_enter Tryz.func53, Tryz.ntmps53
      go_wp2_with (first
        | (go_at_call 50; (with_reducible refine hcut'.mono ?_); clear hcut'; rintro e u2 ⟨g, vc, rfl, HO2, HB2⟩; obtain ⟨s0, s1, s2⟩ := row_cells3 HO2.out; have HR2 : Hid (u2.heap[w.heap.size]? = some (.cells #[.slice none 0 0, .int .i64 0, .int .i64 0] 42 (0, 0))) := (HB2.out.block w.heap.size (by omega)).trans HR1.out; obtain ⟨⟨r0, r1, r2⟩, r3, r4, r5⟩ := cells3F HR2.out))
      obtain ⟨j0, j1, j2⟩ := three_setU HR2.out (.slice none 0 0) (.int .i64 0) (.int .i64 0)
      refine bodyPost_ret (v := .tuple #[.agg #[.slice none 0 0, .int .i64 0, .int .i64 0], .bool false]) (by simp [results, Tryz.results53, go_sem, j0, j1, j2]) rfl ?_
      have HBr : Below w.heap.size w u2 := HB1.out.trans (HB2.out.mono (by omega))
      exact ⟨(((HBr.setCell (p := ⟨w.heap.size, 0, none⟩) (Nat.le_refl _) _).setCell (p := ⟨w.heap.size, 1, none⟩) (Nat.le_refl _) _).setCell (p := ⟨w.heap.size, 2, none⟩) (Nat.le_refl _) _), [], 0, 0, none, 0, by rw [HPB.out]; rfl, World.ownsRow_nil _ _ _ _, fun e => by rw [HPB.out] at e; cases e⟩

  by_cases h5 : (cutL 32 t).length = 5
  · clear h3
    obtain ⟨w0, w1, w2, w3, w4, hw⟩ := cutw_5 h5
    rw [hw] at hcut
    have hsub : ∀ x ∈ cutL 32 t, x.length ≤ 1048576 := fun x hx => Nat.le_trans (cutL_sub 32 t x hx) ht
    rw [hw] at hsub
    have hl0 := hsub w0 (by simp)
    have hl2 := hsub w2 (by simp)
    have hl4 := hsub w4 (by simp)
    have hcut' : Calls Tryz.prog 50 #[.string (str t), .int .u8 32] (w.alloc (.cells #[.slice none 0 0, .int .i64 0, .int .i64 0] 42)) fun e w' => ∃ g vc, e = .returned (.slice (some ⟨g, 0, none⟩) 5 vc) ∧ Hid (w'.ownsRow (w.heap.size + 1) 9 1 (.slice (some ⟨g, 0, none⟩) 5 vc) 5 (texts [w0, w1, w2, w3, w4])) ∧ Hid (Below (w.heap.size + 1) (w.alloc (.cells #[.slice none 0 0, .int .i64 0, .int .i64 0] 42)) w') := by
      refine hcut.mono fun e w' ⟨va, vc, e1, hO, hb⟩ => ?_
      obtain ⟨g, rfl⟩ := row_some hO (by simp)
      rw [hsz1] at hO hb
      exact ⟨g, vc, e1, hO, hb⟩
    clear h5
    by_cases hof : w1 = [111, 102]
    · have eof : ((str w1).toList == [111, 102]) = true := by rw [str_is, decide_eq_true hof]
      have HPB : Hid (parU t = (((kysP w2).1, (numR w0 1).1, (numR w4 3).1), (numR w0 1).2 && (kysP w2).2 && ((numR w4 3).2 && decide (w3 = [97, 102, 116, 101, 114]) && decide (0 < (numR w4 3).1)) && decide (ruleR (kysP w2).1 (numR w0 1).1 (numR w4 3).1 = 0))) := by show _ = _; unfold parU; rw [hw]; simp only [if_pos hof]
      obtain ⟨n1, hn1⟩ : ∃ x, x = (numR w0 1).1 := ⟨_, rfl⟩
      obtain ⟨g1, hg1⟩ : ∃ x, x = (numR w0 1).2 := ⟨_, rfl⟩
      rw [← hn1, ← hg1] at HPB
      have hN1 : ∀ u, Calls Tryz.prog 51 #[.string (str w0), .int .i64 1] u fun e w' => e = .returned (.tuple #[.int .i64 n1, .bool g1]) ∧ w' = u := fun u => by rw [hn1, hg1]; exact l2Number_any w0 1 u hl0 (by omega)
      obtain ⟨n4, hn4⟩ : ∃ x, x = (numR w4 3).1 := ⟨_, rfl⟩
      obtain ⟨g4, hg4⟩ : ∃ x, x = (numR w4 3).2 := ⟨_, rfl⟩
      rw [← hn4, ← hg4] at HPB
      have hN4 : ∀ u, Calls Tryz.prog 51 #[.string (str w4), .int .i64 3] u fun e w' => e = .returned (.tuple #[.int .i64 n4, .bool g4]) ∧ w' = u := fun u => by rw [hn4, hg4]; exact l2Number_any w4 3 u hl4 (by omega)
      clear hn4 hg4
      obtain ⟨ls, hls⟩ : ∃ x, x = cutL 44 w2 := ⟨_, rfl⟩
      have HL4 : Hid (ls.length ≤ 1048576) := by show _ ≤ _; rw [hls]; have := cutL_len 44 w2; have := cutw_len5 hw; omega
      have HSUB : Hid (∀ x ∈ ls, x.length ≤ 1048576) := fun x hx => Nat.le_trans (cutL_sub 44 w2 x (by rw [← hls]; exact hx)) hl2
      have HLN : Hid (1 ≤ ls.length) := by show _ ≤ _; rw [hls]; exact List.length_pos_iff.2 (cutL_ne 44 w2)
      have HTL : Hid ((kysP w2).1 = (ls.map fun x => (numR x 3).1) ∧ (kysP w2).2 = ls.all fun x => (numR x 3).2) := by rw [hls]; exact ⟨rfl, rfl⟩
      have HCUT2 : Hid (∀ W, Calls Tryz.prog 50 #[.string (str w2), .int .u8 44] W fun e w' => ∃ g vc, e = .returned (.slice (some ⟨g, 0, none⟩) ls.length vc) ∧ Hid (w'.ownsRow W.heap.size 9 1 (.slice (some ⟨g, 0, none⟩) ls.length vc) ls.length (texts ls)) ∧ Hid (Below W.heap.size W w')) := fun W => by
        rw [hls]
        refine (l2Cut_any w2 44 W hl2).mono fun e w' ⟨va, vc, e1, hO, hb⟩ => ?_
        obtain ⟨g, rfl⟩ := row_some hO (fun e => by have := List.length_pos_iff.2 (cutL_ne 44 w2); omega)
        exact ⟨g, vc, e1, hO, hb⟩
      clear hcut hn1 hg1 hls hw hsub hof hl0 hl2
      go_enter Tryz.func53, Tryz.ntmps53
      go_wp2_with (first
        | (go_at_call 50; (first
            | ((with_reducible refine hcut'.mono ?_); clear hcut'; rintro e u2 ⟨g, vc, rfl, HO2, HB2⟩; obtain ⟨s0, s1, s2, s3, s4⟩ := row_cells5 HO2.out; have s2' : ∀ o, (u2.alloc o).cell? ⟨g, 2, none⟩ = some (.string (str w2)) := (fun o => kept1 o s2); have hC2 := HCUT2.out (u2.alloc (.cells #[.slice none 0 0, .int .i64 n1, .int .i64 0] 42)))
            | (have hq := hC2; clear hC2; (with_reducible refine hq.mono ?_); clear hq; rintro e u3 ⟨gl, vl, rfl, HO3, HB3⟩)))
        | (go_at_call 51; (with_reducible refine (hN1 _).mono ?_); clear hN1; rintro e w' ⟨rfl, hw⟩; have hw2 := hw.symm; subst hw2; clear hw))
      have HRX : Hid (w.heap.size < u2.heap.size) := by have := HB2.out.size; simp at this; show _ < _; omega
      have HGX : Hid (g < u2.heap.size ∧ u2.heap.size < gl) := ⟨(HO2.out.lt g rfl).2, by have := (HO3.out.lt gl rfl).1; simp at this; omega⟩
      have HS3 : Hid (u2.heap.size < u3.heap.size) := by have := HB3.out.size; simp at this; show _ < _; omega
      have HBU : Hid (Below w.heap.size w u3) := (HB1.out.trans (HB2.out.mono (by omega))).trans ((below_box (.cells #[.slice none 0 0, .int .i64 n1, .int .i64 0] 42)).mono (by have := HRX.out; omega) |>.trans (HB3.out.mono (by have := HRX.out; simp; omega)))
      have HRU : Hid (u3.heap[w.heap.size]? = some (.cells #[.slice none 0 0, .int .i64 0, .int .i64 0] 42 (0, 0))) := (keepb (keepb ((HB2.out.block w.heap.size (by omega)).trans HR1.out) (below_box (.cells #[.slice none 0 0, .int .i64 n1, .int .i64 0] 42))).out HB3.out).out
      have HX0 : Hid (UX u3 u3 u2.heap.size none [] 0 n1 0) := ⟨(keepb (heap_alloc_new u2 _) HB3.out).out, World.ownsRow_nil _ _ _ _, Chg.refl _ _ _, HS3.out⟩
      have HW3 : Hid (u3.cell? ⟨g, 3, none⟩ = some (.string (str w3))) := (HB3.out.cell (p := ⟨g, 3, none⟩) (by have := HGX.out.1; simp; omega)).trans (kept1 _ s3)
      have HW4 : Hid (u3.cell? ⟨g, 4, none⟩ = some (.string (str w4))) := (HB3.out.cell (p := ⟨g, 4, none⟩) (by have := HGX.out.1; simp; omega)).trans (kept1 _ s4)
      clear s0 s1 s2 s3 s4 s2'
      go_loopw [6, 9] (fun okv i wr => ∃ j : Nat, j ≤ ls.length ∧ i = .int .i64 j ∧ ∃ kk : Bool, okv = .bool kk ∧ Hid (kk = (g1 && (ls.take j).all fun x => (numR x 3).2)) ∧ ∃ xa xc, ∃ l : List Int, Hid (l.length = j) ∧ Hid (l = (ls.take j).map fun x => (numR x 3).1) ∧ Hid (UX u3 wr u2.heap.size xa l xc n1 0)) (fun _ i _ => ls.length - (intOf i).toNat)
      case atStart => exact ⟨0, Nat.zero_le _, rfl, _, rfl, by show _ = _; simp, none, 0, [], rfl, by show _ = _; simp, HX0.out⟩
      case round =>
        obtain ⟨j, hj, rfl, kk, rfl, HKK, xa, xc, l, HLJ, HLL, HBX⟩ := hrel
        have HRr : Hid (wr.heap[w.heap.size]? = some (.cells #[.slice none 0 0, .int .i64 0, .int .i64 0] 42 (0, 0))) := HBX.out.chg.keep HRU.out (.inl HRX.out)
        have HBr : Hid (Below w.heap.size w wr) := HBU.out.trans (HBX.out.chg.below (Nat.le_of_lt HRX.out) HBU.out.size)
        have c3 : wr.cell? ⟨g, 3, none⟩ = some (.string (str w3)) := (HBX.out.chg.cell (Nat.lt_trans HGX.out.1 HS3.out) (.inl HGX.out.1)).trans HW3.out
        have c4 : wr.cell? ⟨g, 4, none⟩ = some (.string (str w4)) := (HBX.out.chg.cell (Nat.lt_trans HGX.out.1 HS3.out) (.inl HGX.out.1)).trans HW4.out
        by_cases hlt : j < ls.length
        · obtain ⟨x, hx⟩ : ∃ x, x = ls.getD j [] := ⟨_, rfl⟩
          have HX : Hid (x = ls.getD j []) := hx
          have hxm : x ∈ ls := by rw [hx, List.getD, List.getElem?_eq_getElem hlt]; exact List.getElem_mem _
          have cl : wr.cell? ⟨gl, j, none⟩ = some (.string (str x)) := by
            rw [HBX.out.chg.cell (HO3.out.lt gl rfl).2 (.inr HGX.out.2), HO3.out.cellAt j (by omega), hx]
            simp [texts, List.getD, hlt]
          obtain ⟨nx, hnx⟩ : ∃ q, q = (numR x 3).1 := ⟨_, rfl⟩
          obtain ⟨gx, hgx⟩ : ∃ q, q = (numR x 3).2 := ⟨_, rfl⟩
          have hNX : ∀ u, Calls Tryz.prog 51 #[.string (str x), .int .i64 3] u fun e w' => e = .returned (.tuple #[.int .i64 nx, .bool gx]) ∧ w' = u := fun u => by rw [hnx, hgx]; exact l2Number_any x 3 u (HSUB.out x hxm) (by omega)
          have HNX : Hid (nx = (numR x 3).1 ∧ gx = (numR x 3).2) := ⟨hnx, hgx⟩
          have hln := HL4.out
          obtain ⟨g5, cap, w5, hrun, HC5⟩ := int_addedG (W := wr) (k := nx) HBX.out.row (by rw [HLJ.out]; omega) HBX.out.chg.size
          obtain ⟨⟨b0, b1, b2⟩, b3, b4, b5⟩ := cells3F HBX.out.box
          obtain ⟨⟨y0, y1, y2⟩, y3, y4, y5⟩ := cells3F ((HC5.out.2.block u2.heap.size HBX.out.lt).trans HBX.out.box)
          have HBN := show Hid (UX u3 (w5.setCell ⟨u2.heap.size, 0, none⟩ (.slice (some ⟨g5, 0, none⟩) (l.length + 1) cap)) u2.heap.size (some ⟨g5, 0, none⟩) (l ++ [nx]) cap n1 0) from HBX.out.add HC5.out.1 HC5.out.2
          have HLN2 : Hid (l ++ [nx] = (ls.take (j + 1)).map fun x => (numR x 3).1) := by show _ = _; rw [take_nextL hlt HX.out, List.map_append, ← HLL.out, HNX.out.1]; rfl
          have HK2 : Hid (∀ q, kk = q → (q && gx) = (g1 && (ls.take (j + 1)).all fun x => (numR x 3).2)) := fun q hq => by rw [← hq, take_nextL hlt HX.out, List.all_append, ← Bool.and_assoc, ← HKK.out, HNX.out.2]; simp
          have hki : (j : Int) < (ls.length : Int) := by omega
          clear hx hxm hnx hgx
          cases kk
          · have HK3 := HK2.out false rfl
            have HK4 : Hid (false = (g1 && (ls.take (j + 1)).all fun x => (numR x 3).2)) := by show _ = _; rw [← HK3]; simp
            clear HK3
            go_wp2_with (first
              | (go_at_call 51; (with_reducible refine (hNX _).mono ?_); clear hNX; rintro e w' ⟨rfl, hw⟩; have hw2 := hw.symm; subst hw2; clear hw)
              | (at_builtin; go_must (refine wpList_append_runC (by rfl) _ _ _ (by rfl) (by rfl) (by rfl) hrun ?_); clear hrun))
            go_roundw
            case rel => exact ⟨j + 1, by omega, by go_num, false, rfl, HK4, some ⟨g5, 0, none⟩, cap, l ++ [nx], by show _ = _; rw [List.length_append, HLJ.out]; rfl, HLN2, HBN⟩
            case measure => simp [intOf]; omega
          · have HK3 := HK2.out true rfl
            have HK4 : Hid (gx = (g1 && (ls.take (j + 1)).all fun x => (numR x 3).2)) := by show _ = _; rw [← HK3]; simp
            clear HK3
            go_wp2_with (first
              | (go_at_call 51; (with_reducible refine (hNX _).mono ?_); clear hNX; rintro e w' ⟨rfl, hw⟩; have hw2 := hw.symm; subst hw2; clear hw)
              | (at_builtin; go_must (refine wpList_append_runC (by rfl) _ _ _ (by rfl) (by rfl) (by rfl) hrun ?_); clear hrun))
            go_roundw
            case rel => exact ⟨j + 1, by omega, by go_num, gx, rfl, HK4, some ⟨g5, 0, none⟩, cap, l ++ [nx], by show _ = _; rw [List.length_append, HLJ.out]; rfl, HLN2, HBN⟩
            case measure => simp [intOf]; omega
        · have hja : ls.take j = ls := List.take_of_length_le (by omega)
          have HL : Hid (l = (kysP w2).1) := by show _ = _; rw [HTL.out.1, HLL.out, hja]
          have HKA : Hid (kk = (g1 && (kysP w2).2)) := by show _ = _; rw [HTL.out.2, HKK.out, hja]
          have hll : l.length ≤ 1048576 := by rw [HLJ.out]; have := HL4.out; omega
          clear hja
          have HBY : Hid (UX u3 (wr.setCell ⟨u2.heap.size, 2, none⟩ (.int .i64 n4)) u2.heap.size xa l xc n1 n4) := HBX.out.aft n4
          have HRo := HRr
          have HBo := HBr
          obtain ⟨⟨b0, b1, b2⟩, b3, b4, b5⟩ := cells3F HBX.out.box
          obtain ⟨⟨r0, r1, r2⟩, r3, r4, r5⟩ := cells3F HRr.out
          have hRX : w.heap.size < u2.heap.size := HRX.out
          obtain ⟨hca, hcb⟩ := row_capsI HBX.out.row
          have hXl := HBX.out.lt
          have hXw := HBX.out.chg.size
          cases kk
          · have HFIN : Hid ((parU t).2 = false) := by show _ = _; rw [HPB.out]; exact fin5_f HKA.out
            go_wp2_with (first | (go_at_call 51; (with_reducible refine (hN4 _).mono ?_); clear hN4; rintro e w' ⟨rfl, hw⟩; have hw2 := hw.symm; subst hw2; clear hw))
            clear b0 b1 b2 b3 b4 b5 r0 r1 r2 r3 r4 r5 hXw
            have HRr : Hid ((wr.setCell ⟨u2.heap.size, 2, none⟩ (.int .i64 n4)).heap[w.heap.size]? = some (.cells #[.slice none 0 0, .int .i64 0, .int .i64 0] 42 (0, 0))) := (Below.heap_setCell _ ⟨u2.heap.size, 2, none⟩ _ w.heap.size (Nat.ne_of_lt HRX.out)).trans HRo.out
            have HBr : Hid (Below w.heap.size w (wr.setCell ⟨u2.heap.size, 2, none⟩ (.int .i64 n4))) := HBo.out.setCell (p := ⟨u2.heap.size, 2, none⟩) (Nat.le_of_lt HRX.out) _
            have hRX : w.heap.size < u2.heap.size := HRX.out
            have hXl : u2.heap.size < u3.heap.size := HBY.out.lt
            obtain ⟨⟨b0, b1, b2⟩, b3, b4, b5⟩ := cells3F HBY.out.box
            obtain ⟨⟨r0, r1, r2⟩, r3, r4, r5⟩ := cells3F HRr.out
            have hXw := HBY.out.chg.size
            go_big_region
            go_wp2
            obtain ⟨j0, j1, j2⟩ := three_setU HRr.out (.slice xa l.length xc) (.int .i64 n1) (.int .i64 n4)
            refine bodyPost_ret (v := .tuple #[.agg #[.slice xa l.length xc, .int .i64 n1, .int .i64 n4], .bool false]) (by simp [results, Tryz.results53, go_sem, j0, j1, j2]) rfl ?_
            refine ⟨(((HBr.out.setCell (p := ⟨w.heap.size, 0, none⟩) (Nat.le_refl _) _).setCell (p := ⟨w.heap.size, 1, none⟩) (Nat.le_refl _) _).setCell (p := ⟨w.heap.size, 2, none⟩) (Nat.le_refl _) _).drew, l, n1, n4, _, _, (by rw [HFIN.out]; try rfl), ?_, fun e => by rw [HFIN.out] at e; cases e⟩
            exact row_res3 (w2 := (wr.setCell ⟨u2.heap.size, 2, none⟩ (.int .i64 n4))) HBY.out.row (by omega) (by omega) _ _ _
          · cases g4
            · have HFIN : Hid ((parU t).2 = false) := by show _ = _; rw [HPB.out]; simp
              go_wp2_with (first | (go_at_call 51; (with_reducible refine (hN4 _).mono ?_); clear hN4; rintro e w' ⟨rfl, hw⟩; have hw2 := hw.symm; subst hw2; clear hw))
              clear b0 b1 b2 b3 b4 b5 r0 r1 r2 r3 r4 r5 hXw
              have HRr : Hid ((wr.setCell ⟨u2.heap.size, 2, none⟩ (.int .i64 n4)).heap[w.heap.size]? = some (.cells #[.slice none 0 0, .int .i64 0, .int .i64 0] 42 (0, 0))) := (Below.heap_setCell _ ⟨u2.heap.size, 2, none⟩ _ w.heap.size (Nat.ne_of_lt HRX.out)).trans HRo.out
              have HBr : Hid (Below w.heap.size w (wr.setCell ⟨u2.heap.size, 2, none⟩ (.int .i64 n4))) := HBo.out.setCell (p := ⟨u2.heap.size, 2, none⟩) (Nat.le_of_lt HRX.out) _
              have hRX : w.heap.size < u2.heap.size := HRX.out
              have hXl : u2.heap.size < u3.heap.size := HBY.out.lt
              obtain ⟨⟨b0, b1, b2⟩, b3, b4, b5⟩ := cells3F HBY.out.box
              obtain ⟨⟨r0, r1, r2⟩, r3, r4, r5⟩ := cells3F HRr.out
              have hXw := HBY.out.chg.size
              go_big_region
              go_wp2
              obtain ⟨j0, j1, j2⟩ := three_setU HRr.out (.slice xa l.length xc) (.int .i64 n1) (.int .i64 n4)
              refine bodyPost_ret (v := .tuple #[.agg #[.slice xa l.length xc, .int .i64 n1, .int .i64 n4], .bool false]) (by simp [results, Tryz.results53, go_sem, j0, j1, j2]) rfl ?_
              refine ⟨(((HBr.out.setCell (p := ⟨w.heap.size, 0, none⟩) (Nat.le_refl _) _).setCell (p := ⟨w.heap.size, 1, none⟩) (Nat.le_refl _) _).setCell (p := ⟨w.heap.size, 2, none⟩) (Nat.le_refl _) _).drew, l, n1, n4, _, _, (by rw [HFIN.out]; try rfl), ?_, fun e => by rw [HFIN.out] at e; cases e⟩
              exact row_res3 (w2 := (wr.setCell ⟨u2.heap.size, 2, none⟩ (.int .i64 n4))) HBY.out.row (by omega) (by omega) _ _ _
            · by_cases haf : w3 = [97, 102, 116, 101, 114]
              · have eaf : ((str w3).toList == [97, 102, 116, 101, 114]) = true := by rw [str_is, decide_eq_true haf]
                have HAF : Hid (decide (w3 = [97, 102, 116, 101, 114]) = true) := decide_eq_true haf
                clear haf
                by_cases hp : 0 < n4
                · go_wp2_with (first | (go_at_call 51; (with_reducible refine (hN4 _).mono ?_); clear hN4; rintro e w' ⟨rfl, hw⟩; have hw2 := hw.symm; subst hw2; clear hw))
                  clear b0 b1 b2 b3 b4 b5 r0 r1 r2 r3 r4 r5 hXw
                  have HRr : Hid ((wr.setCell ⟨u2.heap.size, 2, none⟩ (.int .i64 n4)).heap[w.heap.size]? = some (.cells #[.slice none 0 0, .int .i64 0, .int .i64 0] 42 (0, 0))) := (Below.heap_setCell _ ⟨u2.heap.size, 2, none⟩ _ w.heap.size (Nat.ne_of_lt HRX.out)).trans HRo.out
                  have HBr : Hid (Below w.heap.size w (wr.setCell ⟨u2.heap.size, 2, none⟩ (.int .i64 n4))) := HBo.out.setCell (p := ⟨u2.heap.size, 2, none⟩) (Nat.le_of_lt HRX.out) _
                  have hRX : w.heap.size < u2.heap.size := HRX.out
                  have hXl : u2.heap.size < u3.heap.size := HBY.out.lt
                  obtain ⟨⟨b0, b1, b2⟩, b3, b4, b5⟩ := cells3F HBY.out.box
                  obtain ⟨⟨r0, r1, r2⟩, r3, r4, r5⟩ := cells3F HRr.out
                  have hXw := HBY.out.chg.size
                  have hF := l2Fault_any u2.heap.size l.length xc xa l n1 n4 (World.drew (wr.setCell ⟨u2.heap.size, 2, none⟩ (.int .i64 n4))) hll ((iat_row HBY.out.row rfl).below (Below.refl _ _).drew (Nat.le_refl _)) HBY.out.box
                  obtain ⟨cf, hcf⟩ : ∃ c, c = ruleR l n1 n4 := ⟨_, rfl⟩
                  rw [← hcf] at hF
                  have HFIN : Hid ((parU t).2 = decide (cf = 0) ∧ (parU t).1 = (l, n1, n4)) := by rw [HPB.out, ← HL.out, hcf]; exact ⟨fin5_t HKA.out rfl HAF.out hp, rfl⟩
                  clear hcf
                  have hFd : Calls Tryz.prog 79 #[.pointer (some ⟨u2.heap.size, 0, none⟩)] (World.drew (wr.setCell ⟨u2.heap.size, 2, none⟩ (.int .i64 n4))) fun e w' => e = .returned (.int .i64 cf) ∧ Below (World.heap (wr.setCell ⟨u2.heap.size, 2, none⟩ (.int .i64 n4))).size (wr.setCell ⟨u2.heap.size, 2, none⟩ (.int .i64 n4)) w' := hF.mono fun e w' h => ⟨h.1, (Below.refl _ _).drew.trans h.2⟩
                  clear hF

                  go_region_held3 (fun w' => w'.cell? ⟨u2.heap.size, 0, none⟩ = some (.slice xa l.length xc) ∧ w'.cell? ⟨u2.heap.size, 1, none⟩ = some (.int .i64 n1) ∧ w'.cell? ⟨u2.heap.size, 2, none⟩ = some (.int .i64 n4)) (first | go_keep | exact keepR3 ⟨z0, z1, z2⟩ (by omega))
                    (first | (go_at_call 79; (with_reducible refine hFd.mono ?_); clear hFd; rintro e w6 ⟨rfl, hb6⟩; obtain ⟨z0, z1, z2⟩ := cellsK3 hb6 (by omega) ⟨b0, b1, b2⟩; have HR6 : Hid (w6.heap[w.heap.size]? = some (.cells #[.slice none 0 0, .int .i64 0, .int .i64 0] 42 (0, 0))) := (hb6.block _ (lt_of_block HRr.out)).trans HRr.out; obtain ⟨⟨q0, q1, q2⟩, q3, q4, q5⟩ := cells3F HR6.out))
                  go_wp2
                  obtain ⟨j0, j1, j2⟩ := three_setU HR6.out (.slice xa l.length xc) (.int .i64 n1) (.int .i64 n4)
                  refine bodyPost_ret (v := .tuple #[.agg #[.slice xa l.length xc, .int .i64 n1, .int .i64 n4], .bool (cf == 0)]) (by simp [results, Tryz.results53, go_sem, j0, j1, j2]) rfl ?_
                  have HB6 : Below w.heap.size w w6 := HBr.out.trans (hb6.mono HBr.out.size)
                  refine ⟨(((HB6.setCell (p := ⟨w.heap.size, 0, none⟩) (Nat.le_refl _) _).setCell (p := ⟨w.heap.size, 1, none⟩) (Nat.le_refl _) _).setCell (p := ⟨w.heap.size, 2, none⟩) (Nat.le_refl _) _), l, n1, n4, _, _, by rw [HFIN.out.1]; first | rfl | (congr 4; by_cases h : cf = 0 <;> simp [h]), ?_, fun _ => HFIN.out.2⟩
                  exact row_res3 (row_on HBY.out.row hb6) (by omega) (by omega) _ _ _

                · have HFIN : Hid ((parU t).2 = false) := by show _ = _; rw [HPB.out]; simp [hp]
                  have hd0 : decide (0 < n4) = false := decide_eq_false hp
                  have hd1 : decide (n4 > 0) = false := decide_eq_false hp
                  go_wp2_with (first | (go_at_call 51; (with_reducible refine (hN4 _).mono ?_); clear hN4; rintro e w' ⟨rfl, hw⟩; have hw2 := hw.symm; subst hw2; clear hw))
                  clear b0 b1 b2 b3 b4 b5 r0 r1 r2 r3 r4 r5 hXw
                  have HRr : Hid ((wr.setCell ⟨u2.heap.size, 2, none⟩ (.int .i64 n4)).heap[w.heap.size]? = some (.cells #[.slice none 0 0, .int .i64 0, .int .i64 0] 42 (0, 0))) := (Below.heap_setCell _ ⟨u2.heap.size, 2, none⟩ _ w.heap.size (Nat.ne_of_lt HRX.out)).trans HRo.out
                  have HBr : Hid (Below w.heap.size w (wr.setCell ⟨u2.heap.size, 2, none⟩ (.int .i64 n4))) := HBo.out.setCell (p := ⟨u2.heap.size, 2, none⟩) (Nat.le_of_lt HRX.out) _
                  have hRX : w.heap.size < u2.heap.size := HRX.out
                  have hXl : u2.heap.size < u3.heap.size := HBY.out.lt
                  obtain ⟨⟨b0, b1, b2⟩, b3, b4, b5⟩ := cells3F HBY.out.box
                  obtain ⟨⟨r0, r1, r2⟩, r3, r4, r5⟩ := cells3F HRr.out
                  have hXw := HBY.out.chg.size
                  go_big_region
                  go_wp2
                  obtain ⟨j0, j1, j2⟩ := three_setU HRr.out (.slice xa l.length xc) (.int .i64 n1) (.int .i64 n4)
                  refine bodyPost_ret (v := .tuple #[.agg #[.slice xa l.length xc, .int .i64 n1, .int .i64 n4], .bool false]) (by simp [results, Tryz.results53, go_sem, j0, j1, j2]) rfl ?_
                  refine ⟨(((HBr.out.setCell (p := ⟨w.heap.size, 0, none⟩) (Nat.le_refl _) _).setCell (p := ⟨w.heap.size, 1, none⟩) (Nat.le_refl _) _).setCell (p := ⟨w.heap.size, 2, none⟩) (Nat.le_refl _) _).drew, l, n1, n4, _, _, (by rw [HFIN.out]; try rfl), ?_, fun e => by rw [HFIN.out] at e; cases e⟩
                  exact row_res3 (w2 := (wr.setCell ⟨u2.heap.size, 2, none⟩ (.int .i64 n4))) HBY.out.row (by omega) (by omega) _ _ _

              · have eaf : ((str w3).toList == [97, 102, 116, 101, 114]) = false := by rw [str_is, decide_eq_false haf]
                have HFIN : Hid ((parU t).2 = false) := by show _ = _; rw [HPB.out]; simp [haf]
                clear haf
                go_wp2_with (first | (go_at_call 51; (with_reducible refine (hN4 _).mono ?_); clear hN4; rintro e w' ⟨rfl, hw⟩; have hw2 := hw.symm; subst hw2; clear hw))
                clear b0 b1 b2 b3 b4 b5 r0 r1 r2 r3 r4 r5 hXw
                have HRr : Hid ((wr.setCell ⟨u2.heap.size, 2, none⟩ (.int .i64 n4)).heap[w.heap.size]? = some (.cells #[.slice none 0 0, .int .i64 0, .int .i64 0] 42 (0, 0))) := (Below.heap_setCell _ ⟨u2.heap.size, 2, none⟩ _ w.heap.size (Nat.ne_of_lt HRX.out)).trans HRo.out
                have HBr : Hid (Below w.heap.size w (wr.setCell ⟨u2.heap.size, 2, none⟩ (.int .i64 n4))) := HBo.out.setCell (p := ⟨u2.heap.size, 2, none⟩) (Nat.le_of_lt HRX.out) _
                have hRX : w.heap.size < u2.heap.size := HRX.out
                have hXl : u2.heap.size < u3.heap.size := HBY.out.lt
                obtain ⟨⟨b0, b1, b2⟩, b3, b4, b5⟩ := cells3F HBY.out.box
                obtain ⟨⟨r0, r1, r2⟩, r3, r4, r5⟩ := cells3F HRr.out
                have hXw := HBY.out.chg.size
                go_big_region
                go_wp2
                obtain ⟨j0, j1, j2⟩ := three_setU HRr.out (.slice xa l.length xc) (.int .i64 n1) (.int .i64 n4)
                refine bodyPost_ret (v := .tuple #[.agg #[.slice xa l.length xc, .int .i64 n1, .int .i64 n4], .bool false]) (by simp [results, Tryz.results53, go_sem, j0, j1, j2]) rfl ?_
                refine ⟨(((HBr.out.setCell (p := ⟨w.heap.size, 0, none⟩) (Nat.le_refl _) _).setCell (p := ⟨w.heap.size, 1, none⟩) (Nat.le_refl _) _).setCell (p := ⟨w.heap.size, 2, none⟩) (Nat.le_refl _) _).drew, l, n1, n4, _, _, (by rw [HFIN.out]; try rfl), ?_, fun e => by rw [HFIN.out] at e; cases e⟩
                exact row_res3 (w2 := (wr.setCell ⟨u2.heap.size, 2, none⟩ (.int .i64 n4))) HBY.out.row (by omega) (by omega) _ _ _
    · have eof : ((str w1).toList == [111, 102]) = false := by rw [str_is, decide_eq_false hof]
      have HPB : Hid ((parU t).2 = false) := by show _ = _; unfold parU; rw [hw]; simp only [if_neg hof]
      clear hcut hw hsub hof
      go_enter Tryz.func53, Tryz.ntmps53
      go_wp2_with (first
        | (go_at_call 50; (with_reducible refine hcut'.mono ?_); clear hcut'; rintro e u2 ⟨g, vc, rfl, HO2, HB2⟩; obtain ⟨s0, s1, s2, s3, s4⟩ := row_cells5 HO2.out; have HR2 : Hid (u2.heap[w.heap.size]? = some (.cells #[.slice none 0 0, .int .i64 0, .int .i64 0] 42 (0, 0))) := (HB2.out.block w.heap.size (by omega)).trans HR1.out; obtain ⟨⟨r0, r1, r2⟩, r3, r4, r5⟩ := cells3F HR2.out))
      obtain ⟨j0, j1, j2⟩ := three_setU HR2.out (.slice none 0 0) (.int .i64 0) (.int .i64 0)
      refine bodyPost_ret (v := .tuple #[.agg #[.slice none 0 0, .int .i64 0, .int .i64 0], .bool false]) (by simp [results, Tryz.results53, go_sem, j0, j1, j2]) rfl ?_
      have HBr : Below w.heap.size w u2 := HB1.out.trans (HB2.out.mono (by omega))
      exact ⟨(((HBr.setCell (p := ⟨w.heap.size, 0, none⟩) (Nat.le_refl _) _).setCell (p := ⟨w.heap.size, 1, none⟩) (Nat.le_refl _) _).setCell (p := ⟨w.heap.size, 2, none⟩) (Nat.le_refl _) _), [], 0, 0, none, 0, by rw [HPB.out]; rfl, World.ownsRow_nil _ _ _ _, fun e => by rw [HPB.out] at e; cases e⟩

  have HPB : Hid ((parU t).2 = false) := parU_short h3 h5
  have hcut' : Calls Tryz.prog 50 #[.string (str t), .int .u8 32] (w.alloc (.cells #[.slice none 0 0, .int .i64 0, .int .i64 0] 42)) fun e w' => ∃ va vc, e = .returned (.slice va (cutL 32 t).length vc) ∧ Hid (Below (w.heap.size + 1) (w.alloc (.cells #[.slice none 0 0, .int .i64 0, .int .i64 0] 42)) w') := hcut.mono fun e w' ⟨va, vc, e1, _, hb⟩ => ⟨va, vc, e1, by rw [hsz1] at hb; exact hb⟩
  obtain ⟨N, hN⟩ : ∃ N, N = (cutL 32 t).length := ⟨_, rfl⟩
  rw [← hN] at hcut' h5 h3
  have hn5 : ((N : Int) == 5) = false := by simp; omega
  have hn6 : (N == 5) = false := by simp; omega
  have hn3 : ((N : Int) == 3) = false := by simp; omega
  have hn4 : (N == 3) = false := by simp; omega
  clear hcut hN
  go_enter Tryz.func53, Tryz.ntmps53
  go_wp2_with (first
    | (go_at_call 50; (with_reducible refine hcut'.mono ?_); clear hcut'; rintro e u2 ⟨va, vc, rfl, HB2⟩; have HR2 : Hid (u2.heap[w.heap.size]? = some (.cells #[.slice none 0 0, .int .i64 0, .int .i64 0] 42 (0, 0))) := (HB2.out.block w.heap.size (by omega)).trans HR1.out; obtain ⟨⟨r0, r1, r2⟩, r3, r4, r5⟩ := cells3F HR2.out))
  obtain ⟨j0, j1, j2⟩ := three_setU HR2.out (.slice none 0 0) (.int .i64 0) (.int .i64 0)
  refine bodyPost_ret (v := .tuple #[.agg #[.slice none 0 0, .int .i64 0, .int .i64 0], .bool false]) (by simp [results, Tryz.results53, go_sem, j0, j1, j2]) rfl ?_
  have HBr : Below w.heap.size w u2 := HB1.out.trans (HB2.out.mono (by omega))
  exact ⟨(((HBr.setCell (p := ⟨w.heap.size, 0, none⟩) (Nat.le_refl _) _).setCell (p := ⟨w.heap.size, 1, none⟩) (Nat.le_refl _) _).setCell (p := ⟨w.heap.size, 2, none⟩) (Nat.le_refl _) _), [], 0, 0, none, 0, by rw [HPB.out]; rfl, World.ownsRow_nil _ _ _ _, fun e => by rw [HPB.out] at e; cases e⟩

end Go.Proofs.YtciefdphjkjikaaGreatDoor
