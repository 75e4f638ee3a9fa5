/- The specification's ParseBlock keeps its contract. -/
import Derived.Test.YtlacmcedpphphaaDoorGc
import Derived.Test.YtlacmcedpphphaaDoorMk
import Derived.Test.YtlacmcedpphphaaDoorCm
namespace Go.Proofs.YtlacmcedpphphaaDoor
open Go.RowKit Go.Shelf Go.Maps Go.WideMaps

/-- A block read, and whether it was one: its numbers in memory of their own. -/
def OutP (w w' : World) (e : Ending) (t : List UInt8) : Prop := Below w.heap.size w w' ∧ ∃ (p h m : Int) (l : List Int) (va : Option Addr) (vc : Nat), e = .returned (.tuple #[.agg #[.int .i64 p, .int .i64 h, .int .i64 m, .slice va l.length vc], .bool (parB t).2]) ∧ w'.ownsRow w.heap.size 2 1 (.slice va l.length vc) l.length (ints l) ∧ ((parB t).2 = true → (parB t).1 = (p, h, m, l))
theorem int_added {W : World} {lo j : Nat} {v : Value} {xs : List Value} {k : Int} (h : W.ownsRow lo 2 1 v j xs) (hj : j ≤ 4000000) (hlo : lo ≤ W.heap.size) :
    ∃ g cap w5, (Builtin.append_ #[25, 25] 25 #[v, .slice (some ⟨W.heap.size, 0, none⟩) 1 1]).run Tryd.prog (W.alloc (.cells #[.int .i64 k] 2)) = .ok (.slice (some ⟨g, 0, none⟩) (j + 1) cap) w5 ∧
      Hid (w5.ownsRow lo 2 1 (.slice (some ⟨g, 0, none⟩) (j + 1) cap) (j + 1) (xs ++ [.int .i64 k]) ∧ Below lo W w5) := by
  obtain ⟨i0, hi, hz0, hz1, hz2⟩ := info_parts Tryd.infoI64
  obtain ⟨v', w5, hrun, hown', hgrow, hsome⟩ := run_append_own (P := Tryd.prog) (W.alloc (.cells #[.int .i64 k] 2)) lo 25 25 2 i0 (.int .i64 0) 1 8 Tryd.underlying25 hi hz0 hz1 hz2 rfl (by decide) v j xs (h.alloc _) ⟨W.heap.size, 0, none⟩ 1 1 [.int .i64 k] rfl (World.news_of_block (heap_alloc_new _ _)) (by
    intro z hz
    simp only [List.mem_cons, List.not_mem_nil, or_false] at hz
    rw [hz]; rfl) (by unfold maxLen; omega) (by omega) (by simp; omega)
  obtain ⟨g, cap, rfl⟩ := ownsRow_succ hown'
  exact ⟨g, cap, w5, hrun, hown', ((below_box _).mono hlo).grown hgrow (by simp; omega) (fun k hk => (h.lt k hk).1)⟩
theorem ints_more (l : List Int) (k : Int) : ints (l ++ [k]) = ints l ++ [.int .i64 k] := by simp [ints]
theorem cut_five {t : List UInt8} (h : (cutL 32 t).length = 5) : ∃ w0 w1 w2 w3 w4, cutL 32 t = [w0, w1, w2, w3, w4] := by
  match e : cutL 32 t, h with
  | [w0, w1, w2, w3, w4], _ => exact ⟨w0, w1, w2, w3, w4, rfl⟩
theorem parB_short {t : List UInt8} (h : (cutL 32 t).length ≠ 5) : (parB t).2 = false := by
  unfold parB
  split
  · rename_i w0 w1 w2 w3 w4 hw
    rw [hw] at h
    exact absurd rfl h
  · rfl
theorem parB_other {t w0 w1 w2 w3 w4 : List UInt8} (hw : cutL 32 t = [w0, w1, w2, w3, w4]) (h : ¬ w0 = [98, 108, 111, 99, 107]) : (parB t).2 = false := by
  unfold parB
  rw [hw]
  simp only [if_neg h]
theorem parB_five {t w0 w1 w2 w3 w4 : List UInt8} (hw : cutL 32 t = [w0, w1, w2, w3, w4]) (h : w0 = [98, 108, 111, 99, 107]) : parB t = (((numR w1 2).1, (numR w2 2).1, (numR w3 3).1, (txsP w4).1), (numR w1 2).2 && (numR w2 2).2 && (numR w3 3).2 && (txsP w4).2 && decide (blR (numR w1 2).1 (numR w2 2).1 (numR w3 3).1 (txsP w4).1 = 0)) := by
  unfold parB
  rw [hw]
  simp only [if_pos h]
theorem row_cells5 {w : World} {base g vc : Nat} {w0 w1 w2 w3 w4 : List UInt8} (h : w.ownsRow base 9 1 (.slice (some ⟨g, 0, none⟩) 5 vc) 5 (texts [w0, w1, w2, w3, w4])) :
    w.cell? ⟨g, 0, none⟩ = some (.string (str w0)) ∧ w.cell? ⟨g, 1, none⟩ = some (.string (str w1)) ∧ w.cell? ⟨g, 2, none⟩ = some (.string (str w2)) ∧ w.cell? ⟨g, 3, none⟩ = some (.string (str w3)) ∧ w.cell? ⟨g, 4, none⟩ = some (.string (str w4)) :=
  ⟨h.cellAt 0 (by omega), h.cellAt 1 (by omega), h.cellAt 2 (by omega), h.cellAt 3 (by omega), h.cellAt 4 (by omega)⟩
theorem cut5_len {t w0 w1 w2 w3 w4 : List UInt8} (hw : cutL 32 t = [w0, w1, w2, w3, w4]) : w4.length + 4 ≤ t.length := by
  have h := join_cut 32 t
  rw [hw] at h
  rw [← h]
  simp [Lib.join, List.intercalate, List.intersperse]
  omega
theorem row_some {w : World} {base n vc : Nat} {va : Option Addr} {e : TypeId} {size : Nat} {xs : List Value} (h : w.ownsRow base e size (.slice va n vc) n xs) (hn : n ≠ 0) : ∃ g, va = some ⟨g, 0, none⟩ := by
  rcases h.2 with ⟨q, q0⟩ | ⟨g, cap, cur, q, _⟩
  · exact absurd q0 hn
  · cases q; exact ⟨g, rfl⟩
theorem str_is (a b : List UInt8) : ((str a).toList == b) = decide (a = b) := by
  have e : (str a).toList = a := by simp [str]
  rw [e]
  by_cases h : a = b
  · rw [h]; simp
  · rw [decide_eq_false h]; exact beq_false_of_ne h
theorem take_nextL {l : List (List UInt8)} {k : Nat} {x : List UInt8} (hk : k < l.length) (hx : x = l.getD k []) : l.take (k + 1) = l.take k ++ [x] := by
  rw [List.take_add_one, hx]
  simp [List.getD, hk]
theorem fin_f {g z d : Bool} (h : false = (g && z)) : (true && true && g && z && d) = false := by cases g <;> cases z <;> first | rfl | cases h
theorem fin_t {g z d : Bool} (h : true = (g && z)) : (true && true && g && z && d) = d := by cases g <;> cases z <;> first | (cases d <;> rfl) | cases h
theorem row_caps {w : World} {base n vc : Nat} {va : Option Addr} {xs : List Value} (h : w.ownsRow base 2 1 (.slice va n vc) n xs) : n ≤ vc ∧ vc ≤ maxLen := by
  rcases h.2 with ⟨q, q0⟩ | ⟨g, cap, cur, q, _, _, k1, k2, _⟩
  · cases q; exact ⟨Nat.le_refl _, by unfold maxLen; omega⟩
  · cases q; exact ⟨k1, k2⟩
theorem iat_row {w : World} {base n vc : Nat} {va : Option Addr} {l : List Int} (h : w.ownsRow base 2 1 (.slice va n vc) n (ints l)) (hn : l.length = n) : IAt w va n l := IAt.owned h hn
/-- The block under way in X. -/
structure BX (w3 wr : World) (X : Nat) (p h m : Int) (xa : Option Addr) (l : List Int) (xc : Nat) : Prop where
  box : wr.heap[X]? = some (.cells #[.int .i64 p, .int .i64 h, .int .i64 m, .slice xa l.length xc] 27 (0, 0))
  row : wr.ownsRow w3.heap.size 2 1 (.slice xa l.length xc) l.length (ints l)
  chg : Chg w3 wr X (X + 1)
  lt : X < w3.heap.size
theorem BX.add {w3 wr w5 : World} {X : Nat} {p h m : Int} {xa : Option Addr} {l : List Int} {xc g cap : Nat} {k : Int} (H : BX w3 wr X p h m xa l xc) (h5 : w5.ownsRow w3.heap.size 2 1 (.slice (some ⟨g, 0, none⟩) (l.length + 1) cap) (l.length + 1) (ints l ++ [.int .i64 k])) (hb : Below w3.heap.size wr w5) :
    BX w3 (w5.setCell ⟨X, 3, none⟩ (.slice (some ⟨g, 0, none⟩) (l.length + 1) cap)) X p h m (some ⟨g, 0, none⟩) (l ++ [k]) cap := by
  have hX := (hb.block X H.lt).trans H.box
  have b1 := Joins.block_setCell (i := 3) hX (.slice (some ⟨g, 0, none⟩) (l.length + 1) cap)
  have hc5 : Chg w3 w5 X (X + 1) := ⟨hb.os.trans H.chg.os, hb.tape.trans H.chg.tape, hb.output.trans H.chg.output, Nat.le_trans H.chg.size hb.size, fun b hb1 hd => (hb.block b hb1).trans (H.chg.block b hb1 hd)⟩
  refine ⟨?_, ?_, hc5.setCell ⟨Nat.le_refl _, by omega⟩ _, H.lt⟩
  · rw [List.length_append, List.length_singleton]; simpa using b1
  · rw [List.length_append, List.length_singleton, ints_more]
    exact ownsRow_setCell_below h5 (a := ⟨X, 3, none⟩) H.lt _
theorem Chg.cell {w w' : World} {lo hi b i : Nat} (h : Chg w w' lo hi) (hb : b < w.heap.size) (hd : b < lo ∨ hi ≤ b) : w'.cell? ⟨b, i, none⟩ = w.cell? ⟨b, i, none⟩ := World.cell?_of_block (h.block b hb hd)
theorem four_set_heap {w : World} {b : Nat} {c : Nat} (hne : c ≠ b) (v0 v1 v2 v3 : Value) : ((((w.setCell ⟨b, 0, none⟩ v0).setCell ⟨b, 1, none⟩ v1).setCell ⟨b, 2, none⟩ v2).setCell ⟨b, 3, none⟩ v3).heap[c]? = w.heap[c]? :=
  (Below.heap_setCell _ ⟨b, 3, none⟩ _ c hne).trans ((Below.heap_setCell _ ⟨b, 2, none⟩ _ c hne).trans ((Below.heap_setCell _ ⟨b, 1, none⟩ _ c hne).trans (Below.heap_setCell _ ⟨b, 0, none⟩ _ c hne)))
theorem cells_heap {V W : World} {b : Nat} {v0 v1 v2 v3 : Value} (k : V.heap[b]? = W.heap[b]?) (h : W.cell? ⟨b, 0, none⟩ = some v0 ∧ W.cell? ⟨b, 1, none⟩ = some v1 ∧ W.cell? ⟨b, 2, none⟩ = some v2 ∧ W.cell? ⟨b, 3, none⟩ = some v3) :
    V.cell? ⟨b, 0, none⟩ = some v0 ∧ V.cell? ⟨b, 1, none⟩ = some v1 ∧ V.cell? ⟨b, 2, none⟩ = some v2 ∧ V.cell? ⟨b, 3, none⟩ = some v3 :=
  ⟨(World.cell?_of_block k).trans h.1, (World.cell?_of_block k).trans h.2.1, (World.cell?_of_block k).trans h.2.2.1, (World.cell?_of_block k).trans h.2.2.2⟩
theorem keepR4 {W : World} {b R : Nat} {v0 v1 v2 v3 u0 u1 u2 u3 : Value} (h : W.cell? ⟨b, 0, none⟩ = some v0 ∧ W.cell? ⟨b, 1, none⟩ = some v1 ∧ W.cell? ⟨b, 2, none⟩ = some v2 ∧ W.cell? ⟨b, 3, none⟩ = some v3) (hne : b ≠ R) :
    ((((W.setCell ⟨R, 0, none⟩ u0).setCell ⟨R, 1, none⟩ u1).setCell ⟨R, 2, none⟩ u2).setCell ⟨R, 3, none⟩ u3).cell? ⟨b, 0, none⟩ = some v0 ∧ ((((W.setCell ⟨R, 0, none⟩ u0).setCell ⟨R, 1, none⟩ u1).setCell ⟨R, 2, none⟩ u2).setCell ⟨R, 3, none⟩ u3).cell? ⟨b, 1, none⟩ = some v1 ∧ ((((W.setCell ⟨R, 0, none⟩ u0).setCell ⟨R, 1, none⟩ u1).setCell ⟨R, 2, none⟩ u2).setCell ⟨R, 3, none⟩ u3).cell? ⟨b, 2, none⟩ = some v2 ∧ ((((W.setCell ⟨R, 0, none⟩ u0).setCell ⟨R, 1, none⟩ u1).setCell ⟨R, 2, none⟩ u2).setCell ⟨R, 3, none⟩ u3).cell? ⟨b, 3, none⟩ = some v3 := by
  exact cells_heap (four_set_heap hne u0 u1 u2 u3) h
theorem cellsK {B : Nat} {w w' : World} {b : Nat} {v0 v1 v2 v3 : Value} (hb : Below B w w') (hl : b < B) (h : w.cell? ⟨b, 0, none⟩ = some v0 ∧ w.cell? ⟨b, 1, none⟩ = some v1 ∧ w.cell? ⟨b, 2, none⟩ = some v2 ∧ w.cell? ⟨b, 3, none⟩ = some v3) :
    w'.cell? ⟨b, 0, none⟩ = some v0 ∧ w'.cell? ⟨b, 1, none⟩ = some v1 ∧ w'.cell? ⟨b, 2, none⟩ = some v2 ∧ w'.cell? ⟨b, 3, none⟩ = some v3 :=
  ⟨(hb.cell (p := ⟨b, 0, none⟩) hl).trans h.1, (hb.cell (p := ⟨b, 1, none⟩) hl).trans h.2.1, (hb.cell (p := ⟨b, 2, none⟩) hl).trans h.2.2.1, (hb.cell (p := ⟨b, 3, none⟩) hl).trans h.2.2.2⟩

set_option maxRecDepth 20000 in
set_option maxHeartbeats 8000000 in
theorem l7Parse_any (t : List UInt8) (w : World) (ht : t.length ≤ 1048576) :
    Calls Tryd.prog 25 #[.string (str t)] w fun e w' => OutP w w' e t := by
  have HB1 : Hid (Below w.heap.size w (w.alloc (.cells #[.int .i64 0, .int .i64 0, .int .i64 0, .slice none 0 0] 27))) := below_box _
  have HR1 : Hid ((w.alloc (.cells #[.int .i64 0, .int .i64 0, .int .i64 0, .slice none 0 0] 27)).heap[w.heap.size]? = some (.cells #[.int .i64 0, .int .i64 0, .int .i64 0, .slice none 0 0] 27 (0, 0))) := heap_alloc_new _ _
  have hcut := l2Cut_any t 32 (w.alloc (.cells #[.int .i64 0, .int .i64 0, .int .i64 0, .slice none 0 0] 27)) ht
  have hsz1 : (w.alloc (.cells #[.int .i64 0, .int .i64 0, .int .i64 0, .slice none 0 0] 27)).heap.size = w.heap.size + 1 := by simp
  by_cases h5 : (cutL 32 t).length = 5
  · obtain ⟨w0, w1, w2, w3, w4, hw⟩ := cut_five h5
    rw [hw] at hcut
    have hsub : ∀ x ∈ cutL 32 t, x.length ≤ 1048576 := fun x hx => Nat.le_trans (cutL_sub 32 t x hx) ht
    rw [hw] at hsub
    have hl1 := hsub w1 (by simp)
    have hl2 := hsub w2 (by simp)
    have hl3 := hsub w3 (by simp)
    have hl4 := hsub w4 (by simp)
    have hcut' : Calls Tryd.prog 43 #[.string (str t), .int .u8 32] (w.alloc (.cells #[.int .i64 0, .int .i64 0, .int .i64 0, .slice none 0 0] 27)) fun e w' => ∃ g vc, e = .returned (.slice (some ⟨g, 0, none⟩) 5 vc) ∧ Hid (w'.ownsRow (w.heap.size + 1) 9 1 (.slice (some ⟨g, 0, none⟩) 5 vc) 5 (texts [w0, w1, w2, w3, w4])) ∧ Hid (Below (w.heap.size + 1) (w.alloc (.cells #[.int .i64 0, .int .i64 0, .int .i64 0, .slice none 0 0] 27)) w') := by
      refine hcut.mono fun e w' ⟨va, vc, e1, hO, hb⟩ => ?_
      obtain ⟨g, rfl⟩ := row_some hO (by simp)
      rw [hsz1] at hO hb
      exact ⟨g, vc, e1, hO, hb⟩
    by_cases hbk : w0 = [98, 108, 111, 99, 107]
    · have ebk : ((str w0).toList == [98, 108, 111, 99, 107]) = true := by rw [str_is, decide_eq_true hbk]
      have HPB : Hid (parB t = (((numR w1 2).1, (numR w2 2).1, (numR w3 3).1, (txsP w4).1), (numR w1 2).2 && (numR w2 2).2 && (numR w3 3).2 && (txsP w4).2 && decide (blR (numR w1 2).1 (numR w2 2).1 (numR w3 3).1 (txsP w4).1 = 0))) := parB_five hw hbk
      obtain ⟨n1, hn1⟩ : ∃ x, x = (numR w1 2).1 := ⟨_, rfl⟩
      obtain ⟨n2, hn2⟩ : ∃ x, x = (numR w2 2).1 := ⟨_, rfl⟩
      obtain ⟨n3, hn3⟩ : ∃ x, x = (numR w3 3).1 := ⟨_, rfl⟩
      obtain ⟨g1, hg1⟩ : ∃ x, x = (numR w1 2).2 := ⟨_, rfl⟩
      obtain ⟨g2, hg2⟩ : ∃ x, x = (numR w2 2).2 := ⟨_, rfl⟩
      obtain ⟨g3, hg3⟩ : ∃ x, x = (numR w3 3).2 := ⟨_, rfl⟩
      rw [← hn1, ← hn2, ← hn3, ← hg1, ← hg2, ← hg3] at HPB
      have hN1 : ∀ u, Calls Tryd.prog 44 #[.string (str w1), .int .i64 2] u fun e w' => e = .returned (.tuple #[.int .i64 n1, .bool g1]) ∧ w' = u := fun u => by rw [hn1, hg1]; exact l2Number_any w1 2 u hl1 (by omega)
      have hN2 : ∀ u, Calls Tryd.prog 44 #[.string (str w2), .int .i64 2] u fun e w' => e = .returned (.tuple #[.int .i64 n2, .bool g2]) ∧ w' = u := fun u => by rw [hn2, hg2]; exact l2Number_any w2 2 u hl2 (by omega)
      have hN3 : ∀ u, Calls Tryd.prog 44 #[.string (str w3), .int .i64 3] u fun e w' => e = .returned (.tuple #[.int .i64 n3, .bool g3]) ∧ w' = u := fun u => by rw [hn3, hg3]; exact l2Number_any w3 3 u hl3 (by omega)
      obtain ⟨ls, hls⟩ : ∃ x, x = cutL 43 w4 := ⟨_, rfl⟩
      have HL4 : Hid (ls.length ≤ 1048576) := by show _ ≤ _; rw [hls]; have := cutL_len 43 w4; have := cut5_len hw; omega
      have HSUB : Hid (∀ x ∈ ls, x.length ≤ 1048576) := fun x hx => Nat.le_trans (cutL_sub 43 w4 x (by rw [← hls]; exact hx)) hl4
      have HLN : Hid (1 ≤ ls.length ∧ ls.length ≤ 1048577) := ⟨by rw [hls]; exact List.length_pos_iff.2 (cutL_ne 43 w4), by rw [hls]; exact Nat.le_trans (cutL_len 43 w4) (by omega)⟩
      have HTX : Hid (txsP w4 = if w4 = [45] then ([], true) else (ls.map fun x => (numR x 2).1, ls.all fun x => (numR x 2).2)) := by show _ = _; rw [hls]; rfl
      have HCUT2 : Hid (∀ W, Calls Tryd.prog 43 #[.string (str w4), .int .u8 43] W fun e w' => ∃ g vc, e = .returned (.slice (some ⟨g, 0, none⟩) ls.length vc) ∧ Hid (w'.ownsRow W.heap.size 9 1 (.slice (some ⟨g, 0, none⟩) ls.length vc) ls.length (texts ls)) ∧ Hid (Below W.heap.size W w')) := fun W => by
        rw [hls]
        refine (l2Cut_any w4 43 W hl4).mono fun e w' ⟨va, vc, e1, hO, hb⟩ => ?_
        obtain ⟨g, rfl⟩ := row_some hO (fun e => by have := List.length_pos_iff.2 (cutL_ne 43 w4); omega)
        exact ⟨g, vc, e1, hO, hb⟩
      clear hcut hn1 hn2 hn3 hg1 hg2 hg3 hls hw h5 hsub hl1 hl2 hl3 hl4 hbk

      cases g1
      · skip
        go_enter Tryd.func25, Tryd.ntmps25
        go_wp2_with (first
          | (go_at_call 43; (first
              | ((with_reducible refine hcut'.mono ?_); clear hcut'; rintro e u2 ⟨g, vc, rfl, HO2, HB2⟩; obtain ⟨s0, s1, s2, s3, s4⟩ := row_cells5 HO2.out; have s4' : ∀ o, (u2.alloc o).cell? ⟨g, 4, none⟩ = some (.string (str w4)) := (fun o => kept1 o s4); have hC2 := HCUT2.out (u2.alloc (.cells #[.int .i64 n1, .int .i64 n2, .int .i64 n3, .slice none 0 0] 27)))
              | (have hq := hC2; clear hC2; (with_reducible refine hq.mono ?_); clear hq; rintro e u3 ⟨gl, vl, rfl, HO3, HB3⟩)))
          | (go_at_call 44; (first | ((with_reducible refine (hN1 _).mono ?_); clear hN1) | ((with_reducible refine (hN2 _).mono ?_); clear hN2) | ((with_reducible refine (hN3 _).mono ?_); clear hN3)); rintro e w' ⟨rfl, hw⟩; have hw2 := hw.symm; subst hw2; clear hw))
        have HRX : Hid (w.heap.size < u2.heap.size) := by have := HB2.out.size; simp at this; show _ < _; omega
        have HGX : Hid (g < u2.heap.size ∧ u2.heap.size < gl) := ⟨(HO2.out.lt g rfl).2, by have := (HO3.out.lt gl rfl).1; simp at this; omega⟩
        have HS3 : Hid (u2.heap.size < u3.heap.size) := by have := HB3.out.size; simp at this; show _ < _; omega
        have HBU : Hid (Below w.heap.size w u3) := (HB1.out.trans (HB2.out.mono (by omega))).trans ((below_box (.cells #[.int .i64 n1, .int .i64 n2, .int .i64 n3, .slice none 0 0] 27)).mono (by have := HRX.out; omega) |>.trans (HB3.out.mono (by have := HRX.out; simp; omega)))
        have HRU : Hid (u3.heap[w.heap.size]? = some (.cells #[.int .i64 0, .int .i64 0, .int .i64 0, .slice none 0 0] 27 (0, 0))) := (keepb (keepb ((HB2.out.block w.heap.size (by omega)).trans HR1.out) (below_box (.cells #[.int .i64 n1, .int .i64 n2, .int .i64 n3, .slice none 0 0] 27))).out HB3.out).out
        have HX0 : Hid (BX u3 u3 u2.heap.size n1 n2 n3 none [] 0) := ⟨(keepb (heap_alloc_new u2 _) HB3.out).out, World.ownsRow_nil _ _ _ _, Chg.refl _ _ _, HS3.out⟩
        have HW4 : Hid (u3.cell? ⟨g, 4, none⟩ = some (.string (str w4))) := (HB3.out.cell (p := ⟨g, 4, none⟩) (by have := HGX.out.1; simp; omega)).trans (s4' _)
        have c4 := HW4.out
        clear s0 s1 s2 s3 s4 s4'
        by_cases h45 : w4 = [45]
        · have e45 : ((str w4).toList == [45]) = true := by rw [str_is, decide_eq_true h45]
          have HBX := HX0
          have HRr := HRU
          have HBr := HBU
          have HL : Hid (([] : List Int) = (txsP w4).1) := by show _ = _; rw [HTX.out, if_pos h45]
          have HTR : Hid ((txsP w4).2 = true) := by show _ = _; rw [HTX.out, if_pos h45]
          clear h45
          have hp0 : (0 : Int) < (ls.length : Int) := by have := HLN.out.1; omega
          have hp1 : 0 < ls.length := HLN.out.1
          obtain ⟨b0, b1, b2, b3, b4, b5, b6, b7⟩ := cells4 HBX.out.box
          obtain ⟨r0, r1, r2, r3, r4, r5, r6, r7⟩ := cells4 HRr.out
          have hRX : w.heap.size < u2.heap.size := HRX.out
          obtain ⟨hca, hcb⟩ := row_caps HBX.out.row
          have hXl := HBX.out.lt
          have hXw := HBX.out.chg.size
          refine wp_loop_rounds 1 ?_
          rw [rounds_succ]
          go_wp2
          have HFIN : Hid ((parB t).2 = false) := by show _ = _; rw [HPB.out]; simp
          go_big_region
          go_wp2
          obtain ⟨j0, j1, j2, j3⟩ := four_set HRr.out (.int .i64 n1) (.int .i64 n2) (.int .i64 n3) (.slice none 0 0)
          refine bodyPost_ret (v := .tuple #[.agg #[.int .i64 n1, .int .i64 n2, .int .i64 n3, .slice none 0 0], .bool false]) (by simp [results, Tryd.results25, go_sem, j0, j1, j2, j3]) rfl ?_
          refine ⟨((((HBr.out.setCell (p := ⟨w.heap.size, 0, none⟩) (Nat.le_refl _) _).setCell (p := ⟨w.heap.size, 1, none⟩) (Nat.le_refl _) _).setCell (p := ⟨w.heap.size, 2, none⟩) (Nat.le_refl _) _).setCell (p := ⟨w.heap.size, 3, none⟩) (Nat.le_refl _) _).drew, n1, n2, n3, ([] : List Int), _, _, (by rw [HFIN.out]; try rfl), ?_, fun e => by rw [HFIN.out] at e; cases e⟩
          exact row_res4 (w2 := u3) HBX.out.row (by omega) (by omega) _ _ _ _
        · have e45 : ((str w4).toList == [45]) = false := by rw [str_is, decide_eq_false h45]
          have HTL : Hid ((txsP w4).1 = (ls.map fun x => (numR x 2).1) ∧ (txsP w4).2 = ls.all fun x => (numR x 2).2) := by rw [HTX.out, if_neg h45]; exact ⟨rfl, rfl⟩
          clear h45 c4
          go_loopw [12, 14] (fun okv i wr => ∃ j : Nat, j ≤ ls.length ∧ i = .int .i64 j ∧ ∃ kk : Bool, okv = .bool kk ∧ Hid (kk = (false && (ls.take j).all fun x => (numR x 2).2)) ∧ ∃ xa xc, ∃ l : List Int, Hid (l.length = j) ∧ Hid (l = (ls.take j).map fun x => (numR x 2).1) ∧ Hid (BX u3 wr u2.heap.size n1 n2 n3 xa l xc)) (fun _ i _ => ls.length - (intOf i).toNat)
          case atStart => exact ⟨0, Nat.zero_le _, rfl, _, rfl, by show _ = _; simp, none, 0, [], rfl, by show _ = _; simp, HX0.out⟩
          case round =>
            obtain ⟨j, hj, rfl, kk, rfl, HKK, xa, xc, l, HLJ, HLL, HBX⟩ := hrel
            have HRr : Hid (wr.heap[w.heap.size]? = some (.cells #[.int .i64 0, .int .i64 0, .int .i64 0, .slice none 0 0] 27 (0, 0))) := HBX.out.chg.keep HRU.out (.inl HRX.out)
            have HBr : Hid (Below w.heap.size w wr) := HBU.out.trans (HBX.out.chg.below (Nat.le_of_lt HRX.out) HBU.out.size)
            have c4 : wr.cell? ⟨g, 4, none⟩ = some (.string (str w4)) := (HBX.out.chg.cell (Nat.lt_trans HGX.out.1 HS3.out) (.inl HGX.out.1)).trans HW4.out
            by_cases hlt : j < ls.length
            · obtain ⟨x, hx⟩ : ∃ x, x = ls.getD j [] := ⟨_, rfl⟩
              have HX : Hid (x = ls.getD j []) := hx
              have hxm : x ∈ ls := by rw [hx, List.getD, List.getElem?_eq_getElem hlt]; exact List.getElem_mem _
              have cl : wr.cell? ⟨gl, j, none⟩ = some (.string (str x)) := by
                rw [HBX.out.chg.cell (HO3.out.lt gl rfl).2 (.inr HGX.out.2), HO3.out.cellAt j (by omega), hx]
                simp [texts, List.getD, hlt]
              obtain ⟨nx, hnx⟩ : ∃ q, q = (numR x 2).1 := ⟨_, rfl⟩
              obtain ⟨gx, hgx⟩ : ∃ q, q = (numR x 2).2 := ⟨_, rfl⟩
              have hNX : ∀ u, Calls Tryd.prog 44 #[.string (str x), .int .i64 2] u fun e w' => e = .returned (.tuple #[.int .i64 nx, .bool gx]) ∧ w' = u := fun u => by rw [hnx, hgx]; exact l2Number_any x 2 u (HSUB.out x hxm) (by omega)
              have HNX : Hid (nx = (numR x 2).1 ∧ gx = (numR x 2).2) := ⟨hnx, hgx⟩
              have hln := HLN.out.2
              obtain ⟨g5, cap, w5, hrun, HC5⟩ := int_added (W := wr) (k := nx) HBX.out.row (by rw [HLJ.out]; omega) HBX.out.chg.size
              obtain ⟨b0, b1, b2, b3, b4, b5, b6, b7⟩ := cells4 HBX.out.box
              obtain ⟨y0, y1, y2, y3, y4, y5, y6, y7⟩ := cells4 ((HC5.out.2.block u2.heap.size HBX.out.lt).trans HBX.out.box)
              have HBN := show Hid (BX u3 (w5.setCell ⟨u2.heap.size, 3, none⟩ (.slice (some ⟨g5, 0, none⟩) (l.length + 1) cap)) u2.heap.size n1 n2 n3 (some ⟨g5, 0, none⟩) (l ++ [nx]) cap) from HBX.out.add HC5.out.1 HC5.out.2
              have HLN2 : Hid (l ++ [nx] = (ls.take (j + 1)).map fun x => (numR x 2).1) := by show _ = _; rw [take_nextL hlt HX.out, List.map_append, ← HLL.out, HNX.out.1]; rfl
              have HK2 : Hid (∀ q, kk = q → (q && gx) = (false && (ls.take (j + 1)).all fun x => (numR x 2).2)) := fun q hq => by rw [← hq, take_nextL hlt HX.out, List.all_append, ← Bool.and_assoc, ← HKK.out, HNX.out.2]; simp
              have hki : (j : Int) < (ls.length : Int) := by omega
              clear hx hxm hnx hgx
              cases kk
              · have HK3 := HK2.out false rfl
                have HK4 : Hid (false = (false && (ls.take (j + 1)).all fun x => (numR x 2).2)) := by show _ = _; rw [← HK3]; simp
                clear HK3
                go_wp2_with (first
                  | (go_at_call 44; (with_reducible refine (hNX _).mono ?_); clear hNX; rintro e w' ⟨rfl, hw⟩; have hw2 := hw.symm; subst hw2; clear hw)
                  | (at_builtin; go_must (refine wpList_append_runC (by rfl) _ _ _ (by rfl) (by rfl) (by rfl) hrun ?_); clear hrun))
                go_roundw
                case rel => exact ⟨j + 1, by omega, by go_num, false, rfl, HK4, some ⟨g5, 0, none⟩, cap, l ++ [nx], by show _ = _; rw [List.length_append, HLJ.out]; rfl, HLN2, HBN⟩
                case measure => simp [intOf]; omega
              · have HK3 := HK2.out true rfl
                have HK4 : Hid (gx = (false && (ls.take (j + 1)).all fun x => (numR x 2).2)) := by show _ = _; rw [← HK3]; simp
                clear HK3
                go_wp2_with (first
                  | (go_at_call 44; (with_reducible refine (hNX _).mono ?_); clear hNX; rintro e w' ⟨rfl, hw⟩; have hw2 := hw.symm; subst hw2; clear hw)
                  | (at_builtin; go_must (refine wpList_append_runC (by rfl) _ _ _ (by rfl) (by rfl) (by rfl) hrun ?_); clear hrun))
                go_roundw
                case rel => exact ⟨j + 1, by omega, by go_num, gx, rfl, HK4, some ⟨g5, 0, none⟩, cap, l ++ [nx], by show _ = _; rw [List.length_append, HLJ.out]; rfl, HLN2, HBN⟩
                case measure => simp [intOf]; omega
            · have hja : ls.take j = ls := List.take_of_length_le (by omega)
              have HL : Hid (l = (txsP w4).1) := by show _ = _; rw [HTL.out.1, HLL.out, hja]
              have HKA : Hid (kk = (false && (txsP w4).2)) := by show _ = _; rw [HTL.out.2, HKK.out, hja]
              have hll : l.length ≤ 1048576 := by rw [HLJ.out]; have := HL4.out; omega
              clear hja
              obtain ⟨b0, b1, b2, b3, b4, b5, b6, b7⟩ := cells4 HBX.out.box
              obtain ⟨r0, r1, r2, r3, r4, r5, r6, r7⟩ := cells4 HRr.out
              have hRX : w.heap.size < u2.heap.size := HRX.out
              obtain ⟨hca, hcb⟩ := row_caps HBX.out.row
              have hXl := HBX.out.lt
              have hXw := HBX.out.chg.size
              cases kk
              · have HFIN : Hid ((parB t).2 = false) := by show _ = _; rw [HPB.out]; rfl
                go_wp2
                go_big_region
                go_wp2
                obtain ⟨j0, j1, j2, j3⟩ := four_set HRr.out (.int .i64 n1) (.int .i64 n2) (.int .i64 n3) (.slice xa l.length xc)
                refine bodyPost_ret (v := .tuple #[.agg #[.int .i64 n1, .int .i64 n2, .int .i64 n3, .slice xa l.length xc], .bool false]) (by simp [results, Tryd.results25, go_sem, j0, j1, j2, j3]) rfl ?_
                refine ⟨((((HBr.out.setCell (p := ⟨w.heap.size, 0, none⟩) (Nat.le_refl _) _).setCell (p := ⟨w.heap.size, 1, none⟩) (Nat.le_refl _) _).setCell (p := ⟨w.heap.size, 2, none⟩) (Nat.le_refl _) _).setCell (p := ⟨w.heap.size, 3, none⟩) (Nat.le_refl _) _).drew, n1, n2, n3, l, _, _, (by rw [HFIN.out]; try rfl), ?_, fun e => by rw [HFIN.out] at e; cases e⟩
                exact row_res4 (w2 := wr) HBX.out.row (by omega) (by omega) _ _ _ _
              · exact absurd HKA.out (by simp)
      cases g2
      · skip
        go_enter Tryd.func25, Tryd.ntmps25
        go_wp2_with (first
          | (go_at_call 43; (first
              | ((with_reducible refine hcut'.mono ?_); clear hcut'; rintro e u2 ⟨g, vc, rfl, HO2, HB2⟩; obtain ⟨s0, s1, s2, s3, s4⟩ := row_cells5 HO2.out; have s4' : ∀ o, (u2.alloc o).cell? ⟨g, 4, none⟩ = some (.string (str w4)) := (fun o => kept1 o s4); have hC2 := HCUT2.out (u2.alloc (.cells #[.int .i64 n1, .int .i64 n2, .int .i64 n3, .slice none 0 0] 27)))
              | (have hq := hC2; clear hC2; (with_reducible refine hq.mono ?_); clear hq; rintro e u3 ⟨gl, vl, rfl, HO3, HB3⟩)))
          | (go_at_call 44; (first | ((with_reducible refine (hN1 _).mono ?_); clear hN1) | ((with_reducible refine (hN2 _).mono ?_); clear hN2) | ((with_reducible refine (hN3 _).mono ?_); clear hN3)); rintro e w' ⟨rfl, hw⟩; have hw2 := hw.symm; subst hw2; clear hw))
        have HRX : Hid (w.heap.size < u2.heap.size) := by have := HB2.out.size; simp at this; show _ < _; omega
        have HGX : Hid (g < u2.heap.size ∧ u2.heap.size < gl) := ⟨(HO2.out.lt g rfl).2, by have := (HO3.out.lt gl rfl).1; simp at this; omega⟩
        have HS3 : Hid (u2.heap.size < u3.heap.size) := by have := HB3.out.size; simp at this; show _ < _; omega
        have HBU : Hid (Below w.heap.size w u3) := (HB1.out.trans (HB2.out.mono (by omega))).trans ((below_box (.cells #[.int .i64 n1, .int .i64 n2, .int .i64 n3, .slice none 0 0] 27)).mono (by have := HRX.out; omega) |>.trans (HB3.out.mono (by have := HRX.out; simp; omega)))
        have HRU : Hid (u3.heap[w.heap.size]? = some (.cells #[.int .i64 0, .int .i64 0, .int .i64 0, .slice none 0 0] 27 (0, 0))) := (keepb (keepb ((HB2.out.block w.heap.size (by omega)).trans HR1.out) (below_box (.cells #[.int .i64 n1, .int .i64 n2, .int .i64 n3, .slice none 0 0] 27))).out HB3.out).out
        have HX0 : Hid (BX u3 u3 u2.heap.size n1 n2 n3 none [] 0) := ⟨(keepb (heap_alloc_new u2 _) HB3.out).out, World.ownsRow_nil _ _ _ _, Chg.refl _ _ _, HS3.out⟩
        have HW4 : Hid (u3.cell? ⟨g, 4, none⟩ = some (.string (str w4))) := (HB3.out.cell (p := ⟨g, 4, none⟩) (by have := HGX.out.1; simp; omega)).trans (s4' _)
        have c4 := HW4.out
        clear s0 s1 s2 s3 s4 s4'
        by_cases h45 : w4 = [45]
        · have e45 : ((str w4).toList == [45]) = true := by rw [str_is, decide_eq_true h45]
          have HBX := HX0
          have HRr := HRU
          have HBr := HBU
          have HL : Hid (([] : List Int) = (txsP w4).1) := by show _ = _; rw [HTX.out, if_pos h45]
          have HTR : Hid ((txsP w4).2 = true) := by show _ = _; rw [HTX.out, if_pos h45]
          clear h45
          have hp0 : (0 : Int) < (ls.length : Int) := by have := HLN.out.1; omega
          have hp1 : 0 < ls.length := HLN.out.1
          obtain ⟨b0, b1, b2, b3, b4, b5, b6, b7⟩ := cells4 HBX.out.box
          obtain ⟨r0, r1, r2, r3, r4, r5, r6, r7⟩ := cells4 HRr.out
          have hRX : w.heap.size < u2.heap.size := HRX.out
          obtain ⟨hca, hcb⟩ := row_caps HBX.out.row
          have hXl := HBX.out.lt
          have hXw := HBX.out.chg.size
          refine wp_loop_rounds 1 ?_
          rw [rounds_succ]
          go_wp2
          have HFIN : Hid ((parB t).2 = false) := by show _ = _; rw [HPB.out]; simp
          go_big_region
          go_wp2
          obtain ⟨j0, j1, j2, j3⟩ := four_set HRr.out (.int .i64 n1) (.int .i64 n2) (.int .i64 n3) (.slice none 0 0)
          refine bodyPost_ret (v := .tuple #[.agg #[.int .i64 n1, .int .i64 n2, .int .i64 n3, .slice none 0 0], .bool false]) (by simp [results, Tryd.results25, go_sem, j0, j1, j2, j3]) rfl ?_
          refine ⟨((((HBr.out.setCell (p := ⟨w.heap.size, 0, none⟩) (Nat.le_refl _) _).setCell (p := ⟨w.heap.size, 1, none⟩) (Nat.le_refl _) _).setCell (p := ⟨w.heap.size, 2, none⟩) (Nat.le_refl _) _).setCell (p := ⟨w.heap.size, 3, none⟩) (Nat.le_refl _) _).drew, n1, n2, n3, ([] : List Int), _, _, (by rw [HFIN.out]; try rfl), ?_, fun e => by rw [HFIN.out] at e; cases e⟩
          exact row_res4 (w2 := u3) HBX.out.row (by omega) (by omega) _ _ _ _
        · have e45 : ((str w4).toList == [45]) = false := by rw [str_is, decide_eq_false h45]
          have HTL : Hid ((txsP w4).1 = (ls.map fun x => (numR x 2).1) ∧ (txsP w4).2 = ls.all fun x => (numR x 2).2) := by rw [HTX.out, if_neg h45]; exact ⟨rfl, rfl⟩
          clear h45 c4
          go_loopw [12, 14] (fun okv i wr => ∃ j : Nat, j ≤ ls.length ∧ i = .int .i64 j ∧ ∃ kk : Bool, okv = .bool kk ∧ Hid (kk = (false && (ls.take j).all fun x => (numR x 2).2)) ∧ ∃ xa xc, ∃ l : List Int, Hid (l.length = j) ∧ Hid (l = (ls.take j).map fun x => (numR x 2).1) ∧ Hid (BX u3 wr u2.heap.size n1 n2 n3 xa l xc)) (fun _ i _ => ls.length - (intOf i).toNat)
          case atStart => exact ⟨0, Nat.zero_le _, rfl, _, rfl, by show _ = _; simp, none, 0, [], rfl, by show _ = _; simp, HX0.out⟩
          case round =>
            obtain ⟨j, hj, rfl, kk, rfl, HKK, xa, xc, l, HLJ, HLL, HBX⟩ := hrel
            have HRr : Hid (wr.heap[w.heap.size]? = some (.cells #[.int .i64 0, .int .i64 0, .int .i64 0, .slice none 0 0] 27 (0, 0))) := HBX.out.chg.keep HRU.out (.inl HRX.out)
            have HBr : Hid (Below w.heap.size w wr) := HBU.out.trans (HBX.out.chg.below (Nat.le_of_lt HRX.out) HBU.out.size)
            have c4 : wr.cell? ⟨g, 4, none⟩ = some (.string (str w4)) := (HBX.out.chg.cell (Nat.lt_trans HGX.out.1 HS3.out) (.inl HGX.out.1)).trans HW4.out
            by_cases hlt : j < ls.length
            · obtain ⟨x, hx⟩ : ∃ x, x = ls.getD j [] := ⟨_, rfl⟩
              have HX : Hid (x = ls.getD j []) := hx
              have hxm : x ∈ ls := by rw [hx, List.getD, List.getElem?_eq_getElem hlt]; exact List.getElem_mem _
              have cl : wr.cell? ⟨gl, j, none⟩ = some (.string (str x)) := by
                rw [HBX.out.chg.cell (HO3.out.lt gl rfl).2 (.inr HGX.out.2), HO3.out.cellAt j (by omega), hx]
                simp [texts, List.getD, hlt]
              obtain ⟨nx, hnx⟩ : ∃ q, q = (numR x 2).1 := ⟨_, rfl⟩
              obtain ⟨gx, hgx⟩ : ∃ q, q = (numR x 2).2 := ⟨_, rfl⟩
              have hNX : ∀ u, Calls Tryd.prog 44 #[.string (str x), .int .i64 2] u fun e w' => e = .returned (.tuple #[.int .i64 nx, .bool gx]) ∧ w' = u := fun u => by rw [hnx, hgx]; exact l2Number_any x 2 u (HSUB.out x hxm) (by omega)
              have HNX : Hid (nx = (numR x 2).1 ∧ gx = (numR x 2).2) := ⟨hnx, hgx⟩
              have hln := HLN.out.2
              obtain ⟨g5, cap, w5, hrun, HC5⟩ := int_added (W := wr) (k := nx) HBX.out.row (by rw [HLJ.out]; omega) HBX.out.chg.size
              obtain ⟨b0, b1, b2, b3, b4, b5, b6, b7⟩ := cells4 HBX.out.box
              obtain ⟨y0, y1, y2, y3, y4, y5, y6, y7⟩ := cells4 ((HC5.out.2.block u2.heap.size HBX.out.lt).trans HBX.out.box)
              have HBN := show Hid (BX u3 (w5.setCell ⟨u2.heap.size, 3, none⟩ (.slice (some ⟨g5, 0, none⟩) (l.length + 1) cap)) u2.heap.size n1 n2 n3 (some ⟨g5, 0, none⟩) (l ++ [nx]) cap) from HBX.out.add HC5.out.1 HC5.out.2
              have HLN2 : Hid (l ++ [nx] = (ls.take (j + 1)).map fun x => (numR x 2).1) := by show _ = _; rw [take_nextL hlt HX.out, List.map_append, ← HLL.out, HNX.out.1]; rfl
              have HK2 : Hid (∀ q, kk = q → (q && gx) = (false && (ls.take (j + 1)).all fun x => (numR x 2).2)) := fun q hq => by rw [← hq, take_nextL hlt HX.out, List.all_append, ← Bool.and_assoc, ← HKK.out, HNX.out.2]; simp
              have hki : (j : Int) < (ls.length : Int) := by omega
              clear hx hxm hnx hgx
              cases kk
              · have HK3 := HK2.out false rfl
                have HK4 : Hid (false = (false && (ls.take (j + 1)).all fun x => (numR x 2).2)) := by show _ = _; rw [← HK3]; simp
                clear HK3
                go_wp2_with (first
                  | (go_at_call 44; (with_reducible refine (hNX _).mono ?_); clear hNX; rintro e w' ⟨rfl, hw⟩; have hw2 := hw.symm; subst hw2; clear hw)
                  | (at_builtin; go_must (refine wpList_append_runC (by rfl) _ _ _ (by rfl) (by rfl) (by rfl) hrun ?_); clear hrun))
                go_roundw
                case rel => exact ⟨j + 1, by omega, by go_num, false, rfl, HK4, some ⟨g5, 0, none⟩, cap, l ++ [nx], by show _ = _; rw [List.length_append, HLJ.out]; rfl, HLN2, HBN⟩
                case measure => simp [intOf]; omega
              · have HK3 := HK2.out true rfl
                have HK4 : Hid (gx = (false && (ls.take (j + 1)).all fun x => (numR x 2).2)) := by show _ = _; rw [← HK3]; simp
                clear HK3
                go_wp2_with (first
                  | (go_at_call 44; (with_reducible refine (hNX _).mono ?_); clear hNX; rintro e w' ⟨rfl, hw⟩; have hw2 := hw.symm; subst hw2; clear hw)
                  | (at_builtin; go_must (refine wpList_append_runC (by rfl) _ _ _ (by rfl) (by rfl) (by rfl) hrun ?_); clear hrun))
                go_roundw
                case rel => exact ⟨j + 1, by omega, by go_num, gx, rfl, HK4, some ⟨g5, 0, none⟩, cap, l ++ [nx], by show _ = _; rw [List.length_append, HLJ.out]; rfl, HLN2, HBN⟩
                case measure => simp [intOf]; omega
            · have hja : ls.take j = ls := List.take_of_length_le (by omega)
              have HL : Hid (l = (txsP w4).1) := by show _ = _; rw [HTL.out.1, HLL.out, hja]
              have HKA : Hid (kk = (false && (txsP w4).2)) := by show _ = _; rw [HTL.out.2, HKK.out, hja]
              have hll : l.length ≤ 1048576 := by rw [HLJ.out]; have := HL4.out; omega
              clear hja
              obtain ⟨b0, b1, b2, b3, b4, b5, b6, b7⟩ := cells4 HBX.out.box
              obtain ⟨r0, r1, r2, r3, r4, r5, r6, r7⟩ := cells4 HRr.out
              have hRX : w.heap.size < u2.heap.size := HRX.out
              obtain ⟨hca, hcb⟩ := row_caps HBX.out.row
              have hXl := HBX.out.lt
              have hXw := HBX.out.chg.size
              cases kk
              · have HFIN : Hid ((parB t).2 = false) := by show _ = _; rw [HPB.out]; rfl
                go_wp2
                go_big_region
                go_wp2
                obtain ⟨j0, j1, j2, j3⟩ := four_set HRr.out (.int .i64 n1) (.int .i64 n2) (.int .i64 n3) (.slice xa l.length xc)
                refine bodyPost_ret (v := .tuple #[.agg #[.int .i64 n1, .int .i64 n2, .int .i64 n3, .slice xa l.length xc], .bool false]) (by simp [results, Tryd.results25, go_sem, j0, j1, j2, j3]) rfl ?_
                refine ⟨((((HBr.out.setCell (p := ⟨w.heap.size, 0, none⟩) (Nat.le_refl _) _).setCell (p := ⟨w.heap.size, 1, none⟩) (Nat.le_refl _) _).setCell (p := ⟨w.heap.size, 2, none⟩) (Nat.le_refl _) _).setCell (p := ⟨w.heap.size, 3, none⟩) (Nat.le_refl _) _).drew, n1, n2, n3, l, _, _, (by rw [HFIN.out]; try rfl), ?_, fun e => by rw [HFIN.out] at e; cases e⟩
                exact row_res4 (w2 := wr) HBX.out.row (by omega) (by omega) _ _ _ _
              · exact absurd HKA.out (by simp)
      · skip
        go_enter Tryd.func25, Tryd.ntmps25
        go_wp2_with (first
          | (go_at_call 43; (first
              | ((with_reducible refine hcut'.mono ?_); clear hcut'; rintro e u2 ⟨g, vc, rfl, HO2, HB2⟩; obtain ⟨s0, s1, s2, s3, s4⟩ := row_cells5 HO2.out; have s4' : ∀ o, (u2.alloc o).cell? ⟨g, 4, none⟩ = some (.string (str w4)) := (fun o => kept1 o s4); have hC2 := HCUT2.out (u2.alloc (.cells #[.int .i64 n1, .int .i64 n2, .int .i64 n3, .slice none 0 0] 27)))
              | (have hq := hC2; clear hC2; (with_reducible refine hq.mono ?_); clear hq; rintro e u3 ⟨gl, vl, rfl, HO3, HB3⟩)))
          | (go_at_call 44; (first | ((with_reducible refine (hN1 _).mono ?_); clear hN1) | ((with_reducible refine (hN2 _).mono ?_); clear hN2) | ((with_reducible refine (hN3 _).mono ?_); clear hN3)); rintro e w' ⟨rfl, hw⟩; have hw2 := hw.symm; subst hw2; clear hw))
        have HRX : Hid (w.heap.size < u2.heap.size) := by have := HB2.out.size; simp at this; show _ < _; omega
        have HGX : Hid (g < u2.heap.size ∧ u2.heap.size < gl) := ⟨(HO2.out.lt g rfl).2, by have := (HO3.out.lt gl rfl).1; simp at this; omega⟩
        have HS3 : Hid (u2.heap.size < u3.heap.size) := by have := HB3.out.size; simp at this; show _ < _; omega
        have HBU : Hid (Below w.heap.size w u3) := (HB1.out.trans (HB2.out.mono (by omega))).trans ((below_box (.cells #[.int .i64 n1, .int .i64 n2, .int .i64 n3, .slice none 0 0] 27)).mono (by have := HRX.out; omega) |>.trans (HB3.out.mono (by have := HRX.out; simp; omega)))
        have HRU : Hid (u3.heap[w.heap.size]? = some (.cells #[.int .i64 0, .int .i64 0, .int .i64 0, .slice none 0 0] 27 (0, 0))) := (keepb (keepb ((HB2.out.block w.heap.size (by omega)).trans HR1.out) (below_box (.cells #[.int .i64 n1, .int .i64 n2, .int .i64 n3, .slice none 0 0] 27))).out HB3.out).out
        have HX0 : Hid (BX u3 u3 u2.heap.size n1 n2 n3 none [] 0) := ⟨(keepb (heap_alloc_new u2 _) HB3.out).out, World.ownsRow_nil _ _ _ _, Chg.refl _ _ _, HS3.out⟩
        have HW4 : Hid (u3.cell? ⟨g, 4, none⟩ = some (.string (str w4))) := (HB3.out.cell (p := ⟨g, 4, none⟩) (by have := HGX.out.1; simp; omega)).trans (s4' _)
        have c4 := HW4.out
        clear s0 s1 s2 s3 s4 s4'
        by_cases h45 : w4 = [45]
        · have e45 : ((str w4).toList == [45]) = true := by rw [str_is, decide_eq_true h45]
          have HBX := HX0
          have HRr := HRU
          have HBr := HBU
          have HL : Hid (([] : List Int) = (txsP w4).1) := by show _ = _; rw [HTX.out, if_pos h45]
          have HTR : Hid ((txsP w4).2 = true) := by show _ = _; rw [HTX.out, if_pos h45]
          clear h45
          have hp0 : (0 : Int) < (ls.length : Int) := by have := HLN.out.1; omega
          have hp1 : 0 < ls.length := HLN.out.1
          obtain ⟨b0, b1, b2, b3, b4, b5, b6, b7⟩ := cells4 HBX.out.box
          obtain ⟨r0, r1, r2, r3, r4, r5, r6, r7⟩ := cells4 HRr.out
          have hRX : w.heap.size < u2.heap.size := HRX.out
          obtain ⟨hca, hcb⟩ := row_caps HBX.out.row
          have hXl := HBX.out.lt
          have hXw := HBX.out.chg.size
          refine wp_loop_rounds 1 ?_
          rw [rounds_succ]
          go_wp2
          cases g3
          · have HFIN : Hid ((parB t).2 = false) := by show _ = _; rw [HPB.out]; simp
            go_big_region
            go_wp2
            obtain ⟨j0, j1, j2, j3⟩ := four_set HRr.out (.int .i64 n1) (.int .i64 n2) (.int .i64 n3) (.slice none 0 0)
            refine bodyPost_ret (v := .tuple #[.agg #[.int .i64 n1, .int .i64 n2, .int .i64 n3, .slice none 0 0], .bool false]) (by simp [results, Tryd.results25, go_sem, j0, j1, j2, j3]) rfl ?_
            refine ⟨((((HBr.out.setCell (p := ⟨w.heap.size, 0, none⟩) (Nat.le_refl _) _).setCell (p := ⟨w.heap.size, 1, none⟩) (Nat.le_refl _) _).setCell (p := ⟨w.heap.size, 2, none⟩) (Nat.le_refl _) _).setCell (p := ⟨w.heap.size, 3, none⟩) (Nat.le_refl _) _).drew, n1, n2, n3, ([] : List Int), _, _, (by rw [HFIN.out]; try rfl), ?_, fun e => by rw [HFIN.out] at e; cases e⟩
            exact row_res4 (w2 := u3) HBX.out.row (by omega) (by omega) _ _ _ _
          · skip
            have hF := l7Fault_any u2.heap.size 0 0 none n1 n2 n3 [] u3.drew (by omega) (by omega) (by unfold maxLen; omega) ((iat_row HBX.out.row rfl).below (Below.refl _ _).drew (Nat.le_refl _)) HBX.out.box
            obtain ⟨cf, hcf⟩ : ∃ c, c = blR n1 n2 n3 [] := ⟨_, rfl⟩
            rw [← hcf] at hF
            have HFIN : Hid ((parB t).2 = decide (cf = 0) ∧ (parB t).1 = (n1, n2, n3, [])) := by rw [HPB.out, ← HL.out, HTR.out, hcf]; exact ⟨by simp, rfl⟩
            clear hcf
            have hFd : Calls Tryd.prog 27 #[.pointer (some ⟨u2.heap.size, 0, none⟩)] u3.drew fun e w' => e = .returned (.int .i64 cf) ∧ Below u3.heap.size u3 w' := hF.mono fun e w' h => ⟨h.1, (Below.refl _ _).drew.trans h.2⟩
            clear hF
            go_region_held3 (fun w' => w'.cell? ⟨u2.heap.size, 0, none⟩ = some (.int .i64 n1) ∧ w'.cell? ⟨u2.heap.size, 1, none⟩ = some (.int .i64 n2) ∧ w'.cell? ⟨u2.heap.size, 2, none⟩ = some (.int .i64 n3) ∧ w'.cell? ⟨u2.heap.size, 3, none⟩ = some (.slice none 0 0)) (first | go_keep | exact keepR4 ⟨z0, z1, z2, z3⟩ (by omega))
              (first | (go_at_call 27; (with_reducible refine hFd.mono ?_); clear hFd; rintro e w6 ⟨rfl, hb6⟩; obtain ⟨z0, z1, z2, z3⟩ := cellsK hb6 (by omega) ⟨b0, b1, b2, b3⟩; have HR6 : Hid (w6.heap[w.heap.size]? = some (.cells #[.int .i64 0, .int .i64 0, .int .i64 0, .slice none 0 0] 27 (0, 0))) := (hb6.block _ (lt_of_block HRr.out)).trans HRr.out; obtain ⟨q0, q1, q2, q3, q4, q5, q6, q7⟩ := cells4 HR6.out))
            go_wp2
            obtain ⟨j0, j1, j2, j3⟩ := four_set HR6.out (.int .i64 n1) (.int .i64 n2) (.int .i64 n3) (.slice none 0 0)
            obtain ⟨kf, hkf⟩ : ∃ k : Bool, k = decide (cf = 0) := ⟨_, rfl⟩
            refine bodyPost_ret (v := .tuple #[.agg #[.int .i64 n1, .int .i64 n2, .int .i64 n3, .slice none 0 0], .bool (cf == 0)]) (by simp [results, Tryd.results25, go_sem, j0, j1, j2, j3]) rfl ?_
            have HB6 : Below w.heap.size w w6 := HBr.out.trans (hb6.mono HBr.out.size)
            refine ⟨(((HB6.setCell (p := ⟨w.heap.size, 0, none⟩) (Nat.le_refl _) _).setCell (p := ⟨w.heap.size, 1, none⟩) (Nat.le_refl _) _).setCell (p := ⟨w.heap.size, 2, none⟩) (Nat.le_refl _) _).setCell (p := ⟨w.heap.size, 3, none⟩) (Nat.le_refl _) _, n1, n2, n3, ([] : List Int), _, _, by rw [HFIN.out.1]; first | rfl | (congr 4; by_cases h : cf = 0 <;> simp [h]), ?_, fun _ => HFIN.out.2⟩
            exact row_res4 (HBX.out.row.kept (grown_of_below hb6) (by cases Value.ownBlock (.slice none 0 0) <;> simp)) (by omega) (by omega) _ _ _ _
        · have e45 : ((str w4).toList == [45]) = false := by rw [str_is, decide_eq_false h45]
          have HTL : Hid ((txsP w4).1 = (ls.map fun x => (numR x 2).1) ∧ (txsP w4).2 = ls.all fun x => (numR x 2).2) := by rw [HTX.out, if_neg h45]; exact ⟨rfl, rfl⟩
          clear h45 c4
          go_loopw [12, 14] (fun okv i wr => ∃ j : Nat, j ≤ ls.length ∧ i = .int .i64 j ∧ ∃ kk : Bool, okv = .bool kk ∧ Hid (kk = (g3 && (ls.take j).all fun x => (numR x 2).2)) ∧ ∃ xa xc, ∃ l : List Int, Hid (l.length = j) ∧ Hid (l = (ls.take j).map fun x => (numR x 2).1) ∧ Hid (BX u3 wr u2.heap.size n1 n2 n3 xa l xc)) (fun _ i _ => ls.length - (intOf i).toNat)
          case atStart => exact ⟨0, Nat.zero_le _, rfl, _, rfl, by show _ = _; simp, none, 0, [], rfl, by show _ = _; simp, HX0.out⟩
          case round =>
            obtain ⟨j, hj, rfl, kk, rfl, HKK, xa, xc, l, HLJ, HLL, HBX⟩ := hrel
            have HRr : Hid (wr.heap[w.heap.size]? = some (.cells #[.int .i64 0, .int .i64 0, .int .i64 0, .slice none 0 0] 27 (0, 0))) := HBX.out.chg.keep HRU.out (.inl HRX.out)
            have HBr : Hid (Below w.heap.size w wr) := HBU.out.trans (HBX.out.chg.below (Nat.le_of_lt HRX.out) HBU.out.size)
            have c4 : wr.cell? ⟨g, 4, none⟩ = some (.string (str w4)) := (HBX.out.chg.cell (Nat.lt_trans HGX.out.1 HS3.out) (.inl HGX.out.1)).trans HW4.out
            by_cases hlt : j < ls.length
            · obtain ⟨x, hx⟩ : ∃ x, x = ls.getD j [] := ⟨_, rfl⟩
              have HX : Hid (x = ls.getD j []) := hx
              have hxm : x ∈ ls := by rw [hx, List.getD, List.getElem?_eq_getElem hlt]; exact List.getElem_mem _
              have cl : wr.cell? ⟨gl, j, none⟩ = some (.string (str x)) := by
                rw [HBX.out.chg.cell (HO3.out.lt gl rfl).2 (.inr HGX.out.2), HO3.out.cellAt j (by omega), hx]
                simp [texts, List.getD, hlt]
              obtain ⟨nx, hnx⟩ : ∃ q, q = (numR x 2).1 := ⟨_, rfl⟩
              obtain ⟨gx, hgx⟩ : ∃ q, q = (numR x 2).2 := ⟨_, rfl⟩
              have hNX : ∀ u, Calls Tryd.prog 44 #[.string (str x), .int .i64 2] u fun e w' => e = .returned (.tuple #[.int .i64 nx, .bool gx]) ∧ w' = u := fun u => by rw [hnx, hgx]; exact l2Number_any x 2 u (HSUB.out x hxm) (by omega)
              have HNX : Hid (nx = (numR x 2).1 ∧ gx = (numR x 2).2) := ⟨hnx, hgx⟩
              have hln := HLN.out.2
              obtain ⟨g5, cap, w5, hrun, HC5⟩ := int_added (W := wr) (k := nx) HBX.out.row (by rw [HLJ.out]; omega) HBX.out.chg.size
              obtain ⟨b0, b1, b2, b3, b4, b5, b6, b7⟩ := cells4 HBX.out.box
              obtain ⟨y0, y1, y2, y3, y4, y5, y6, y7⟩ := cells4 ((HC5.out.2.block u2.heap.size HBX.out.lt).trans HBX.out.box)
              have HBN := show Hid (BX u3 (w5.setCell ⟨u2.heap.size, 3, none⟩ (.slice (some ⟨g5, 0, none⟩) (l.length + 1) cap)) u2.heap.size n1 n2 n3 (some ⟨g5, 0, none⟩) (l ++ [nx]) cap) from HBX.out.add HC5.out.1 HC5.out.2
              have HLN2 : Hid (l ++ [nx] = (ls.take (j + 1)).map fun x => (numR x 2).1) := by show _ = _; rw [take_nextL hlt HX.out, List.map_append, ← HLL.out, HNX.out.1]; rfl
              have HK2 : Hid (∀ q, kk = q → (q && gx) = (g3 && (ls.take (j + 1)).all fun x => (numR x 2).2)) := fun q hq => by rw [← hq, take_nextL hlt HX.out, List.all_append, ← Bool.and_assoc, ← HKK.out, HNX.out.2]; simp
              have hki : (j : Int) < (ls.length : Int) := by omega
              clear hx hxm hnx hgx
              cases kk
              · have HK3 := HK2.out false rfl
                have HK4 : Hid (false = (g3 && (ls.take (j + 1)).all fun x => (numR x 2).2)) := by show _ = _; rw [← HK3]; simp
                clear HK3
                go_wp2_with (first
                  | (go_at_call 44; (with_reducible refine (hNX _).mono ?_); clear hNX; rintro e w' ⟨rfl, hw⟩; have hw2 := hw.symm; subst hw2; clear hw)
                  | (at_builtin; go_must (refine wpList_append_runC (by rfl) _ _ _ (by rfl) (by rfl) (by rfl) hrun ?_); clear hrun))
                go_roundw
                case rel => exact ⟨j + 1, by omega, by go_num, false, rfl, HK4, some ⟨g5, 0, none⟩, cap, l ++ [nx], by show _ = _; rw [List.length_append, HLJ.out]; rfl, HLN2, HBN⟩
                case measure => simp [intOf]; omega
              · have HK3 := HK2.out true rfl
                have HK4 : Hid (gx = (g3 && (ls.take (j + 1)).all fun x => (numR x 2).2)) := by show _ = _; rw [← HK3]; simp
                clear HK3
                go_wp2_with (first
                  | (go_at_call 44; (with_reducible refine (hNX _).mono ?_); clear hNX; rintro e w' ⟨rfl, hw⟩; have hw2 := hw.symm; subst hw2; clear hw)
                  | (at_builtin; go_must (refine wpList_append_runC (by rfl) _ _ _ (by rfl) (by rfl) (by rfl) hrun ?_); clear hrun))
                go_roundw
                case rel => exact ⟨j + 1, by omega, by go_num, gx, rfl, HK4, some ⟨g5, 0, none⟩, cap, l ++ [nx], by show _ = _; rw [List.length_append, HLJ.out]; rfl, HLN2, HBN⟩
                case measure => simp [intOf]; omega
            · have hja : ls.take j = ls := List.take_of_length_le (by omega)
              have HL : Hid (l = (txsP w4).1) := by show _ = _; rw [HTL.out.1, HLL.out, hja]
              have HKA : Hid (kk = (g3 && (txsP w4).2)) := by show _ = _; rw [HTL.out.2, HKK.out, hja]
              have hll : l.length ≤ 1048576 := by rw [HLJ.out]; have := HL4.out; omega
              clear hja
              obtain ⟨b0, b1, b2, b3, b4, b5, b6, b7⟩ := cells4 HBX.out.box
              obtain ⟨r0, r1, r2, r3, r4, r5, r6, r7⟩ := cells4 HRr.out
              have hRX : w.heap.size < u2.heap.size := HRX.out
              obtain ⟨hca, hcb⟩ := row_caps HBX.out.row
              have hXl := HBX.out.lt
              have hXw := HBX.out.chg.size
              cases kk
              · have HFIN : Hid ((parB t).2 = false) := by show _ = _; rw [HPB.out]; exact fin_f HKA.out
                go_wp2
                go_big_region
                go_wp2
                obtain ⟨j0, j1, j2, j3⟩ := four_set HRr.out (.int .i64 n1) (.int .i64 n2) (.int .i64 n3) (.slice xa l.length xc)
                refine bodyPost_ret (v := .tuple #[.agg #[.int .i64 n1, .int .i64 n2, .int .i64 n3, .slice xa l.length xc], .bool false]) (by simp [results, Tryd.results25, go_sem, j0, j1, j2, j3]) rfl ?_
                refine ⟨((((HBr.out.setCell (p := ⟨w.heap.size, 0, none⟩) (Nat.le_refl _) _).setCell (p := ⟨w.heap.size, 1, none⟩) (Nat.le_refl _) _).setCell (p := ⟨w.heap.size, 2, none⟩) (Nat.le_refl _) _).setCell (p := ⟨w.heap.size, 3, none⟩) (Nat.le_refl _) _).drew, n1, n2, n3, l, _, _, (by rw [HFIN.out]; try rfl), ?_, fun e => by rw [HFIN.out] at e; cases e⟩
                exact row_res4 (w2 := wr) HBX.out.row (by omega) (by omega) _ _ _ _
              · have hF := l7Fault_any u2.heap.size l.length xc xa n1 n2 n3 l wr.drew hll hca hcb ((iat_row HBX.out.row rfl).below (Below.refl _ _).drew (Nat.le_refl _)) HBX.out.box
                obtain ⟨cf, hcf⟩ : ∃ c, c = blR n1 n2 n3 l := ⟨_, rfl⟩
                rw [← hcf] at hF
                have HFIN : Hid ((parB t).2 = decide (cf = 0) ∧ (parB t).1 = (n1, n2, n3, l)) := by rw [HPB.out, ← HL.out, hcf]; exact ⟨fin_t HKA.out, rfl⟩
                clear hcf
                go_wp2
                have hFd : Calls Tryd.prog 27 #[.pointer (some ⟨u2.heap.size, 0, none⟩)] wr.drew fun e w' => e = .returned (.int .i64 cf) ∧ Below wr.heap.size wr w' := hF.mono fun e w' h => ⟨h.1, (Below.refl _ _).drew.trans h.2⟩
                clear hF
                go_region_held3 (fun w' => w'.cell? ⟨u2.heap.size, 0, none⟩ = some (.int .i64 n1) ∧ w'.cell? ⟨u2.heap.size, 1, none⟩ = some (.int .i64 n2) ∧ w'.cell? ⟨u2.heap.size, 2, none⟩ = some (.int .i64 n3) ∧ w'.cell? ⟨u2.heap.size, 3, none⟩ = some (.slice xa l.length xc)) (first | go_keep | exact keepR4 ⟨z0, z1, z2, z3⟩ (by omega))
                  (first | (go_at_call 27; (with_reducible refine hFd.mono ?_); clear hFd; rintro e w6 ⟨rfl, hb6⟩; obtain ⟨z0, z1, z2, z3⟩ := cellsK hb6 (by omega) ⟨b0, b1, b2, b3⟩; have HR6 : Hid (w6.heap[w.heap.size]? = some (.cells #[.int .i64 0, .int .i64 0, .int .i64 0, .slice none 0 0] 27 (0, 0))) := (hb6.block _ (lt_of_block HRr.out)).trans HRr.out; obtain ⟨q0, q1, q2, q3, q4, q5, q6, q7⟩ := cells4 HR6.out))
                go_wp2
                obtain ⟨j0, j1, j2, j3⟩ := four_set HR6.out (.int .i64 n1) (.int .i64 n2) (.int .i64 n3) (.slice xa l.length xc)
                obtain ⟨kf, hkf⟩ : ∃ k : Bool, k = decide (cf = 0) := ⟨_, rfl⟩
                refine bodyPost_ret (v := .tuple #[.agg #[.int .i64 n1, .int .i64 n2, .int .i64 n3, .slice xa l.length xc], .bool (cf == 0)]) (by simp [results, Tryd.results25, go_sem, j0, j1, j2, j3]) rfl ?_
                have HB6 : Below w.heap.size w w6 := HBr.out.trans (hb6.mono HBr.out.size)
                refine ⟨(((HB6.setCell (p := ⟨w.heap.size, 0, none⟩) (Nat.le_refl _) _).setCell (p := ⟨w.heap.size, 1, none⟩) (Nat.le_refl _) _).setCell (p := ⟨w.heap.size, 2, none⟩) (Nat.le_refl _) _).setCell (p := ⟨w.heap.size, 3, none⟩) (Nat.le_refl _) _, n1, n2, n3, l, _, _, by rw [HFIN.out.1]; first | rfl | (congr 4; by_cases h : cf = 0 <;> simp [h]), ?_, fun _ => HFIN.out.2⟩
                exact row_res4 (HBX.out.row.kept (grown_of_below hb6) (by cases Value.ownBlock (.slice xa l.length xc) <;> simp)) (by omega) (by omega) _ _ _ _
    · have ebk : ((str w0).toList == [98, 108, 111, 99, 107]) = false := by rw [str_is, decide_eq_false hbk]
      have HPB : Hid ((parB t).2 = false) := parB_other hw hbk
      clear hcut hw h5 hsub hl1 hl2 hl3 hl4 hbk
      go_enter Tryd.func25, Tryd.ntmps25
      go_wp2_with (first
        | (go_at_call 43; (with_reducible refine hcut'.mono ?_); clear hcut'; rintro e u2 ⟨g, vc, rfl, HO2, HB2⟩; obtain ⟨s0, s1, s2, s3, s4⟩ := row_cells5 HO2.out; have HR2 : Hid (u2.heap[w.heap.size]? = some (.cells #[.int .i64 0, .int .i64 0, .int .i64 0, .slice none 0 0] 27 (0, 0))) := (HB2.out.block w.heap.size (by omega)).trans HR1.out; obtain ⟨r0, r1, r2, r3, r4, r5, r6, r7⟩ := cells4 HR2.out))
      obtain ⟨j0, j1, j2, j3⟩ := four_set HR2.out (.int .i64 0) (.int .i64 0) (.int .i64 0) (.slice none 0 0)
      refine bodyPost_ret (v := .tuple #[.agg #[.int .i64 0, .int .i64 0, .int .i64 0, .slice none 0 0], .bool false]) (by simp [results, Tryd.results25, go_sem, j0, j1, j2, j3]) rfl ?_
      have HBr : Below w.heap.size w u2 := HB1.out.trans (HB2.out.mono (by omega))
      exact ⟨(((HBr.setCell (p := ⟨w.heap.size, 0, none⟩) (Nat.le_refl _) _).setCell (p := ⟨w.heap.size, 1, none⟩) (Nat.le_refl _) _).setCell (p := ⟨w.heap.size, 2, none⟩) (Nat.le_refl _) _).setCell (p := ⟨w.heap.size, 3, none⟩) (Nat.le_refl _) _, 0, 0, 0, [], none, 0, by rw [HPB.out]; rfl, World.ownsRow_nil _ _ _ _, fun e => by rw [HPB.out] at e; cases e⟩
  · have HPB : Hid ((parB t).2 = false) := parB_short h5
    have hcut' : Calls Tryd.prog 43 #[.string (str t), .int .u8 32] (w.alloc (.cells #[.int .i64 0, .int .i64 0, .int .i64 0, .slice none 0 0] 27)) fun e w' => ∃ va vc, e = .returned (.slice va (cutL 32 t).length vc) ∧ Hid (Below (w.heap.size + 1) (w.alloc (.cells #[.int .i64 0, .int .i64 0, .int .i64 0, .slice none 0 0] 27)) w') := hcut.mono fun e w' ⟨va, vc, e1, _, hb⟩ => ⟨va, vc, e1, by rw [hsz1] at hb; exact hb⟩
    obtain ⟨N, hN⟩ : ∃ N, N = (cutL 32 t).length := ⟨_, rfl⟩
    rw [← hN] at hcut' h5
    have hn5 : ((N : Int) == 5) = false := by simp; omega
    have hn6 : (N == 5) = false := by simp; omega
    clear hcut hN
    go_enter Tryd.func25, Tryd.ntmps25
    go_wp2_with (first
      | (go_at_call 43; (with_reducible refine hcut'.mono ?_); clear hcut'; rintro e u2 ⟨va, vc, rfl, HB2⟩; have HR2 : Hid (u2.heap[w.heap.size]? = some (.cells #[.int .i64 0, .int .i64 0, .int .i64 0, .slice none 0 0] 27 (0, 0))) := (HB2.out.block w.heap.size (by omega)).trans HR1.out; obtain ⟨r0, r1, r2, r3, r4, r5, r6, r7⟩ := cells4 HR2.out))
    obtain ⟨j0, j1, j2, j3⟩ := four_set HR2.out (.int .i64 0) (.int .i64 0) (.int .i64 0) (.slice none 0 0)
    refine bodyPost_ret (v := .tuple #[.agg #[.int .i64 0, .int .i64 0, .int .i64 0, .slice none 0 0], .bool false]) (by simp [results, Tryd.results25, go_sem, j0, j1, j2, j3]) rfl ?_
    have HBr : Below w.heap.size w u2 := HB1.out.trans (HB2.out.mono (by omega))
    exact ⟨(((HBr.setCell (p := ⟨w.heap.size, 0, none⟩) (Nat.le_refl _) _).setCell (p := ⟨w.heap.size, 1, none⟩) (Nat.le_refl _) _).setCell (p := ⟨w.heap.size, 2, none⟩) (Nat.le_refl _) _).setCell (p := ⟨w.heap.size, 3, none⟩) (Nat.le_refl _) _, 0, 0, 0, [], none, 0, by rw [HPB.out]; rfl, World.ownsRow_nil _ _ _ _, fun e => by rw [HPB.out] at e; cases e⟩

end Go.Proofs.YtlacmcedpphphaaDoor
