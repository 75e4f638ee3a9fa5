/- An iterator that turns a box of its own: the pieces of a text, told one by one. The specification's ParseBlock keeps its contract. Outs of the call's own: their row and their keys' rows; marks are written into them. Underscores replaced by blanks; outs appended; the program's readOut: what a word tells, or a panic. A transaction of the call's own: its refs' row and its outs; marks are written into it. The program's readWords: a transaction is read word by word, or the reading panics. The program's TxText keeps its contract. The program's readTx: what is read is told again and held against the text. Outs that are drawn: a few small ones, in memory of their own. Transactions that are drawn: whatever the bytes, some transaction, its ins and outs in memory of their own. Blocks that are drawn: whatever the bytes, some block, its numbers in memory of its own. Blocks that are drawn and bent: whatever the bytes, some block, its numbers in memory of its own. -/
import Derived.Test.YtagokfoimokniaaGreatDoorJn5
import Derived.Test.YtagokfoimokniaaGreatDoorJn3
import Derived.Test.YtagokfoimokniaaGreatDoorJn4
import Derived.Lib.IndexMore
import Derived.Lib.ParseIntBTie
import Derived.Test.YtagokfoimokniaaGreatDoorSh
import Derived.Test.YtagokfoimokniaaGreatDoorJn1
import Derived.Test.YtagokfoimokniaaGreatDoorJn2
import Derived.RangeFuncLeaves
import Derived.RangeFuncBox
import Derived.Maps.OwnIn
import Derived.Maps.AppendAt
import Derived.WalkLawsBesides
import Derived.OrdersIn
import Derived.Shelf.RegionOpen
import Derived.Lib.SplitLaws
namespace Go.Proofs.YtagokfoimokniaaGreatDoor
open Go.RowKit Go.Shelf Go.Maps Go.WideMaps
attribute [local go_sem] Oper.semAt_some

theorem grownBy_setCell (W : World) (a : Addr) (v : Value) : W.grownBy (W.setCell a v) (some a.block) :=
  ⟨rfl, rfl, rfl, by simp, fun k _ hk => Below.heap_setCell _ a v k (fun e => hk (by rw [e]))⟩
end Go.Proofs.YtagokfoimokniaaGreatDoor

namespace Go.Proofs.YtagokfoimokniaaGreatDoor
open Go.RowKit Go.Shelf Go.Maps Go.WideMaps

theorem Chg.cell {w w' : World} {lo hi b i : Nat} (h : Chg w w' lo hi) (hb : b < w.heap.size) (hd : b < lo ∨ hi ≤ b) : w'.cell? ⟨b, i, none⟩ = w.cell? ⟨b, i, none⟩ := World.cell?_of_block (h.block b hb hd)
end Go.Proofs.YtagokfoimokniaaGreatDoor

namespace Go.Proofs.YtagokfoimokniaaGreatDoor
open Go.RowKit Go.Maps Go.WideMaps

def CellsO (xs : List Value) (j : Nat) (o : Ou) (u : Value) : Prop :=
  xs[j * 4]? = some (.int .i64 o.v) ∧ xs[j * 4 + 1]? = some u ∧ xs[j * 4 + 2]? = some (.int .i64 o.x) ∧ xs[j * 4 + 3]? = some (.int .i64 o.y)
structure OOwn (w : World) (lo hi : Nat) (v : Value) (n : Nat) (f : Nat → Ou) (kv : Nat → Value) : Prop where
  row : ∃ xs, w.ownsRow lo 52 4 v n xs ∧ ∀ j, j < n → CellsO xs j (f j) (kv j)
  top : ∀ b, v.ownBlock = some b → b < hi
  keys : ∀ j, j < n → w.ownsRow lo 2 1 (kv j) (f j).l.length (ints (f j).l) ∧ ∀ b, (kv j).ownBlock = some b → b < hi
  apart : ∀ i j, i < j → j < n → ∀ b, (kv i).ownBlock = some b → (kv j).ownBlock ≠ some b
theorem OOwn.below {w w' : World} {lo hi n : Nat} {v : Value} {f : Nat → Ou} {kv : Nat → Value} (h : OOwn w lo hi v n f kv) (hb : Below w.heap.size w w') : OOwn w' lo hi v n f kv := by
  obtain ⟨xs, h1, h2⟩ := h.row
  exact ⟨⟨xs, h1.kept (grown_of_below hb) (by cases Value.ownBlock v <;> simp), h2⟩, h.top, fun j hj => ⟨(h.keys j hj).1.kept (grown_of_below hb) (by cases Value.ownBlock (kv j) <;> simp), (h.keys j hj).2⟩, h.apart⟩
theorem OOwn.chg {w w' : World} {lo hi n lo' hi' : Nat} {v : Value} {f : Nat → Ou} {kv : Nat → Value} (h : OOwn w lo hi v n f kv) (hc : Chg w w' lo' hi') (hd : hi ≤ lo' ∨ hi' ≤ lo) : OOwn w' lo hi v n f kv := by
  obtain ⟨xs, h1, h2⟩ := h.row
  refine ⟨⟨xs, hc.row h1 fun k hk => ?_, h2⟩, h.top, fun j hj => ⟨hc.row (h.keys j hj).1 fun k hk => ?_, (h.keys j hj).2⟩, h.apart⟩
  · have a := h.top k hk
    have b := (h1.lt k hk).1
    omega
  · have a := (h.keys j hj).2 k hk
    have b := ((h.keys j hj).1.lt k hk).1
    omega
theorem OOwn.at {w : World} {lo hi n g c : Nat} {os : List Ou} {kv : Nat → Value} (h : OOwn w lo hi (.slice (some ⟨g, 0, none⟩) n c) n (fun j => os.getD j O0) kv) (hn : os.length = n) (hl : ∀ j, j < n → (os.getD j O0).l.length ≤ 1048576) : OAt w (some ⟨g, 0, none⟩) n os := by
  obtain ⟨xs, h1, h2⟩ := h.row
  have hxl := h1.1
  refine ⟨hn, .inr ⟨g, 0, rfl, (h1.lt g rfl).2, fun j hj => ?_⟩⟩
  obtain ⟨e0, e1, e2, e3⟩ := h2 j hj
  have hk := (h.keys j hj).1
  obtain ⟨ka, kc, hkv⟩ : ∃ ka kc, kv j = .slice ka (os.getD j O0).l.length kc := by
    rcases hk.2 with ⟨q, q0⟩ | ⟨gg, cap, cur, q, _⟩
    · exact ⟨none, 0, by rw [q, q0]⟩
    · exact ⟨_, cap, q⟩
  rw [hkv] at e1 hk
  refine ⟨ka, (os.getD j O0).l.length, kc, ?_, ?_, ?_, ?_, by have := hl j hj; unfold maxLen; omega, IAt.owned hk rfl⟩
  · rw [Nat.zero_add, h1.cellAt (j * 4) (by omega), e0]
  · rw [Nat.zero_add, h1.cellAt (j * 4 + 1) (by omega), e1]
  · rw [Nat.zero_add, h1.cellAt (j * 4 + 2) (by omega), e2]
  · rw [Nat.zero_add, h1.cellAt (j * 4 + 3) (by omega), e3]

end Go.Proofs.YtagokfoimokniaaGreatDoor

namespace Go.Proofs.YtagokfoimokniaaGreatDoor
open Go.RowKit Go.Shelf Go.Maps Go.WideMaps

/-- An out more: what the append leaves. -/
theorem out_added {W : World} {lo X j : Nat} {v u : Value} {f : Nat → Ou} {kv : Nat → Value} {o : Ou} (h : OOwn W lo W.heap.size v j f kv) (hX : W.heap[X]? = some (.cells #[.int .i64 o.v, u, .int .i64 o.x, .int .i64 o.y] 52 (0, 0))) (hu1 : u.oneCell' = true) (hrow : W.ownsRow lo 2 1 u o.l.length (ints o.l)) (hap : ∀ i, i < j → ∀ b, (kv i).ownBlock = some b → u.ownBlock ≠ some b) (hj : j ≤ 1100000) (hlo : lo ≤ W.heap.size) (hf : f j = o) :
    ∃ g cap w5, (Builtin.append_ #[30, 30] 30 #[v, .slice (some ⟨X, 0, none⟩) 1 1]).run Tryz.prog W = .ok (.slice (some ⟨g, 0, none⟩) (j + 1) cap) w5 ∧
      Hid (OOwn w5 lo w5.heap.size (.slice (some ⟨g, 0, none⟩) (j + 1) cap) (j + 1) f (fun i => if i = j then u else kv i) ∧ W.grownBy w5 v.ownBlock) := by
  obtain ⟨i0, hi, hz0, hz1, hz2⟩ := info_parts Tryz.infoOut
  obtain ⟨xs, hown, hcells⟩ := h.row
  obtain ⟨v', w5, hrun, hown', hgrow, hsome⟩ := run_append_own (P := Tryz.prog) W lo 30 30 52 i0 (.agg #[.int .i64 0, .slice none 0 0, .int .i64 0, .int .i64 0]) 4 48 Tryz.underlying30 hi hz0 hz1 hz2 rfl (by decide) v j xs hown ⟨X, 0, none⟩ 1 1 [.int .i64 o.v, u, .int .i64 o.x, .int .i64 o.y] rfl (World.news_of_block hX) (by
    intro z hz
    simp only [List.mem_cons, List.not_mem_nil, or_false] at hz
    rcases hz with rfl | rfl | rfl | rfl <;> first | rfl | exact hu1) (by unfold maxLen; omega) (by omega) hlo
  obtain ⟨g, cap, rfl⟩ := ownsRow_succ hown'
  have hxl := hown.1
  have kp : ∀ (z : Value) (d : Nat) (zs : List Value), W.ownsRow lo 2 1 z d zs → w5.ownsRow lo 2 1 z d zs := fun z d zs hz => hz.kept hgrow (by
    cases e : z.ownBlock with
    | none => exact .inl rfl
    | some b => exact .inr fun e2 => rows_apart (by decide) hown hz b e2.symm e)
  refine ⟨g, cap, w5, hrun, ⟨⟨_, hown', fun i hi => ?_⟩, fun b hb => (hown'.lt b hb).2, fun i hi => ?_, fun i k hik hk b hb => ?_⟩, hgrow⟩
  · by_cases e : i = j
    · subst e
      rw [if_pos rfl, hf]
      refine ⟨?_, ?_, ?_, ?_⟩ <;> (rw [List.getElem?_append_right (by omega), hxl]; simp)
    · obtain ⟨a0, a1, a2, a3⟩ := hcells i (by omega)
      rw [if_neg e]
      refine ⟨?_, ?_, ?_, ?_⟩
      · rw [List.getElem?_append_left (by omega)]; exact a0
      · rw [List.getElem?_append_left (by omega)]; exact a1
      · rw [List.getElem?_append_left (by omega)]; exact a2
      · rw [List.getElem?_append_left (by omega)]; exact a3
  · by_cases e : i = j
    · subst e
      rw [if_pos rfl, hf]
      exact ⟨kp _ _ _ hrow, fun b hb => ((kp _ _ _ hrow).lt b hb).2⟩
    · rw [if_neg e]
      have := kp _ _ _ (h.keys i (by omega)).1
      exact ⟨this, fun b hb => (this.lt b hb).2⟩
  · rw [if_neg (by omega)] at hb
    by_cases e : k = j
    · rw [if_pos e]; exact hap i (by omega) b hb
    · rw [if_neg e]; exact h.apart i k hik (by omega) b hb

/-- Four cells set. -/
abbrev four (R : Nat) (u : World) (v0 v1 v2 v3 : Value) : World := (((u.setCell ⟨R, 0, none⟩ v0).setCell ⟨R, 1, none⟩ v1).setCell ⟨R, 2, none⟩ v2).setCell ⟨R, 3, none⟩ v3
end Go.Proofs.YtagokfoimokniaaGreatDoor

namespace Go.Proofs.YtagokfoimokniaaGreatDoor
open Go.RowKit Go.Maps Go.WideMaps

section
variable {w w' : World} {lo mid hi n m g0 c0 g1 c1 : Nat} {rs : List (Int × Int)} {os : List Ou} {kv : Nat → Value}
theorem Chg.wide {lo' hi' : Nat} (h : Chg w w' lo hi) (h1 : lo' ≤ lo) (h2 : hi ≤ hi') : Chg w w' lo' hi' := ⟨h.os, h.tape, h.output, h.size, fun b hb hd => h.block b hb (by omega)⟩
end

end Go.Proofs.YtagokfoimokniaaGreatDoor

namespace Go.Proofs.YtagokfoimokniaaGreatDoor
open Go.RowKit Go.Shelf Go.Maps Go.WideMaps

theorem OOwn.up {w : World} {lo hi hi' n : Nat} {v : Value} {f : Nat → Ou} {kv : Nat → Value} (h : OOwn w lo hi v n f kv) (hle : hi ≤ hi') : OOwn w lo hi' v n f kv :=
  ⟨h.row, fun b hb => Nat.lt_of_lt_of_le (h.top b hb) hle, fun j hj => ⟨(h.keys j hj).1, fun b hb => Nat.lt_of_lt_of_le ((h.keys j hj).2 b hb) hle⟩, h.apart⟩
theorem OOwn.ext {w : World} {lo hi n : Nat} {v : Value} {f f' : Nat → Ou} {kv : Nat → Value} (h : OOwn w lo hi v n f kv) (he : ∀ j, j < n → f j = f' j) : OOwn w lo hi v n f' kv := by
  obtain ⟨xs, h1, h2⟩ := h.row
  exact ⟨⟨xs, h1, fun j hj => by rw [← he j hj]; exact h2 j hj⟩, h.top, fun j hj => by rw [← he j hj]; exact h.keys j hj, h.apart⟩
theorem OOwn.none {w : World} {lo hi : Nat} {f : Nat → Ou} {kv : Nat → Value} : OOwn w lo hi (.slice Option.none 0 0) 0 f kv :=
  ⟨⟨[], World.ownsRow_nil _ _ _ _, fun j hj => by omega⟩, fun b hb => by simp [Value.ownBlock] at hb, fun j hj => by omega, fun i j _ hj => by omega⟩
theorem Chg.setNew {w W : World} {lo hi T i : Nat} (h : Chg w W lo hi) (hT : w.heap.size ≤ T) (u : Value) : Chg w (W.setCell ⟨T, i, none⟩ u) lo hi :=
  ⟨h.os, h.tape, h.output, by simpa using h.size, fun b hb ho => (Below.heap_setCell _ ⟨T, i, none⟩ u b (show b ≠ T by omega)).trans (h.block b hb ho)⟩

end Go.Proofs.YtagokfoimokniaaGreatDoor

namespace Go.Proofs.YtagokfoimokniaaGreatDoor
open Go.RowKit Go.Shelf Go.Maps Go.WideMaps

theorem blocks2T (w : World) (o o' : Obj) : ((w.alloc o).alloc o').heap[w.heap.size]? = some o ∧ ((w.alloc o).alloc o').heap[w.heap.size + 1]? = some o' ∧ ((w.alloc o).alloc o').heap.size = w.heap.size + 1 + 1 := by
  refine ⟨block_at2, ?_, by simp⟩
  rw [show w.heap.size + 1 = (w.alloc o).heap.size by simp]
  exact heap_alloc_new _ _

theorem tx_len {k f : Int} {rs : List (Int × Int)} {os : List Ou} (h : TxOk k f rs os) (hr : rs ≠ []) : (txT k f rs os).length ≤ 100000 := by
  have h1 : (headT k f).length ≤ 20 := by
    have := dec_len h.f.2
    unfold headT kindT
    rcases h.k with rfl | rfl | rfl <;> simp <;> omega
  have h2 : (refsT rs).length ≤ 201 := by
    rw [← refsW_refsT hr]
    have := refsW_len (rs := rs) h.n (fun r hr => by
      obtain ⟨i, hi, e⟩ := List.getElem_of_mem hr
      have h1 := h.r i hi
      have h2 : rs.getD i G0 = r := by rw [List.getD, List.getElem?_eq_getElem hi, ← e]; rfl
      rw [h2] at h1
      exact ⟨h1.1.2, h1.2.2⟩)
    simp; omega
  have h3 : (os.flatMap outT).length ≤ 112 * os.length := flat_len outT 112 os fun o ho => by
    obtain ⟨i, hi, e⟩ := List.getElem_of_mem ho
    have h1 := h.o i hi
    have h2 : os.getD i O0 = o := by rw [List.getD, List.getElem?_eq_getElem hi, ← e]; rfl
    rw [h2] at h1
    have a := dec_big h1.v.2
    have b := rtx_len h1
    unfold outT
    simp; omega
  have h4 := h.m
  unfold txT
  simp only [List.length_append]
  omega

theorem words_few {k f : Int} {rs : List (Int × Int)} {os : List Ou} (h : TxOk k f rs os) : (wordsT k f rs os).length ≤ 100 := by
  have h1 := h.m
  have h2 : (kindW k f).length ≤ 2 := by
    unfold kindW
    by_cases a : k = 0
    · simp [a]
    · by_cases b : k = 1 <;> simp [a, b]
  unfold wordsT
  simp
  omega

set_option maxHeartbeats 2000000 in
theorem iTxText_any (n c m d : Nat) (ia oa : Option Addr) (k f : Int) (rs : List (Int × Int)) (os : List Ou) (w : World) (hn : n ≤ 1048576) (hm : m ≤ 1048576) (hc1 : n ≤ c) (hc2 : c ≤ maxLen) (hk : ∀ j, j < m → (os.getD j O0).l.length ≤ 1048576) (h : TxAt w ia n oa m rs os) (hE : Ev w) (hlen : txR k f rs os = 0 → (txT k f rs os).length ≤ 100000) :
    Calls Tryz.prog 10 #[.agg #[.int .i64 k, .int .i64 f, .slice ia n c, .slice oa m d]] w fun e w' => e = .returned (.agg #[.int .i64 (ttR k f rs os).1, .string (str (ttR k f rs os).2)]) ∧ Below w.heap.size w w' := by
  obtain ⟨t0, t1, t2⟩ := blocks2T w (.cells #[.int .i64 k, .int .i64 f, .slice ia n c, .slice oa m d] 32) (.cells #[.int .i64 0, .string ⟨#[]⟩] 43)
  have hbx : Below w.heap.size w ((w.alloc (.cells #[.int .i64 k, .int .i64 f, .slice ia n c, .slice oa m d] 32)).alloc (.cells #[.int .i64 0, .string ⟨#[]⟩] 43)) := below_box2 _ _
  have hS := iTxFault_any n c m d ia oa k f rs os ((w.alloc (.cells #[.int .i64 k, .int .i64 f, .slice ia n c, .slice oa m d] 32)).alloc (.cells #[.int .i64 0, .string ⟨#[]⟩] 43)) hn hm hc1 hc2 hk (h.below hbx (Nat.le_refl _))
  have HBX : Hid (Below w.heap.size w ((w.alloc (.cells #[.int .i64 k, .int .i64 f, .slice ia n c, .slice oa m d] 32)).alloc (.cells #[.int .i64 0, .string ⟨#[]⟩] 43))) := hbx
  have T0 : Hid (((w.alloc (.cells #[.int .i64 k, .int .i64 f, .slice ia n c, .slice oa m d] 32)).alloc (.cells #[.int .i64 0, .string ⟨#[]⟩] 43)).heap[w.heap.size]? = some (.cells #[.int .i64 k, .int .i64 f, .slice ia n c, .slice oa m d] 32 (0, 0))) := t0
  have T1 : Hid (((w.alloc (.cells #[.int .i64 k, .int .i64 f, .slice ia n c, .slice oa m d] 32)).alloc (.cells #[.int .i64 0, .string ⟨#[]⟩] 43)).heap[w.heap.size + 1]? = some (.cells #[.int .i64 0, .string ⟨#[]⟩] 43 (0, 0))) := t1
  have HT : Hid (TxAt w ia n oa m rs os) := h
  have HE : Hid (Ev w) := hE
  obtain ⟨cd, hcd⟩ : ∃ r, r = txR k f rs os := ⟨_, rfl⟩
  rw [← hcd] at hS
  clear h hE hbx t0 t1 t2 hk
  by_cases hz : cd = 0
  · subst hz
    have HOK : Hid (TxOk k f rs os) := txOk_of hcd
    have HRL : Hid (∀ j, j < os.length → ruleR (os.getD j O0).l (os.getD j O0).x (os.getD j O0).y = 0) := (tx_more hcd).2
    obtain ⟨t, ht⟩ : ∃ t, t = txT k f rs os := ⟨_, rfl⟩
    have hl2 := hlen hcd.symm
    have HJ : Hid (∀ v N W base, World.ownsRow W base 9 1 v N (texts (wordsT k f rs os)) → Calls Tryz.prog 37 #[v, .string ⟨#[32]⟩] W fun e w' => e = .returned (.string (str t)) ∧ Below W.heap.size W w') := fun v N W base hrow => by
      have e := join_words (k := k) (f := f) (rs := rs) (os := os) HOK.out.k (tx_more hcd).1
      have hNl : N = (wordsT k f rs os).length := by have := hrow.1; simp [texts] at this; omega
      rw [ht, ← e]
      exact join_any 32 v W hrow hNl (words_few HOK.out) (by rw [e]; exact hl2)
    have hss : (str t).size = t.length := rfl
    by_cases hlen3 : 300 < t.length
    · have hr : ttR k f rs os = (2, []) := by unfold ttR; rw [← hcd, if_neg (by simp), ← ht, if_pos hlen3]
      rw [hr]
      clear hr hcd ht hl2 hlen
      have hli : (300 : Int) < (t.length : Int) := by omega
      go_enter Tryz.func10, Tryz.ntmps10
      go_wp2_with (first
        | (go_at_call 33; (with_reducible refine hS.mono ?_); clear hS; rintro e w2 ⟨rfl, hb2⟩; have HT2 := keepb T1.out hb2; have HP2 := keepb T0.out hb2; have HBW : Hid (Below w.heap.size w w2) := HBX.out.trans (hb2.mono (by simp; omega)); obtain ⟨p0, p1, p2, p3, _⟩ := cells4 HP2.out; have hwd := txWords_any n c m d ia oa k f rs os w2 HOK.out HRL.out (HT.out.below HBW.out (Nat.le_refl _)) (HE.out.below HBW.out (Nat.le_refl _)); clear hb2)
        | (go_at_call 38; (with_reducible refine hwd.mono ?_); clear hwd; rintro e w3 ⟨v, N, rfl, hrow, hb3⟩; have HT3 := keepb HT2.out hb3; have HBV : Hid (Below w.heap.size w w3) := HBW.out.trans (hb3.mono HBW.out.size); have hJ := HJ.out v N w3 _ hrow; clear hb3 hrow)
        | (go_at_call 37; (with_reducible refine hJ.mono ?_); clear hJ; rintro e w4 ⟨rfl, hb4⟩; have HBU : Hid (Below w.heap.size w w4) := HBV.out.trans (hb4.mono HBV.out.size); obtain ⟨q0, q1, q2, q3, HR⟩ := res_cells HT3.out hb4 (lt_of_block HT3.out); clear hb4))
      obtain ⟨s0, s1, s2⟩ := two_set HR.out (.int .i64 2) (.string ⟨#[]⟩)
      exact bodyPost_ret (v := .agg #[.int .i64 2, .string ⟨#[]⟩]) (by simp [results, Tryz.results10, go_sem, s0, s1]) rfl ⟨rfl, below_res HBU.out _ _⟩
    · have hr : ttR k f rs os = (0, t) := by unfold ttR; rw [← hcd, if_neg (by simp), ← ht, if_neg hlen3]
      rw [hr]
      clear hr hcd ht hl2 hlen
      have hli : ¬ (300 : Int) < (t.length : Int) := by omega
      go_enter Tryz.func10, Tryz.ntmps10
      go_wp2_with (first
        | (go_at_call 33; (with_reducible refine hS.mono ?_); clear hS; rintro e w2 ⟨rfl, hb2⟩; have HT2 := keepb T1.out hb2; have HP2 := keepb T0.out hb2; have HBW : Hid (Below w.heap.size w w2) := HBX.out.trans (hb2.mono (by simp; omega)); obtain ⟨p0, p1, p2, p3, _⟩ := cells4 HP2.out; have hwd := txWords_any n c m d ia oa k f rs os w2 HOK.out HRL.out (HT.out.below HBW.out (Nat.le_refl _)) (HE.out.below HBW.out (Nat.le_refl _)); clear hb2)
        | (go_at_call 38; (with_reducible refine hwd.mono ?_); clear hwd; rintro e w3 ⟨v, N, rfl, hrow, hb3⟩; have HT3 := keepb HT2.out hb3; have HBV : Hid (Below w.heap.size w w3) := HBW.out.trans (hb3.mono HBW.out.size); have hJ := HJ.out v N w3 _ hrow; clear hb3 hrow)
        | (go_at_call 37; (with_reducible refine hJ.mono ?_); clear hJ; rintro e w4 ⟨rfl, hb4⟩; have HBU : Hid (Below w.heap.size w w4) := HBV.out.trans (hb4.mono HBV.out.size); obtain ⟨q0, q1, q2, q3, HR⟩ := res_cells HT3.out hb4 (lt_of_block HT3.out); clear hb4))
      obtain ⟨s0, s1, s2⟩ := two_set HR.out (.int .i64 0) (.string (str t))
      exact bodyPost_ret (v := .agg #[.int .i64 0, .string (str t)]) (by simp [results, Tryz.results10, go_sem, s0, s1]) rfl ⟨rfl, below_res HBU.out _ _⟩
  · have hr : ttR k f rs os = (cd, []) := by unfold ttR; rw [← hcd, if_pos hz]
    rw [hr]
    clear hr hcd hlen
    go_enter Tryz.func10, Tryz.ntmps10
    go_wp2_with (first
      | (go_at_call 33; (with_reducible refine hS.mono ?_); clear hS; rintro e w2 ⟨rfl, hb2⟩; obtain ⟨q0, q1, q2, q3, HR⟩ := res_cells T1.out hb2 (by simp); have HBW : Hid (Below w.heap.size w w2) := HBX.out.trans (hb2.mono (by simp; omega)); clear hb2))
    obtain ⟨s0, s1, s2⟩ := two_set HR.out (.int .i64 cd) (.string ⟨#[]⟩)
    exact bodyPost_ret (v := .agg #[.int .i64 cd, .string ⟨#[]⟩]) (by simp [results, Tryz.results10, go_sem, s0, s1]) rfl ⟨rfl, below_res HBW.out _ _⟩

end Go.Proofs.YtagokfoimokniaaGreatDoor

namespace Go.Proofs.YtagokfoimokniaaGreatDoor
open Go.RowKit Go.Shelf Go.Maps Go.WideMaps

theorem OOwn.at2 {w : World} {lo hi m oc : Nat} {oa : Option Addr} {os : List Ou} {kv : Nat → Value} (h : OOwn w lo hi (.slice oa m oc) m (fun j => os.getD j O0) kv) (hn : os.length = m) (hl : ∀ o ∈ os, o.l.length ≤ 3) : OAt w oa m os := by
  obtain ⟨xs, h1, _⟩ := h.row
  rcases h1.2 with ⟨q, q0⟩ | ⟨g, cap, cur, q, _⟩
  · exact ⟨hn, .inl q0⟩
  · cases q
    exact h.at hn fun j hj => Nat.le_trans (hl _ (getD_mem (by omega))) (by omega)
end Go.Proofs.YtagokfoimokniaaGreatDoor

namespace Go.Proofs.YtagokfoimokniaaGreatDoor
open Go.RowKit Go.Shelf Go.Maps Go.WideMaps

set_option maxHeartbeats 2000000 in
theorem l1NextBigO_any (SB cn cc t : Nat) (ca : Option Addr) (l : List Int) (k : Int) (w v : World) (hk0 : 200 < k) (hk : k ≤ 1000) (ht : t ≤ 1000) (hcn : cn ≤ 1048577) (hB : BAt w ca cn l) (h : Src w v SB ca cn cc t) :
    Calls Tryz.prog 18 #[.pointer (some ⟨SB, 0, none⟩), .int .i64 k] v fun e v' => ∃ r : Int, e = .returned (.int .i64 r) ∧ (0 ≤ r ∧ r < k) ∧ Src w v' SB ca cn cc (t + 1) ∧ Chg v v' SB (SB + 1) := by
  obtain ⟨c0, c1⟩ := cells2 h.box
  have hn := h.next
  have hc1 : Chg v (v.setCell ⟨SB, 1, none⟩ (.int .i64 ((t : Int) + 1))) SB (SB + 1) := Chg.of_set (Nat.le_refl _) (Nat.lt_succ_self _) _ _
  have f1 : v.frozen? ⟨SB, 1, none⟩ = false := Joins.unfrozen_of_block h.box 1
  obtain ⟨d0, d1⟩ := cells2 hn.box
  have HN : Hid (Src w (v.setCell ⟨SB, 1, none⟩ (.int .i64 ((t : Int) + 1))) SB ca cn cc (t + 1)) := hn
  have HC : Hid (Chg v (v.setCell ⟨SB, 1, none⟩ (.int .i64 ((t : Int) + 1))) SB (SB + 1)) := hc1
  clear hn hc1
  have hti : ((t + 1 : Nat) : Int) = (t : Int) + 1 := by omega
  rw [hti] at d1
  have hk1 : ¬ k < 1 := by omega
  by_cases hc0 : cn = 0
  · subst hc0
    clear hB
    go_enter Tryz.func18, Tryz.ntmps18
    go_wp2
    go_ret
    exact ⟨_, rfl, ⟨Int.emod_nonneg _ (by omega), Int.emod_lt_of_pos _ (by omega)⟩, HN.out, HC.out⟩
  · rcases hB.2 with h0 | ⟨b, off, rfl, hbl, hcell⟩
    · exact absurd h0 hc0
    obtain ⟨j, hj, hjl⟩ : ∃ j : Nat, (t : Int).tmod (cn : Int) = (j : Int) ∧ j < cn := ⟨t % cn, by rw [Int.tmod_eq_emod_of_nonneg (by omega)]; omega, Nat.mod_lt _ (by omega)⟩
    obtain ⟨j2, hj2, hjl2⟩ : ∃ j : Nat, ((t : Int) + 1).tmod (cn : Int) = (j : Int) ∧ j < cn := ⟨(t + 1) % cn, by rw [Int.tmod_eq_emod_of_nonneg (by omega), show (t : Int) + 1 = ((t + 1 : Nat) : Int) by omega]; omega, Nat.mod_lt _ (by omega)⟩
    obtain ⟨q, hq, hql⟩ : ∃ q : Nat, (t : Int).tdiv (cn : Int) = (q : Int) ∧ q ≤ t := ⟨t / cn, by rw [Int.tdiv_eq_ediv_of_nonneg (by omega)]; omega, Nat.div_le_self _ _⟩
    have hx := (HN.out.bel.cell (p := ⟨b, off + j, none⟩) hbl).trans (hcell j hjl)
    have hx2 := (HN.out.bel.cell (p := ⟨b, off + j2, none⟩) hbl).trans (hcell j2 hjl2)
    have hrange := hB.1 j
    have hrange2 := hB.1 j2
    obtain ⟨x, hxe⟩ : ∃ x, x = l.getD j 0 := ⟨_, rfl⟩
    obtain ⟨x2, hxe2⟩ : ∃ x, x = l.getD j2 0 := ⟨_, rfl⟩
    rw [← hxe] at hx hrange
    rw [← hxe2] at hx2 hrange2
    have hji : (j : Int) < (cn : Int) := by omega
    have hji2 : (j2 : Int) < (cn : Int) := by omega
    have hcz : (cn : Int) ≠ 0 := by omega
    have w1 : IntKind.i64.wrap ((q : Int) * 37) = (q : Int) * 37 := IntWalk.i64_in _ (by omega)
    have w2 : IntKind.i64.wrap (x + (q : Int) * 37) = x + (q : Int) * 37 := IntWalk.i64_in _ (by omega)
    have w3 : IntKind.i64.wrap ((x + (q : Int) * 37) * 251) = (x + (q : Int) * 37) * 251 := IntWalk.i64_in _ (by omega)
    have w4 : IntKind.i64.wrap (x2 * 13) = x2 * 13 := IntWalk.i64_in _ (by omega)
    have w5 : IntKind.i64.wrap ((x + (q : Int) * 37) * 251 + x2 * 13) = (x + (q : Int) * 37) * 251 + x2 * 13 := IntWalk.i64_in _ (by omega)
    have w6 : IntKind.i64.wrap ((x + (q : Int) * 37) * 251 + x2 * 13 + (t : Int)) = (x + (q : Int) * 37) * 251 + x2 * 13 + (t : Int) := IntWalk.i64_in _ (by omega)
    have w7 : IntKind.i64.wrap ((t : Int) + 1) = (t : Int) + 1 := IntWalk.i64_in _ (by omega)
    clear hcell hxe hxe2 hB
    go_enter Tryz.func18, Tryz.ntmps18
    go_wp2
    go_quiet (fail)
    go_wp2
    go_quiet (fail)
    go_wp2
    go_ret
    refine ⟨_, rfl, ⟨Int.emod_nonneg _ (by omega), Int.emod_lt_of_pos _ (by omega)⟩, ?_, ?_⟩
    · first | exact HN.out.step (Joins.below_draws _ _ _) | exact (HN.out.step (Joins.below_draws _ _ _)).step (Joins.below_draws _ _ _)
    · first | exact HC.out.trans (Chg.of_below (Joins.below_draws _ _ _) _ _) | exact (HC.out.trans (Chg.of_below (Joins.below_draws _ _ _) _ _)).trans (Chg.of_below (Joins.below_draws _ _ _) _ _)

/-- What is told of an out that is drawn. -/
def KO (o : Ou) : Prop := (1 ≤ o.v ∧ o.v ≤ 300) ∧ KR o.l o.x o.y

/-- Outs under way, drawn since v: their tops lie below hi. -/
structure DoS (w v V : World) (SB : Nat) (ca : Option Addr) (cn cc t hi : Nat) (va : Option Addr) (vc : Nat) (os : List Ou) : Prop where
  src : Src w V SB ca cn cc t
  chg : Chg v V SB (SB + 1)
  own : ∃ kv, OOwn V v.heap.size hi (.slice va os.length vc) os.length (fun j => os.getD j O0) kv
  ok : ∀ o ∈ os, KO o
  ord : SB < v.heap.size ∧ hi ≤ V.heap.size
section
variable {w v V V' : World} {SB cn cc t t' hi vc : Nat} {ca va : Option Addr} {os : List Ou}
theorem DoS.draw (h : DoS w v V SB ca cn cc t hi va vc os) (hS : Src w V' SB ca cn cc t') (hc : Chg V V' SB (SB + 1)) : DoS w v V' SB ca cn cc t' hi va vc os := by
  obtain ⟨kv, hk⟩ := h.own
  exact ⟨hS, h.chg.trans hc, ⟨kv, hk.chg hc (.inr h.ord.1)⟩, h.ok, h.ord.1, Nat.le_trans h.ord.2 hc.size⟩
theorem DoS.step (h : DoS w v V SB ca cn cc t hi va vc os) (hb : Below V.heap.size V V') : DoS w v V' SB ca cn cc t hi va vc os := h.draw (h.src.step hb) (Chg.of_below hb _ _)
theorem DoS.grow {W' : World} (h : DoS w v V SB ca cn cc t hi va vc os) {row : Option Nat} (hg : V.grownBy W' row) (hr : ∀ k, row = some k → v.heap.size ≤ k) : Src w W' SB ca cn cc t ∧ Chg v W' SB (SB + 1) := by
  have h1 := h.src.lt
  have h2 := h.ord.1
  have h3 := h.src.sb
  refine ⟨⟨(hg.block SB h1 (fun e => by have := hr SB e.symm; omega)).trans h.src.box, h.src.bel.grown hg (by omega) (fun k hk => by have := hr k hk; omega), h3⟩, ?_⟩
  exact ⟨hg.os.trans h.chg.os, hg.tape.trans h.chg.tape, hg.output.trans h.chg.output, Nat.le_trans h.chg.size hg.size, fun b hb hd => (hg.block b (Nat.lt_of_lt_of_le hb h.chg.size) (fun e => by have := hr b e.symm; omega)).trans (h.chg.block b hb hd)⟩
theorem DoS.more (h : DoS w v V SB ca cn cc t hi va vc os) {B kc : Nat} {ka : Option Addr} {r x y : Int} {l : List Int} (hhi : hi ≤ B) (hvB : v.heap.size ≤ B) (hr : V.ownsRow B 2 1 (.slice ka l.length kc) l.length (ints l)) (hok : KO ⟨r, l, x, y⟩) (hm : os.length ≤ 100) :
    ∃ g cap w5, (Builtin.append_ #[30, 30] 30 #[.slice va os.length vc, .slice (some ⟨V.heap.size, 0, none⟩) 1 1]).run Tryz.prog (V.alloc (.cells #[.int .i64 r, .slice ka l.length kc, .int .i64 x, .int .i64 y] 52)) = .ok (.slice (some ⟨g, 0, none⟩) (os.length + 1) cap) w5 ∧
      Hid (DoS w v w5 SB ca cn cc t w5.heap.size (some ⟨g, 0, none⟩) cap (os ++ [⟨r, l, x, y⟩])) := by
  have hs := h.step (below_box (.cells #[.int .i64 r, .slice ka l.length kc, .int .i64 x, .int .i64 y] 52))
  obtain ⟨kv, hk⟩ := hs.own
  have hX := heap_alloc_new V (.cells #[.int .i64 r, .slice ka l.length kc, .int .i64 x, .int .i64 y] 52)
  have hsz : v.heap.size ≤ (V.alloc (.cells #[.int .i64 r, .slice ka l.length kc, .int .i64 x, .int .i64 y] 52)).heap.size := hs.chg.size
  obtain ⟨g, cap, w5, hrun, hO, hg⟩ := out_added (f := fun i => (os ++ [(⟨r, l, x, y⟩ : Ou)]).getD i O0) (o := ⟨r, l, x, y⟩) ((hk.up hs.ord.2).ext (fun j hj => by
    rw [List.getD, List.getD, List.getElem?_append_left hj])) hX rfl (Joins.ownsRow_le (hr.alloc _) hvB) (fun i hi' b hb e => by
      have h1 := (hk.keys i hi').2 b hb
      have h2 := (hr.lt b e).1
      omega) (by omega) hsz (by simp [List.getD])
  refine ⟨g, cap, w5, hrun, ?_⟩
  obtain ⟨xs, hrow, _⟩ := hk.row
  obtain ⟨q1, q2⟩ := hs.grow hg (fun k e => (hrow.lt k e).1)
  refine ⟨q1, q2, ⟨_, by rw [List.length_append]; exact hO⟩, fun o ho => ?_, h.ord.1, Nat.le_refl _⟩
  rcases List.mem_append.1 ho with q | q
  · exact h.ok o q
  · simp only [List.mem_cons, List.not_mem_nil, or_false] at q
    rw [q]; exact hok
theorem DoS.keys (h : DoS w v V SB ca cn cc t hi va vc os) (j : Nat) (hj : j < os.length) : (os.getD j O0).l.length ≤ 3 := (h.ok _ (getD_mem hj)).2.1.2
theorem DoS.at (h : DoS w v V SB ca cn cc t hi va vc os) : OAt V va os.length os := by
  obtain ⟨kv, hk⟩ := h.own
  exact hk.at2 rfl fun o ho => (h.ok o ho).2.1.2
theorem DoS.first (hS : Src w v SB ca cn cc t) : DoS w v (v.alloc (.cells #[] 52)) SB ca cn cc t (v.heap.size + 1) (some ⟨v.heap.size, 0, none⟩) 0 [] :=
  ⟨hS.step (below_box _), Chg.of_below (below_box _) _ _, ⟨fun _ => .slice none 0 0, ⟨[], ⟨rfl, .inr ⟨v.heap.size, 0, #[], rfl, Nat.le_refl _, heap_alloc_new _ _, Nat.le_refl _, by unfold maxLen; omega, rfl, rfl⟩⟩, fun j hj => (by simp at hj)⟩, fun b hb => (by simp [Value.ownBlock] at hb; omega), fun j hj => (by simp at hj), fun i j _ hj => (by simp at hj)⟩, fun o ho => (by cases ho), hS.lt, by simp⟩
end

/-- Outs that were drawn. -/
def OutDo (w v : World) (SB : Nat) (ca : Option Addr) (cn cc T : Nat) (e : Ending) (v' : World) : Prop :=
  ∃ (os : List Ou) (va : Option Addr) (vc t' : Nat), e = .returned (.slice va os.length vc) ∧ os.length ≤ 3 ∧ t' ≤ T ∧ Hid (DoS w v v' SB ca cn cc t' v'.heap.size va vc os)

set_option maxRecDepth 20000 in
set_option maxHeartbeats 4000000 in
theorem l4DrawOuts_any (SB cn cc t : Nat) (ca : Option Addr) (l0 : List Int) (w v : World) (ht : t ≤ 800) (hcn : cn ≤ 1048577) (hB : BAt w ca cn l0) (h : Src w v SB ca cn cc t) :
    Calls Tryz.prog 101 #[.pointer (some ⟨SB, 0, none⟩)] v fun e v' => OutDo w v SB ca cn cc (t + 25) e v' := by
  have HBA : Hid (BAt w ca cn l0) := hB
  have hD0 := DoS.first h
  have HD0 : Hid (DoS w v (v.alloc (.cells #[] 52)) SB ca cn cc t (v.heap.size + 1) (some ⟨v.heap.size, 0, none⟩) 0 []) := hD0
  have h1 := l1Next_any SB cn cc t ca l0 4 w (v.alloc (.cells #[] 52)) (by omega) (by omega) hcn hB hD0.src
  clear hB h hD0
  go_enter Tryz.func101, Tryz.ntmps101
  go_wp2_with (first
    | (go_at_call 18; have hq := h1; clear h1; (with_reducible refine hq.mono ?_); clear hq; rintro e v2 ⟨r1, rfl, ⟨a1, b1⟩, hS2, hc2⟩; have b1' : r1 < 4 := b1 (by omega); clear b1; have HD2 : Hid (DoS w v v2 SB ca cn cc (t + 1) (v.heap.size + 1) (some ⟨v.heap.size, 0, none⟩) 0 []) := HD0.out.draw hS2 hc2; clear hS2 hc2 HD0))
  obtain ⟨k2, rfl⟩ := Int.eq_ofNat_of_zero_le a1
  go_loopw [3, 4] (fun u i wr => ∃ k : Nat, k ≤ 3 ∧ i = .int .i64 k ∧ ∃ (va : Option Addr) (m vc : Nat), u = .slice va m vc ∧ Hid (∃ (t' hi : Nat) (os : List Ou), m = os.length ∧ DoS w v wr SB ca cn cc t' hi va vc os ∧ os.length + k ≤ 3 ∧ t' + 8 * k ≤ t + 25)) (fun _ i _ => (intOf i).toNat)
  case atStart => exact ⟨k2, by omega, rfl, some ⟨v.heap.size, 0, none⟩, 0, 0, rfl, _, _, [], rfl, HD2.out, by simp only [List.length_nil]; omega, by omega⟩
  case round =>
    obtain ⟨k, hk, rfl, va, m, vc, rfl, HI⟩ := hrel
    obtain ⟨t', hi, os, hm, hD, hl3, htk⟩ := HI.out
    have HD : Hid (DoS w v wr SB ca cn cc t' hi va vc os) := hD
    by_cases hk0 : 0 < k
    · obtain ⟨k', rfl⟩ : ∃ k', k = k' + 1 := ⟨k - 1, by omega⟩
      have hki : (0 : Int) < ((k' + 1 : Nat) : Int) := by omega
      have hx := l1NextBigO_any SB cn cc t' ca l0 300 w wr (by omega) (by omega) (by omega) hcn HBA.out hD.src
      subst hm
      clear HI hD
      go_wp2_with (first
        | (go_at_call 18; have hq := hx; clear hx; (with_reducible refine hq.mono ?_); clear hq; rintro e v3 ⟨r3, rfl, ⟨a3, b3⟩, hS3, hc3⟩; have hw3 := IntWalk.i64_in (1 + r3) (by omega); have HD3 : Hid (DoS w v v3 SB ca cn cc (t' + 1) hi va vc os) := HD.out.draw hS3 hc3; have hx2 := l2Draw_any SB cn cc (t' + 1) ca l0 w v3 (by omega) hcn HBA.out hS3; clear hS3 hc3)
        | (go_at_call 103; have hq := hx2; clear hx2; (with_reducible refine hq.mono ?_); clear hq; rintro e v4 ⟨l, x, y, ka, kc, t4, rfl, HR4, HK4, ht4, HS4, HC4⟩; have HD4 : Hid (DoS w v v4 SB ca cn cc t4 hi va vc os) := HD3.out.draw HS4.out HC4.out; obtain ⟨g5, c5, v5, hrun, HD5⟩ := HD4.out.more (r := 1 + r3) (x := x) (y := y) HD3.out.ord.2 HD3.out.chg.size HR4.out ⟨⟨by show 1 ≤ 1 + r3; omega, by show 1 + r3 ≤ 300; omega⟩, HK4.out⟩ (by omega))
        | (at_builtin; go_must (refine wpList_append_runC (by rfl) _ _ _ (by rfl) (by rfl) (by rfl) hrun ?_); clear hrun))
      go_roundw
      case rel => exact ⟨k', by omega, by go_num, some ⟨g5, 0, none⟩, os.length + 1, c5, rfl, t4, v5.heap.size, os ++ [⟨1 + r3, l, x, y⟩], by simp, HD5.out, by simp only [List.length_append, List.length_cons, List.length_nil]; omega, by omega⟩
      case measure => simp [intOf]
    · obtain rfl : k = 0 := by omega
      subst hm
      go_wp2
      go_ret
      exact ⟨os, va, vc, t', rfl, by omega, by omega, ⟨hD.src, hD.chg, by obtain ⟨kv, hk⟩ := hD.own; exact ⟨kv, hk.up hD.ord.2⟩, hD.ok, hD.ord.1, Nat.le_refl _⟩⟩

end Go.Proofs.YtagokfoimokniaaGreatDoor

namespace Go.Proofs.YtagokfoimokniaaGreatDoor
open Go.RowKit Go.Shelf Go.Maps Go.WideMaps

theorem row_neT {V : World} {base n LB sz : Nat} {e : TypeId} {u : Value} {xs : List Value} {cs : Array Value} {fz : Nat × Nat} (he : e ≠ 32) (hr : V.ownsRow base e sz u n xs) (hb : V.heap[LB]? = some (.cells cs 32 fz)) : ∀ b, u.ownBlock = some b → b ≠ LB := by
  intro b hbb e0
  subst e0
  rcases hr.2 with ⟨e1, _⟩ | ⟨g, cap, cur, e1, _, h2, _⟩
  · rw [e1] at hbb; cases hbb
  · rw [e1] at hbb
    have e2 : g = b := by simpa [Value.ownBlock] using hbb
    subst e2
    rw [h2] at hb
    have := Option.some.inj hb
    injection this with _ e3
    exact absurd e3 he
theorem OOwn.turn {V W : World} {lo hi n : Nat} {u : Value} {f : Nat → Ou} {kv : Nat → Value} {row : Option Nat} (h : OOwn V lo hi u n f kv) (hg : V.grownBy W row) (h0 : ∀ b, u.ownBlock = some b → row ≠ some b) (h1 : ∀ j, j < n → ∀ b, (kv j).ownBlock = some b → row ≠ some b) : OOwn W lo hi u n f kv := by
  obtain ⟨xs, q1, q2⟩ := h.row
  refine ⟨⟨xs, q1.kept hg ?_, q2⟩, h.top, fun j hj => ⟨(h.keys j hj).1.kept hg ?_, (h.keys j hj).2⟩, h.apart⟩
  · cases e : u.ownBlock with
    | none => exact .inl rfl
    | some b => exact .inr fun e2 => h0 b e e2.symm
  · cases e : (kv j).ownBlock with
    | none => exact .inl rfl
    | some b => exact .inr fun e2 => h1 j hj b e e2.symm
theorem setT_oown {V : World} {lo hi n T i : Nat} {u z : Value} {f : Nat → Ou} {kv : Nat → Value} {cs : Array Value} {fz : Nat × Nat} (h : OOwn V lo hi u n f kv) (hb : V.heap[T]? = some (.cells cs 32 fz)) : OOwn (V.setCell ⟨T, i, none⟩ z) lo hi u n f kv := by
  obtain ⟨xs, q1, _⟩ := h.row
  exact h.turn (grownBy_setCell V ⟨T, i, none⟩ z) (fun b e e2 => row_neT (by decide) q1 hb b e (Option.some.inj e2).symm) (fun j hj b e e2 => row_neT (by decide) (h.keys j hj).1 hb b e (Option.some.inj e2).symm)

/-- A transaction whose ins and outs lie in memory that was laid since v. -/
structure OwT (w v V : World) (SB : Nat) (ca : Option Addr) (cn cc t : Nat) (ia : Option Addr) (ic : Nat) (rs : List (Int × Int)) (oa : Option Addr) (oc : Nat) (os : List Ou) : Prop where
  src : Src w V SB ca cn cc t
  chg : Chg v V SB (SB + 1)
  ref : V.ownsRow v.heap.size 47 2 (.slice ia rs.length ic) rs.length (gcells rs)
  out : ∃ kv, OOwn V v.heap.size V.heap.size (.slice oa os.length oc) os.length (fun j => os.getD j O0) kv
  ord : SB < v.heap.size
/-- The block T of one under way, the result's block behind what was there. -/
structure TqB (w v V : World) (SB : Nat) (ca : Option Addr) (cn cc t T : Nat) (k f : Int) (u2 u3 : Value) : Prop where
  box : V.heap[T]? = some (.cells #[.int .i64 k, .int .i64 f, u2, u3] 32 (0, 0))
  res : V.heap[v.heap.size]? = some (.cells #[.int .i64 0, .int .i64 0, .slice none 0 0, .slice none 0 0] 32 (0, 0))
  src : Src w V SB ca cn cc t
  chg : Chg v V SB (SB + 1)
  ord : SB < v.heap.size ∧ v.heap.size < T
/-- One under way, its ins and outs in memory of their own. -/
structure TqD (w v V : World) (SB : Nat) (ca : Option Addr) (cn cc t T : Nat) (k f : Int) (ia : Option Addr) (ic : Nat) (rs : List (Int × Int)) (oa : Option Addr) (oc : Nat) (os : List Ou) : Prop where
  b : TqB w v V SB ca cn cc t T k f (.slice ia rs.length ic) (.slice oa os.length oc)
  ref : V.ownsRow (v.heap.size + 1) 47 2 (.slice ia rs.length ic) rs.length (gcells rs)
  out : ∃ kv, OOwn V (v.heap.size + 1) V.heap.size (.slice oa os.length oc) os.length (fun j => os.getD j O0) kv
section
variable {w v V V' : World} {SB : Nat} {ca : Option Addr} {cn cc t t' T : Nat} {k f k' f' : Int} {ia ia' : Option Addr} {ic ic' : Nat} {rs rs' : List (Int × Int)} {oa oa' : Option Addr} {oc oc' : Nat} {os os' : List Ou} {u2 u3 u2' u3' : Value}
theorem OwT.draw (H : OwT w v V SB ca cn cc t ia ic rs oa oc os) (hS : Src w V' SB ca cn cc t') (hc : Chg V V' SB (SB + 1)) : OwT w v V' SB ca cn cc t' ia ic rs oa oc os := by
  obtain ⟨kv, hk⟩ := H.out
  exact ⟨hS, H.chg.trans hc, hc.row1 H.ref H.ord, ⟨kv, (hk.chg hc (.inr H.ord)).up hc.size⟩, H.ord⟩
theorem OwT.step (H : OwT w v V SB ca cn cc t ia ic rs oa oc os) (hb : Below V.heap.size V V') : OwT w v V' SB ca cn cc t ia ic rs oa oc os := H.draw (H.src.step hb) (Chg.of_below hb _ _)
theorem OwT.at (H : OwT w v V SB ca cn cc t ia ic rs oa oc os) (hk : ∀ o ∈ os, o.l.length ≤ 4) : TxAt V ia rs.length oa os.length rs os := by
  obtain ⟨kv, h⟩ := H.out
  constructor
  · by_cases hn : rs.length = 0
    · exact ⟨rfl, .inl hn⟩
    obtain ⟨g, cap, e⟩ := Joins.ownsRow_form H.ref (by omega)
    have hr := H.ref
    cases e
    exact GAt.owned hr rfl
  · by_cases hn : os.length = 0
    · exact ⟨rfl, .inl hn⟩
    obtain ⟨xs, h1, _⟩ := h.row
    obtain ⟨g, cap, e⟩ := Joins.ownsRow_form h1 (by omega)
    cases e
    exact h.at rfl fun j hj => by have := hk _ (getD_mem (d := O0) hj); omega
theorem TqB.lt (H : TqB w v V SB ca cn cc t T k f u2 u3) : T < V.heap.size := lt_of_block H.box
theorem TqB.draw (H : TqB w v V SB ca cn cc t T k f u2 u3) (hS : Src w V' SB ca cn cc t') (hc : Chg V V' SB (SB + 1)) : TqB w v V' SB ca cn cc t' T k f u2 u3 := by
  have := H.ord
  exact ⟨hc.keep1 H.box (by omega), hc.keep1 H.res (by omega), hS, H.chg.trans hc, H.ord⟩
theorem TqB.put {i : Nat} {u : Value} (H : TqB w v V SB ca cn cc t T k f u2 u3) (hq : (#[.int .i64 k, .int .i64 f, u2, u3] : Array Value).setIfInBounds i u = #[.int .i64 k', .int .i64 f', u2', u3']) : TqB w v (V.setCell ⟨T, i, none⟩ u) SB ca cn cc t T k' f' u2' u3' := by
  have hod := H.ord
  have hb := Joins.block_setCell (i := i) H.box u
  rw [hq] at hb
  refine ⟨hb, (Below.heap_setCell _ ⟨T, i, none⟩ _ v.heap.size (show v.heap.size ≠ T by omega)).trans H.res, ?_, H.chg.setNew (by omega) _, hod⟩
  exact ⟨(Below.heap_setCell _ ⟨T, i, none⟩ _ SB (show SB ≠ T by omega)).trans H.src.box, H.src.bel.setCell (p := ⟨T, i, none⟩) (show w.heap.size ≤ T by have := H.src.sb; omega) _, H.src.sb⟩
/-- What grew leaves it as it is, where the row that grew is none of the two blocks. -/
theorem TqB.grow {e : TypeId} {sz n : Nat} {u : Value} {xs : List Value} (H : TqB w v V SB ca cn cc t T k f u2 u3) (hg : V.grownBy V' u.ownBlock) (hr : V.ownsRow (v.heap.size + 1) e sz u n xs) (he : e ≠ 32) : TqB w v V' SB ca cn cc t T k f u2 u3 := by
  have hod := H.ord
  have hsz := H.chg.size
  have hT := H.lt
  have hS := H.src.lt
  refine ⟨(hg.block T hT (fun e2 => row_neT he hr H.box _ e2.symm rfl)).trans H.box, (hg.block _ (lt_of_block H.res) (fun e2 => row_neT he hr H.res _ e2.symm rfl)).trans H.res, ⟨(hg.block SB hS (fun e2 => by have := (hr.lt SB e2.symm).1; omega)).trans H.src.box, H.src.bel.grown hg (by have := H.src.bel.size; omega) (fun k hk => by have := (hr.lt k hk).1; have := H.src.sb; omega), H.src.sb⟩, ?_, hod⟩
  exact ⟨hg.os.trans H.chg.os, hg.tape.trans H.chg.tape, hg.output.trans H.chg.output, Nat.le_trans H.chg.size hg.size, fun b hb hd => (hg.block b (by omega) (fun e2 => by have := (hr.lt b e2.symm).1; omega)).trans (H.chg.block b hb hd)⟩
theorem TqD.lt (H : TqD w v V SB ca cn cc t T k f ia ic rs oa oc os) : T < V.heap.size := H.b.lt
theorem TqD.draw (H : TqD w v V SB ca cn cc t T k f ia ic rs oa oc os) (hS : Src w V' SB ca cn cc t') (hc : Chg V V' SB (SB + 1)) : TqD w v V' SB ca cn cc t' T k f ia ic rs oa oc os := by
  obtain ⟨kv, hk⟩ := H.out
  have := H.b.ord
  exact ⟨H.b.draw hS hc, hc.row1 H.ref (by omega), ⟨kv, (hk.chg hc (.inr (by omega))).up hc.size⟩⟩
theorem TqD.step (H : TqD w v V SB ca cn cc t T k f ia ic rs oa oc os) (hb : Below V.heap.size V V') : TqD w v V' SB ca cn cc t T k f ia ic rs oa oc os := H.draw (H.b.src.step hb) (Chg.of_below hb _ _)
theorem TqD.cells (H : TqD w v V SB ca cn cc t T k f ia ic rs oa oc os) : V.cell? ⟨T, 0, none⟩ = some (.int .i64 k) ∧ V.cell? ⟨T, 1, none⟩ = some (.int .i64 f) ∧ V.cell? ⟨T, 2, none⟩ = some (.slice ia rs.length ic) ∧ V.cell? ⟨T, 3, none⟩ = some (.slice oa os.length oc) := by
  obtain ⟨p0, p1, p2, p3, _⟩ := cells4 H.b.box
  exact ⟨p0, p1, p2, p3⟩
theorem TqD.fz (H : TqD w v V SB ca cn cc t T k f ia ic rs oa oc os) (i : Nat) : V.frozen? ⟨T, i, none⟩ = false := Joins.unfrozen_of_block H.b.box i
/-- The transaction is laid into a block of its own. -/
theorem TqD.first (H : OwT w (v.alloc (.cells #[.int .i64 0, .int .i64 0, .slice none 0 0, .slice none 0 0] 32)) V SB ca cn cc t ia ic rs oa oc os) (hl : SB < v.heap.size) :
    TqD w v (V.alloc (.cells #[.int .i64 k, .int .i64 f, .slice ia rs.length ic, .slice oa os.length oc] 32)) SB ca cn cc t V.heap.size k f ia ic rs oa oc os := by
  have hz : (v.alloc (.cells #[.int .i64 0, .int .i64 0, .slice none 0 0, .slice none 0 0] 32)).heap.size = v.heap.size + 1 := by simp
  have h1 : V.heap[v.heap.size]? = some (.cells #[.int .i64 0, .int .i64 0, .slice none 0 0, .slice none 0 0] 32 (0, 0)) := H.chg.keep1 (heap_alloc_new _ _) (by omega)
  obtain ⟨kv, hk⟩ := H.out
  rw [hz] at hk
  have hr := H.ref
  rw [hz] at hr
  exact ⟨⟨heap_alloc_new _ _, (keepb h1 (below_box _)).out, H.src.step (below_box _), ((Chg.of_below (below_box _) _ _).trans H.chg).trans (Chg.of_below (below_box _) _ _), hl, lt_of_block h1⟩, hr.alloc _, ⟨kv, (hk.below (below_box _)).up (by simp)⟩⟩
/-- A cell of it is set; what it then leads to lies in the same world. -/
theorem TqD.put {i : Nat} {u : Value} (H : TqB w v V SB ca cn cc t T k f u2 u3) (hr : V.ownsRow (v.heap.size + 1) 47 2 (.slice ia' rs'.length ic') rs'.length (gcells rs')) (ho : ∃ kv, OOwn V (v.heap.size + 1) V.heap.size (.slice oa' os'.length oc') os'.length (fun j => os'.getD j O0) kv)
    (hq : (#[.int .i64 k, .int .i64 f, u2, u3] : Array Value).setIfInBounds i u = #[.int .i64 k', .int .i64 f', .slice ia' rs'.length ic', .slice oa' os'.length oc']) : TqD w v (V.setCell ⟨T, i, none⟩ u) SB ca cn cc t T k' f' ia' ic' rs' oa' oc' os' := by
  obtain ⟨kv, hk⟩ := ho
  exact ⟨H.put hq, ownsRow_setCell_other hr (a := ⟨T, i, none⟩) (fun e => row_neT (by decide) hr H.box _ e rfl) _, ⟨kv, by simpa using setT_oown (i := i) (z := u) hk H.box⟩⟩
theorem TqD.setk (H : TqD w v V SB ca cn cc t T k f ia ic rs oa oc os) (k' : Int) : TqD w v (V.setCell ⟨T, 0, none⟩ (.int .i64 k')) SB ca cn cc t T k' f ia ic rs oa oc os := TqD.put H.b H.ref H.out (by simp)
theorem TqD.setf (H : TqD w v V SB ca cn cc t T k f ia ic rs oa oc os) (f' : Int) : TqD w v (V.setCell ⟨T, 1, none⟩ (.int .i64 f')) SB ca cn cc t T k f' ia ic rs oa oc os := TqD.put H.b H.ref H.out (by simp)
theorem TqD.setR (H : TqD w v V SB ca cn cc t T k f ia ic rs oa oc os) (hr : V.ownsRow (v.heap.size + 1) 47 2 (.slice ia' rs'.length ic') rs'.length (gcells rs')) : TqD w v (V.setCell ⟨T, 2, none⟩ (.slice ia' rs'.length ic')) SB ca cn cc t T k f ia' ic' rs' oa oc os := TqD.put H.b hr H.out (by simp)
theorem TqD.setO (H : TqD w v V SB ca cn cc t T k f ia ic rs oa oc os) (ho : ∃ kv, OOwn V (v.heap.size + 1) V.heap.size (.slice oa' os'.length oc') os'.length (fun j => os'.getD j O0) kv) : TqD w v (V.setCell ⟨T, 3, none⟩ (.slice oa' os'.length oc')) SB ca cn cc t T k f ia ic rs oa' oc' os' := TqD.put H.b H.ref ho (by simp)
/-- An in more. -/
theorem TqD.moreR (H : TqD w v V SB ca cn cc t T k f ia ic rs oa oc os) (p q : Int) (hl : rs.length ≤ 500) :
    ∃ g cap w5, (Builtin.append_ #[29, 29] 29 #[.slice ia rs.length ic, .slice (some ⟨V.heap.size, 0, none⟩) 1 1]).run Tryz.prog (V.alloc (.cells #[.int .i64 p, .int .i64 q] 47)) = .ok (.slice (some ⟨g, 0, none⟩) (rs.length + 1) cap) w5 ∧
      (w5.cell? ⟨T, 2, none⟩ = some (.slice ia rs.length ic) ∧ w5.frozen? ⟨T, 2, none⟩ = false) ∧ Hid (TqD w v (w5.setCell ⟨T, 2, none⟩ (.slice (some ⟨g, 0, none⟩) (rs.length + 1) cap)) SB ca cn cc t T k f (some ⟨g, 0, none⟩) cap (rs ++ [(p, q)]) oa oc os) := by
  have H1 := H.step (below_box (.cells #[.int .i64 p, .int .i64 q] 47))
  have hvs := H1.b.chg.size
  obtain ⟨g, cap, w5, hrun, HG⟩ := ref_added (p := p) (q := q) (X := V.heap.size) H1.ref (heap_alloc_new _ _) (by omega) (by have := H.b.chg.size; simp; omega)
  obtain ⟨hown, hgr⟩ := HG.out
  have HB := H1.b.grow hgr H1.ref (by decide)
  obtain ⟨_, _, c2, _⟩ := cells4 HB.box
  have hlen : (rs ++ [(p, q)]).length = rs.length + 1 := by simp
  obtain ⟨kv, hk⟩ := H1.out
  obtain ⟨xs, q1, _⟩ := hk.row
  refine ⟨g, cap, w5, hrun, ⟨c2, Joins.unfrozen_of_block HB.box 2⟩, ?_⟩
  rw [← hlen] at hown ⊢
  exact (TqD.put HB hown ⟨kv, (hk.turn hgr (fun b hb e => rows_apart (by decide) H1.ref q1 b e hb) (fun j hj b hb e => rows_apart (by decide) H1.ref (hk.keys j hj).1 b e hb)).up hgr.size⟩ (by simp))
/-- An out more, its keys drawn since V0. -/
theorem TqD.moreO {V0 : World} {t0 kc : Nat} {x y : Int} {l : List Int} {ka : Option Addr} (H0 : TqD w v V0 SB ca cn cc t0 T k f ia ic rs oa oc os) (hS : Src w V SB ca cn cc t) (hc : Chg V0 V SB (SB + 1)) (hr : V.ownsRow V0.heap.size 2 1 (.slice ka l.length kc) l.length (ints l)) (r : Int) (hl : os.length ≤ 500) :
    ∃ g cap w5, (Builtin.append_ #[30, 30] 30 #[.slice oa os.length oc, .slice (some ⟨V.heap.size, 0, none⟩) 1 1]).run Tryz.prog (V.alloc (.cells #[.int .i64 r, .slice ka l.length kc, .int .i64 x, .int .i64 y] 52)) = .ok (.slice (some ⟨g, 0, none⟩) (os.length + 1) cap) w5 ∧
      (w5.cell? ⟨T, 3, none⟩ = some (.slice oa os.length oc) ∧ w5.frozen? ⟨T, 3, none⟩ = false) ∧ Hid (TqD w v (w5.setCell ⟨T, 3, none⟩ (.slice (some ⟨g, 0, none⟩) (os.length + 1) cap)) SB ca cn cc t T k f ia ic rs (some ⟨g, 0, none⟩) cap (os ++ [⟨r, l, x, y⟩])) := by
  have hvs := H0.b.chg.size
  obtain ⟨kv, hk0⟩ := H0.out
  have H1 := (H0.draw hS hc).step (below_box (.cells #[.int .i64 r, .slice ka l.length kc, .int .i64 x, .int .i64 y] 52))
  have hk := ((hk0.chg hc (.inr (by have := H0.b.ord; omega))).below (below_box (.cells #[.int .i64 r, .slice ka l.length kc, .int .i64 x, .int .i64 y] 52)))
  have hsz : V0.heap.size ≤ (V.alloc (.cells #[.int .i64 r, .slice ka l.length kc, .int .i64 x, .int .i64 y] 52)).heap.size := Nat.le_trans hc.size (by simp)
  have hVv : v.heap.size + 1 ≤ V0.heap.size := by have := H0.b.ord; have := H0.lt; omega
  obtain ⟨g, cap, w5, hrun, HG⟩ := out_added (f := fun i => (os ++ [(⟨r, l, x, y⟩ : Ou)]).getD i O0) (o := ⟨r, l, x, y⟩) ((hk.up hsz).ext (fun j hj => by
    rw [List.getD, List.getD, List.getElem?_append_left hj])) (heap_alloc_new _ _) rfl (Joins.ownsRow_le (hr.alloc _) hVv) (fun i hi' b hb e => by
      have h1 := (hk0.keys i hi').2 b hb
      have h2 := (hr.lt b e).1
      omega) (by omega) (by omega) (by simp [List.getD])
  obtain ⟨hO, hgr⟩ := HG.out
  obtain ⟨xs, q1, _⟩ := hk.row
  have HB := H1.b.grow hgr q1 (by decide)
  obtain ⟨_, _, _, c3, _⟩ := cells4 HB.box
  have hlen : (os ++ [(⟨r, l, x, y⟩ : Ou)]).length = os.length + 1 := by simp
  refine ⟨g, cap, w5, hrun, ⟨c3, Joins.unfrozen_of_block HB.box 3⟩, ?_⟩
  rw [← hlen] at hO ⊢
  refine TqD.put HB (H1.ref.kept hgr ?_) ⟨_, hO⟩ (by simp)
  cases e : Value.ownBlock (.slice ia rs.length ic) with
  | none => exact .inl rfl
  | some b => exact .inr fun e2 => rows_apart (by decide) q1 H1.ref b e2.symm e
end

/-- A transaction that was drawn. -/
def OutT (w v : World) (SB : Nat) (ca : Option Addr) (cn cc N : Nat) (e : Ending) (v' : World) (K : Int → Int → List (Int × Int) → List Ou → Prop) : Prop :=
  ∃ (k f : Int) (ia : Option Addr) (ic : Nat) (rs : List (Int × Int)) (oa : Option Addr) (oc : Nat) (os : List Ou) (t' : Nat), e = .returned (.agg #[.int .i64 k, .int .i64 f, .slice ia rs.length ic, .slice oa os.length oc]) ∧ t' ≤ N ∧ Hid (K k f rs os) ∧ Hid (OwT w v v' SB ca cn cc t' ia ic rs oa oc os)
theorem TqD.ret {w v V : World} {SB : Nat} {ca : Option Addr} {cn cc t T N : Nat} {k f : Int} {ia : Option Addr} {ic : Nat} {rs : List (Int × Int)} {oa : Option Addr} {oc : Nat} {os : List Ou} (H : TqD w v V SB ca cn cc t T k f ia ic rs oa oc os) (hN : t ≤ N) {K : Int → Int → List (Int × Int) → List Ou → Prop} (hK : K k f rs os) {e : Ending} (he : e = .returned (.agg #[.int .i64 k, .int .i64 f, .slice ia rs.length ic, .slice oa os.length oc])) (v0 v1 v2 v3 : Value) :
    OutT w v SB ca cn cc N e ((((V.setCell ⟨v.heap.size, 0, none⟩ v0).setCell ⟨v.heap.size, 1, none⟩ v1).setCell ⟨v.heap.size, 2, none⟩ v2).setCell ⟨v.heap.size, 3, none⟩ v3) K := by
  have ho := H.b.ord
  have hsb := H.b.src.sb
  obtain ⟨kv, hk⟩ := H.out
  have hq : ∀ (W : World) (i : Nat) (z : Value), Chg v W SB (SB + 1) → Chg v (W.setCell ⟨v.heap.size, i, none⟩ z) SB (SB + 1) := fun W i z h => h.setNew (Nat.le_refl _) z
  have hS : ∀ (W : World) (i : Nat) (z : Value), Src w W SB ca cn cc t → Src w (W.setCell ⟨v.heap.size, i, none⟩ z) SB ca cn cc t := fun W i z h => ⟨(Below.heap_setCell _ ⟨v.heap.size, i, none⟩ _ SB (show SB ≠ v.heap.size by omega)).trans h.box, h.bel.setCell (p := ⟨v.heap.size, i, none⟩) (show w.heap.size ≤ v.heap.size by omega) _, h.sb⟩
  have hR : ∀ (W : World) (i : Nat) (z : Value) {e : TypeId} {sz n : Nat} {u : Value} {xs : List Value}, W.ownsRow (v.heap.size + 1) e sz u n xs → (W.setCell ⟨v.heap.size, i, none⟩ z).ownsRow (v.heap.size + 1) e sz u n xs := fun W i z _ _ _ _ _ h => ownsRow_setCell_below h (a := ⟨v.heap.size, i, none⟩) (show v.heap.size < _ by omega) _
  have hO : ∀ (W : World) (i : Nat) (z : Value), OOwn W (v.heap.size + 1) V.heap.size (.slice oa os.length oc) os.length (fun j => os.getD j O0) kv → OOwn (W.setCell ⟨v.heap.size, i, none⟩ z) (v.heap.size + 1) V.heap.size (.slice oa os.length oc) os.length (fun j => os.getD j O0) kv := fun W i z h => by
    obtain ⟨xs, h1, h2⟩ := h.row
    exact ⟨⟨xs, hR _ _ _ h1, h2⟩, h.top, fun j hj => ⟨hR _ _ _ (h.keys j hj).1, (h.keys j hj).2⟩, h.apart⟩
  have hOf := hO _ 3 v3 (hO _ 2 v2 (hO _ 1 v1 (hO _ 0 v0 hk)))
  refine ⟨k, f, ia, ic, rs, oa, oc, os, t, he, hN, hK, hS _ _ _ (hS _ _ _ (hS _ _ _ (hS _ _ _ H.b.src))), hq _ _ _ (hq _ _ _ (hq _ _ _ (hq _ _ _ H.b.chg))), Joins.ownsRow_le (hR _ _ _ (hR _ _ _ (hR _ _ _ (hR _ _ _ H.ref)))) (by omega), ⟨kv, ?_⟩, ho.1⟩
  obtain ⟨xs, h1, h2⟩ := hOf.row
  exact ⟨⟨xs, Joins.ownsRow_le h1 (by omega), h2⟩, fun b hb => by simpa using hOf.top b hb, fun j hj => ⟨Joins.ownsRow_le (hOf.keys j hj).1 (by omega), fun b hb => by simpa using (hOf.keys j hj).2 b hb⟩, hOf.apart⟩

end Go.Proofs.YtagokfoimokniaaGreatDoor

namespace Go.Proofs.YtagokfoimokniaaGreatDoor
open Go.RowKit Go.Shelf Go.Maps Go.WideMaps

section
variable {w v V V' : World} {SB : Nat} {ca : Option Addr} {cn cc t t' LB : Nat} {p h m : Int} {va : Option Addr} {vc : Nat} {l : List Int}
theorem Chg.more {lo hi B : Nat} (h : Chg v V lo hi) (hb : Below B V V') (hB : v.heap.size ≤ B) : Chg v V' lo hi := ⟨hb.os.trans h.os, hb.tape.trans h.tape, hb.output.trans h.output, Nat.le_trans h.size hb.size, fun b hbs ho => (hb.block b (by omega)).trans (h.block b hbs ho)⟩
end

end Go.Proofs.YtagokfoimokniaaGreatDoor

namespace Go.Proofs.YtagokfoimokniaaGreatDoor
open Go.RowKit Go.Shelf Go.Maps Go.WideMaps

theorem iat2 (V : World) (a b : Int) : IAt (V.alloc (.cells #[.int .i64 a, .int .i64 b] 2)) (some ⟨V.heap.size, 0, none⟩) 2 [a, b] :=
  ⟨rfl, .inr ⟨V.heap.size, 0, rfl, by simp, fun j hj => by
    have h := heap_alloc_new V (.cells #[.int .i64 a, .int .i64 b] 2)
    match j, hj with
    | 0, _ => unfold World.cell?; rw [h]; rfl
    | 1, _ => unfold World.cell?; rw [h]; rfl⟩⟩
theorem iat3 (V : World) (a b c : Int) : IAt (V.alloc (.cells #[.int .i64 a, .int .i64 b, .int .i64 c] 2)) (some ⟨V.heap.size, 0, none⟩) 3 [a, b, c] :=
  ⟨rfl, .inr ⟨V.heap.size, 0, rfl, by simp, fun j hj => by
    have h := heap_alloc_new V (.cells #[.int .i64 a, .int .i64 b, .int .i64 c] 2)
    match j, hj with
    | 0, _ => unfold World.cell?; rw [h]; rfl
    | 1, _ => unfold World.cell?; rw [h]; rfl
    | 2, _ => unfold World.cell?; rw [h]; rfl⟩⟩
end Go.Proofs.YtagokfoimokniaaGreatDoor
