/- A ledger that comes in as a law's argument, read as data, gives its texts and its signatures. The law on TxFault answers true, whatever transaction comes in, and writes nothing that was there: where the program's TxFault keeps its contract. The specification's OutSum, and the law on it, out of the program's contract. The specification's ClashTx. What the specification's TxText answers; what the program's owes. Blanks replaced by underscores, as the library says it: the same as the swap of each byte. The program's words of a transaction. The words of a transaction, joined, are its text. -/
import Derived.Test.YtppfhepipadepaaGreatDoorRows
import Derived.Test.YtppfhepipadepaaGreatDoorJn1
import Derived.ProofKit
import Derived.OpenShut
import Derived.ShutString
import Derived.ChangeOld
import Derived.SliceStrings
import Derived.Deep.SlicePairs
import Derived.Test.YtppfhepipadepaaGreatDoorJn2
import Derived.Deep.Slices
import Derived.Test.YtppfhepipadepaaGreatDoorJn3
import Derived.Lib.Replace
import Derived.Lib.QuietBelow
import Derived.BigQuiet
import Derived.Lib.Join
namespace Go.Proofs.YtppfhepipadepaaGreatDoor
open Go.ChangeShapes Go.WideShapes Go.ChangeAt Go.RowKit Go.Joins Go.Deep
open Go.ChangeMaps (open_string shut_string)

theorem Tryz.own : ownKnob Tryz.prog.godebug = none := by kernel_rfl
theorem Tryz.cellsLL : Tryz.prog.cellsOf 25 = 2 := by kernel_rfl
theorem Tryz.cellsStr : Tryz.prog.cellsOf 9 = 1 := by kernel_rfl
theorem Tryz.cellsLSig : Tryz.prog.cellsOf 71 = 2 := by kernel_rfl

section
variable {H : Type} {enc : TypeId × Value → H} {W : World} {base : Nat} {spare : Nat → Bool} {held : Bool}

theorem add_none (b off j : Nat) : (⟨b, off, none⟩ : Addr).add j = ⟨b, off + j, none⟩ := by
  simp only [Addr.add]
  split
  · simp_all
  · rfl
theorem wf_zero : (Lit.int .i64 0).wf = true := by decide

theorem open_texts {fuel : Nat} {c : Value} {x : DataW H × List MemPlace} (h : DataW.trod enc Tryz.prog W base spare held fuel 22 [c] = some x) :
    ∃ a n cap ss, c = .slice a n cap ∧ n ≤ maxLen ∧ SAt W a n ss ∧ ∀ j, (ss.getD j E0).size ≤ maxLen := by
  rcases open_strings Tryz.underlying22 Tryz.underlying9 Tryz.cellsStr h with ⟨hcs, _⟩ | ⟨a, len, cap, ss, hcs, _, hl, hm, hlen, _, hcell, hsz⟩
  · refine ⟨none, 0, 0, [], by simpa using hcs, by unfold maxLen; omega, ⟨rfl, .inl rfl⟩, fun j => ?_⟩
    simp [E0, maxLen]
  · have hls : len ≤ ss.length := by rw [hlen]; split <;> omega
    refine ⟨some a, len, cap, ss.take len, by simpa using hcs, by omega, ⟨by simp; omega, ?_⟩, fun j => ?_⟩
    · by_cases h0 : len = 0
      · exact .inl h0
      · obtain ⟨b, off, spot⟩ := a
        have h1 := hcell 0 (by omega)
        have hspot : spot = none := by simpa [Addr.add] using World.cell?_spot h1
        subst hspot
        refine .inr ⟨b, off, rfl, World.block_lt_of_cell? _ _ h1, fun j hj => ?_⟩
        have h2 := hcell j (by omega)
        rw [add_none] at h2
        rw [h2]
        simp [List.getD, hj, show j < ss.length by omega]
    · by_cases hj : j < (ss.take len).length
      · have : (ss.take len).getD j E0 = (ss.take len)[j] := by rw [List.getD, List.getElem?_eq_getElem hj]; rfl
        rw [this]
        exact hsz _ (List.mem_of_mem_take (List.getElem_mem hj))
      · have : (ss.take len).getD j E0 = E0 := by rw [List.getD, List.getElem?_eq_none (by omega)]; rfl
        rw [this]; simp [E0, maxLen]

theorem open_signs {fuel : Nat} {c : Value} {x : DataW H × List MemPlace} (h : DataW.trod enc Tryz.prog W base spare held fuel 23 [c] = some x) :
    ∃ a m cap gs, c = .slice a m cap ∧ m ≤ maxLen ∧ GAt W a m gs ∧ ∀ j, (Lit.int .i64 (gs.getD j G0).1).wf = true ∧ (Lit.int .i64 (gs.getD j G0).2).wf = true := by
  rcases open_slice_pairs Tryz.underlying23 Tryz.underlying71 Tryz.cellsLSig rfl rfl Tryz.cellsI64 Tryz.cellsI64 h with ⟨hcs, _⟩ | ⟨a, len, cap, m, n, V0, V1, D0, D1, P0, P1, hcs, _, hl, hm, hmm, _, hx⟩
  · refine ⟨none, 0, 0, [], by simpa using hcs, by unfold maxLen; omega, ⟨rfl, .inl rfl⟩, fun j => ?_⟩
    simp [G0, wf_zero]
  · have hlm : len ≤ m := by rw [hmm]; split <;> omega
    have hint : ∀ i, i < m → V0 i = .int .i64 (intOf (V0 i)) ∧ V1 i = .int .i64 (intOf (V1 i)) ∧ (Lit.int .i64 (intOf (V0 i))).wf = true ∧ (Lit.int .i64 (intOf (V1 i))).wf = true := by
      intro i hi
      obtain ⟨_, _, h0, h1⟩ := hx i hi
      obtain ⟨p, e0, _, w0⟩ := DataW.trod_int Tryz.underlying2 h0
      obtain ⟨q, e1, _, w1⟩ := DataW.trod_int Tryz.underlying2 h1
      simp at e0 e1
      rw [e0, e1]
      exact ⟨rfl, rfl, w0, w1⟩
    have hget : ∀ j, j < len → (((List.range len).map fun i => (intOf (V0 i), intOf (V1 i))).getD j G0) = (intOf (V0 j), intOf (V1 j)) := by
      intro j hj
      simp [List.getD, hj]
    refine ⟨some a, len, cap, (List.range len).map fun i => (intOf (V0 i), intOf (V1 i)), by simpa using hcs, by omega, ⟨by simp, ?_⟩, fun j => ?_⟩
    · by_cases h0 : len = 0
      · exact .inl h0
      · obtain ⟨b, off, spot⟩ := a
        have h1 := (hx 0 (by omega)).1
        have hspot : spot = none := by simpa [Addr.add] using World.cell?_spot h1
        subst hspot
        refine .inr ⟨b, off, rfl, World.block_lt_of_cell? _ _ h1, fun j hj => ?_⟩
        obtain ⟨x0, x1, _, _⟩ := hx j (by omega)
        obtain ⟨i0, i1, _, _⟩ := hint j (by omega)
        rw [hget j hj]
        rw [add_none] at x0 x1
        rw [i0] at x0
        rw [i1] at x1
        exact ⟨x0, x1⟩
    · by_cases hj : j < len
      · rw [hget j hj]
        obtain ⟨_, _, w0, w1⟩ := hint j (by omega)
        exact ⟨w0, w1⟩
      · have : (((List.range len).map fun i => (intOf (V0 i), intOf (V1 i))).getD j G0) = G0 := by rw [List.getD, List.getElem?_eq_none (by simp; omega)]; rfl
        rw [this]
        exact ⟨wf_zero, wf_zero⟩
end

set_option maxRecDepth 100000 in
/-- All that a law is told of a ledger that came in. -/
theorem open_ledger {H : Type} {enc : TypeId × Value → H} {W : World} {base b0 : Nat} {spare : Nat → Bool} {held : Bool} {r : Reach} {v : Value} {d : DataW H} {p : List MemPlace} (hv : Value.okWide Tryz.prog W r b0 25 v) (h : DataW.Trod enc Tryz.prog W base spare held 25 v d p) :
    ∃ ta n tc ga m gc ss gs, v = .agg #[.slice ta n tc, .slice ga m gc] ∧ n ≤ maxLen ∧ m ≤ maxLen ∧ Fine ss gs ∧ LedAt W ta n ga m ss gs := by
  obtain ⟨c0, c1, y0, y1, k, rfl, _, _, hy0, hy1⟩ := open_agg2 Tryz.underlying25 (by kernel_rfl) Tryz.cellsLL hv h
  obtain ⟨ta, n, tc, ss, rfl, hn, hs, hz⟩ := open_texts hy0
  obtain ⟨ga, m, gc, gs, rfl, hm, hg, hw⟩ := open_signs hy1
  exact ⟨ta, n, tc, ga, m, gc, ss, gs, rfl, hn, hm, ⟨hz, hw⟩, ⟨hs, hg⟩⟩

end Go.Proofs.YtppfhepipadepaaGreatDoor

namespace Go.Proofs.YtppfhepipadepaaGreatDoor
open Go.RowKit Go.Maps Go.WideMaps

/-- A transaction in a block of its own, all old memory below as it was. -/
structure TBx (w v : World) (k f : Int) (ia : Option Addr) (n c : Nat) (oa : Option Addr) (m d : Nat) (t : TypeId) : Prop where
  box : v.heap[w.heap.size]? = some (.cells #[.int .i64 k, .int .i64 f, .slice ia n c, .slice oa m d] t (0, 0))
  bel : Below w.heap.size w v
section
variable {w v v' : World} {k f : Int} {ia oa : Option Addr} {n c m d : Nat} {t : TypeId} {rs : List (Int × Int)} {os : List Ou}
theorem TBx.start : TBx w (w.alloc (.cells #[.int .i64 k, .int .i64 f, .slice ia n c, .slice oa m d] t)) k f ia n c oa m d t := ⟨heap_alloc_new _ _, below_box _⟩
theorem TBx.step (h : TBx w v k f ia n c oa m d t) (hb : Below v.heap.size v v') : TBx w v' k f ia n c oa m d t := ⟨(keepb h.box hb).out, h.bel.trans (hb.mono h.bel.size)⟩
theorem TBx.at (h : TBx w v k f ia n c oa m d t) (hI : TxAt w ia n oa m rs os) : TxAt v ia n oa m rs os := hI.below h.bel (Nat.le_refl _)
theorem TBx.lt (h : TBx w v k f ia n c oa m d t) : w.heap.size < v.heap.size := lt_of_block h.box
end
end Go.Proofs.YtppfhepipadepaaGreatDoor

namespace Go.Proofs.YtppfhepipadepaaGreatDoor
open Go.RowKit Go.Maps Go.WideMaps

theorem outsR_zero {os : List Ou} (h : outsR os = 0) : ∀ o ∈ os, inB o.v 1 1000000 = true := by
  induction os with
  | nil => intro o ho; cases ho
  | cons a t ih =>
    rw [outsR] at h
    by_cases h1 : inB a.v 1 1000000 = false
    · rw [if_pos h1] at h; cases h
    · rw [if_neg h1] at h
      by_cases h2 : ruleR a.l a.x a.y ≠ 0
      · rw [if_pos h2] at h; exact absurd h h2
      · rw [if_neg h2] at h
        intro o ho
        rcases List.mem_cons.1 ho with rfl | ho
        · simpa using h1
        · exact ih h o ho
theorem txR_zero {k f : Int} {rs : List (Int × Int)} {os : List Ou} {m : Nat} (hm : os.length = m) (h : 0 = txR k f rs os) : m ≤ 4 ∧ ∀ j, j < m → 1 ≤ (os.getD j O0).v ∧ (os.getD j O0).v ≤ 1000000 := by
  unfold txR at h
  by_cases h1 : inB k 0 2 = false ∨ ¬ (k = 0 ↔ f = 0)
  · rw [if_pos h1] at h; cases h
  rw [if_neg h1] at h
  by_cases h2 : k ≠ 0 ∧ inB f 1 999 = false
  · rw [if_pos h2] at h; cases h
  rw [if_neg h2] at h
  by_cases h3 : inB rs.length 1 4 = false ∨ inB os.length 1 4 = false
  · rw [if_pos h3] at h; cases h
  rw [if_neg h3] at h
  have h4 : inB os.length 1 4 = true := by
    cases e : inB os.length 1 4
    · exact absurd (.inr e) h3
    · rfl
  by_cases h5 : refsR [] rs ≠ 0
  · rw [if_pos h5] at h; exact absurd h.symm h5
  rw [if_neg h5] at h
  unfold joinR at h
  by_cases h6 : outsR os ≠ 0
  · rw [if_pos h6] at h; exact absurd h.symm h6
  have h7 := outsR_zero (Classical.not_not.1 h6)
  have h8 := inB_true.1 h4
  refine ⟨by omega, fun j hj => ?_⟩
  have e1 : os.getD j O0 = os[j]'(by omega) := by rw [List.getD, List.getElem?_eq_getElem (by omega)]; rfl
  have := inB_true.1 (h7 (os.getD j O0) (by rw [e1]; exact List.getElem_mem _))
  exact this

end Go.Proofs.YtppfhepipadepaaGreatDoor

namespace Go.Proofs.YtppfhepipadepaaGreatDoor
open Go.RowKit Go.Maps Go.WideMaps

end Go.Proofs.YtppfhepipadepaaGreatDoor

namespace Go.Proofs.YtppfhepipadepaaGreatDoor
open Go.RowKit Go.Shelf Go.Maps Go.WideMaps

theorem refsR_zero {rs : List (Int × Int)} : ∀ seen, refsR seen rs = 0 → ∀ r ∈ rs, refB r = true := by
  induction rs with
  | nil => intro _ _ r hr; cases hr
  | cons a t ih =>
    intro seen h
    rw [refsR] at h
    by_cases h1 : refB a = false
    · rw [if_pos h1] at h; cases h
    · rw [if_neg h1] at h
      by_cases h2 : memB seen a = true
      · rw [if_pos h2] at h; cases h
      · rw [if_neg h2] at h
        intro r hr
        rcases List.mem_cons.1 hr with rfl | hr
        · simpa using h1
        · exact ih _ h r hr
theorem outsR_rule {os : List Ou} (h : outsR os = 0) : ∀ o ∈ os, ruleR o.l o.x o.y = 0 := by
  induction os with
  | nil => intro o ho; cases ho
  | cons a t ih =>
    rw [outsR] at h
    by_cases h1 : inB a.v 1 1000000 = false
    · rw [if_pos h1] at h; cases h
    · rw [if_neg h1] at h
      by_cases h2 : ruleR a.l a.x a.y ≠ 0
      · rw [if_pos h2] at h; exact absurd h h2
      · rw [if_neg h2] at h
        intro o ho
        rcases List.mem_cons.1 ho with rfl | ho
        · exact Classical.not_not.1 h2
        · exact ih h o ho
theorem getD_mem {α : Type} {l : List α} {j : Nat} {d : α} (h : j < l.length) : l.getD j d ∈ l := by
  rw [List.getD, List.getElem?_eq_getElem h]
  exact List.getElem_mem _
theorem txOk_of {k f : Int} {rs : List (Int × Int)} {os : List Ou} (h : 0 = txR k f rs os) : TxOk k f rs os := by
  obtain ⟨hm4, hv⟩ := txR_zero rfl h
  unfold txR at h
  by_cases h1 : inB k 0 2 = false ∨ ¬ (k = 0 ↔ f = 0)
  · rw [if_pos h1] at h; cases h
  rw [if_neg h1] at h
  by_cases h2 : k ≠ 0 ∧ inB f 1 999 = false
  · rw [if_pos h2] at h; cases h
  rw [if_neg h2] at h
  by_cases h3 : inB rs.length 1 4 = false ∨ inB os.length 1 4 = false
  · rw [if_pos h3] at h; cases h
  rw [if_neg h3] at h
  have h4 : inB rs.length 1 4 = true := by
    cases e : inB rs.length 1 4
    · exact absurd (.inl e) h3
    · rfl
  by_cases h5 : refsR [] rs ≠ 0
  · rw [if_pos h5] at h; exact absurd h.symm h5
  rw [if_neg h5] at h
  unfold joinR at h
  by_cases h6 : outsR os ≠ 0
  · rw [if_pos h6] at h; exact absurd h.symm h6
  have hk := inB_true.1 (show inB k 0 2 = true by cases e : inB k 0 2; exact absurd (.inl e) h1; rfl)
  have hkf : k = 0 ↔ f = 0 := Classical.not_not.1 fun e => h1 (.inr e)
  have hn := inB_true.1 h4
  have hrs := refsR_zero [] (Classical.not_not.1 h5)
  have hos := outsR_rule (Classical.not_not.1 h6)
  refine ⟨by omega, ?_, by omega, hm4, fun j hj => ?_, fun j hj => ?_⟩
  · by_cases k0 : k = 0
    · have := hkf.1 k0; omega
    · have := inB_true.1 (show inB f 1 999 = true by cases e : inB f 1 999; exact absurd ⟨k0, e⟩ h2; rfl)
      omega
  · have := hrs _ (getD_mem (d := G0) hj)
    unfold refB at this
    have a := (Bool.and_eq_true _ _).mp this
    have a1 := inB_true.1 a.1
    have a2 := inB_true.1 a.2
    omega
  · have hr := hos _ (getD_mem (d := O0) hj)
    obtain ⟨b1, b2, b3, b4⟩ := ruleR_zero rfl hr
    have hvv := hv j hj
    exact ⟨⟨by omega, by omega⟩, b1, ⟨by omega, by omega⟩, b3, fun i hi => by have := b4 _ (getD_mem (d := 0) hi); omega⟩

def ttR (k f : Int) (rs : List (Int × Int)) (os : List Ou) : Int × List UInt8 := if txR k f rs os ≠ 0 then (txR k f rs os, []) else if 300 < (txT k f rs os).length then (2, []) else (0, txT k f rs os)

theorem var_below {P : Program} {w w' : World} {nm : String} {cs : Array Value} (h : w.var? P nm = some cs) {B : Nat} (hb : Below B w w') (hB : w.heap.size ≤ B) : w'.var? P nm = some cs := by
  unfold World.var? at h ⊢
  cases hg : P.globalNamed nm with
  | none => simp [hg] at h
  | some g =>
    simp only [hg, Option.bind_some] at h ⊢
    have hlt : g < w.heap.size := by
      rcases Nat.lt_or_ge g w.heap.size with h' | h'
      · exact h'
      · simp [Array.getElem?_eq_none h'] at h
    rw [hb.block g (by omega)]
    exact h
/-- The package variables that the program's TxText reads: the table of powers, the kinds' names. -/
structure Ev (w : World) : Prop where
  tb : Tb w
  kn : w.var? Tryz.prog "loop.example/g00304/impl.kindNames" = some #[.string (str [112, 97, 121]), .string (str [106, 111, 105, 110]), .string (str [108, 101, 97, 118, 101])]
  mx : ∃ z : Int, w.cell? ⟨1, 0, none⟩ = some (.int .i64 z)
theorem Ev.below {w w' : World} (h : Ev w) {B : Nat} (hb : Below B w w') (hB : w.heap.size ≤ B) : Ev w' :=
  ⟨h.tb.below hb hB, var_below h.kn hb hB, by
    obtain ⟨z, hz⟩ := h.mx
    exact ⟨z, (hb.cell (p := ⟨1, 0, none⟩) (Nat.lt_of_lt_of_le (World.block_lt_of_cell? _ _ hz) hB)).trans hz⟩⟩

end Go.Proofs.YtppfhepipadepaaGreatDoor

namespace Go.Proofs.YtppfhepipadepaaGreatDoor
open Go.RowKit

theorem index_blank (l : List UInt8) : Lib.index (32 :: l) [32] = 0 := by
  unfold Lib.index
  simp [List.isPrefixOf]
theorem index_other {b : UInt8} (h : b ≠ 32) (l : List UInt8) : Lib.index (b :: l) [32] = if Lib.index l [32] == -1 then -1 else Lib.index l [32] + 1 := by
  have hb : (32 == b) = false := by simpa using fun e => h (Eq.symm e)
  conv => lhs; unfold Lib.index
  simp [List.isPrefixOf, hb]
theorem repl_other {b : UInt8} (h : b ≠ 32) (l new : List UInt8) (c : Nat) : Lib.replaceK [32] new c (b :: l) = b :: Lib.replaceK [32] new c l := by
  cases c with
  | zero => rfl
  | succ c =>
    rw [Lib.replaceK, Lib.replaceK, index_other h]
    by_cases e : (Lib.index l [32] == -1) = true
    · rw [if_pos e, if_pos e, if_pos (by rfl)]
    · rw [if_neg e]
      have hs := Lib.index_ge l [32]
      have hne : Lib.index l [32] ≠ -1 := by simpa using e
      obtain ⟨i, hi⟩ : ∃ i : Nat, Lib.index l [32] = i := ⟨(Lib.index l [32]).toNat, by omega⟩
      rw [hi]
      have h1 : ((i : Int) == -1) = false := by simp
      have h2 : ((i : Int) + 1 == -1) = false := by simp; omega
      have h3 : ((i : Int) + 1).toNat = i + 1 := by omega
      simp [h1, h2, h3]
theorem count_other {b : UInt8} (h : b ≠ 32) (l : List UInt8) (f : Nat) : Lib.countFrom [32] f (b :: l) = Lib.countFrom [32] f l := by
  cases f with
  | zero => rfl
  | succ f =>
    rw [Lib.countFrom, Lib.countFrom, index_other h]
    by_cases e : (Lib.index l [32] == -1) = true
    · rw [if_pos e, if_pos e, if_pos (by rfl)]
    · rw [if_neg e]
      have hs := Lib.index_ge l [32]
      have hne : Lib.index l [32] ≠ -1 := by simpa using e
      obtain ⟨i, hi⟩ : ∃ i : Nat, Lib.index l [32] = i := ⟨(Lib.index l [32]).toNat, by omega⟩
      rw [hi]
      have h1 : ((i : Int) == -1) = false := by simp
      have h2 : ((i : Int) + 1 == -1) = false := by simp; omega
      have h3 : ((i : Int) + 1).toNat = i + 1 := by omega
      simp [h1, h2, h3]
theorem repl_count (l : List UInt8) : ∀ f, l.length < f → Lib.replaceK [32] [95] (Lib.countFrom [32] f l) l = l.map swp := by
  induction l with
  | nil =>
    intro f _
    have : Lib.countFrom [32] f [] = 0 := by
      cases f with
      | zero => rfl
      | succ f => rfl
    rw [this]; rfl
  | cons b t ih =>
    intro f hf
    by_cases hb : b = 32
    · subst hb
      cases f with
      | zero => simp at hf
      | succ f =>
        have e1 : Lib.countFrom [32] (f + 1) (32 :: t) = Lib.countFrom [32] f t + 1 := by
          rw [Lib.countFrom, index_blank]
          simp [Nat.add_comm]
        rw [e1, Lib.replaceK, index_blank]
        have := ih f (by simp at hf; omega)
        simp [this, swp]
    · rw [count_other hb, repl_other hb, ih f (by simp at hf; omega)]
      simp [swp, hb]
theorem repl_swap (l : List UInt8) : Lib.replaceAll l [32] [95] = l.map swp := by
  have h : Lib.replaceNum l [32] (-1) = Lib.count l [32] := by unfold Lib.replaceNum; rw [if_pos (.inl (by omega))]
  unfold Lib.replaceAll Lib.replace
  rw [if_neg (by decide), h]
  exact repl_count l _ (Nat.lt_succ_self _)

end Go.Proofs.YtppfhepipadepaaGreatDoor

namespace Go.Proofs.YtppfhepipadepaaGreatDoor
open Go.RowKit Go.Shelf Go.Maps Go.WideMaps

theorem writeNumber_big {k : Int} (h0 : 0 ≤ k) (h1 : k ≤ 1000000) (w : World) (hT : Tb w) : Calls Tryz.prog 97 #[.int .i64 k] w fun e w' => e = .returned (.string (str (dec k))) ∧ Below w.heap.size w w' := by
  have hf := Tryz.strconv_FormatInt_10 k (by omega) (by omega) w hT
  have e1 : (⟨(Lib.itoa k).toArray⟩ : ByteArray) = str (dec k) := by
    obtain ⟨n, rfl⟩ := Int.eq_ofNat_of_zero_le h0
    rw [Lib.itoa_nonneg]; rfl
  rw [e1] at hf
  obtain ⟨s, hs⟩ : ∃ s, s = str (dec k) := ⟨_, rfl⟩
  rw [← hs] at hf ⊢
  clear hT e1 hs
  go_enter Tryz.func97, Tryz.ntmps97
  go_wp2_with (go_at_call 115; refine hf.mono ?_; rintro e w' ⟨rfl, q, os, rfl⟩)
  go_ret
  exact ⟨rfl, Lib.below_grow _ _ (Nat.le_refl _) _ _⟩

/-- What strings.ReplaceAll is owed to say here. -/
def RepAt (w : World) : Prop := ∀ (t : List UInt8) (W : World), t.length ≤ 1000 → Below w.heap.size w W → Calls Tryz.prog 101 #[.string (str t), .string ⟨#[32]⟩, .string ⟨#[95]⟩] W fun e w' => e = .returned (.string (str (t.map swp))) ∧ Below W.heap.size W w'
theorem RepAt.below {w w' : World} (h : RepAt w) (hb : Below w.heap.size w w') : RepAt w' := fun t W ht hW => h t W ht (hb.trans (hW.mono hb.size))

theorem fieldText (q : ByteArray) (W : World) : (Instr.field 46 (.agg #[.int .i64 0, .string q]) 1).run Tryz.prog W = .ok (.string q) W := by kernel_rfl
theorem keep4W {v v' : World} {P : Nat} {c0 c1 c2 c3 : Value} (hl : P < v.heap.size) (hb : Below v.heap.size v v') (h : v.cell? ⟨P, 0, none⟩ = some c0 ∧ v.cell? ⟨P, 1, none⟩ = some c1 ∧ v.cell? ⟨P, 2, none⟩ = some c2 ∧ v.cell? ⟨P, 3, none⟩ = some c3) : v'.cell? ⟨P, 0, none⟩ = some c0 ∧ v'.cell? ⟨P, 1, none⟩ = some c1 ∧ v'.cell? ⟨P, 2, none⟩ = some c2 ∧ v'.cell? ⟨P, 3, none⟩ = some c3 :=
  ⟨(hb.cell (p := ⟨P, 0, none⟩) hl).trans h.1, (hb.cell (p := ⟨P, 1, none⟩) hl).trans h.2.1, (hb.cell (p := ⟨P, 2, none⟩) hl).trans h.2.2.1, (hb.cell (p := ⟨P, 3, none⟩) hl).trans h.2.2.2⟩

set_option maxRecDepth 20000 in
set_option maxHeartbeats 1000000 in
theorem writeOut_any (u : Ou) (ka : Option Addr) (kn kc : Nat) (w : World) (hok : OutOk u) (hr : ruleR u.l u.x u.y = 0) (hkn : kn ≤ 1048576) (hI : IAt w ka kn u.l) (hTb : Tb w) (hRep : RepAt w) :
    Calls Tryz.prog 113 #[.agg #[.int .i64 u.v, .slice ka kn kc, .int .i64 u.x, .int .i64 u.y]] w fun e w' => e = .returned (.string (str (dec u.v ++ (61 :: (rtxR u.l u.x u.y).map swp)))) ∧ Below w.heap.size w w' := by
  obtain ⟨d1, hd1⟩ : ∃ z, z = dec u.v := ⟨_, rfl⟩
  obtain ⟨r1, hr1⟩ : ∃ z, z = rtxR u.l u.x u.y := ⟨_, rfl⟩
  obtain ⟨r2, hr2⟩ : ∃ z, z = r1.map swp := ⟨_, rfl⟩
  have hl1 : d1.length ≤ 10 := by rw [hd1]; exact dec_big hok.v.2
  have hlr : r1.length ≤ 100 := by rw [hr1]; exact rtx_len hok
  have hl2 : r2.length ≤ 100 := by rw [hr2]; simpa using hlr
  have hrt : rtR u.l u.x u.y = (0, r1) := by unfold rtR; rw [if_neg (by simp [hr]), hr1]
  rw [← hd1, ← hr1, ← hr2]
  obtain ⟨uv, huv⟩ : ∃ z, z = u.v := ⟨_, rfl⟩
  obtain ⟨ux, hux⟩ : ∃ z, z = u.x := ⟨_, rfl⟩
  obtain ⟨uy, huy⟩ : ∃ z, z = u.y := ⟨_, rfl⟩
  have hv := hok.v
  have hA : ∀ W, Below w.heap.size w W → Calls Tryz.prog 97 #[.int .i64 uv] W fun e w' => e = .returned (.string (str d1)) ∧ Below W.heap.size W w' := fun W hW => by rw [hd1, huv]; exact writeNumber_big hv.1 hv.2 W (hTb.below hW (Nat.le_refl _))
  have hB : ∀ W, Below w.heap.size w W → Calls Tryz.prog 120 #[.agg #[.slice ka kn kc, .int .i64 ux, .int .i64 uy]] W fun e w' => e = .returned (.agg #[.int .i64 0, .string (str r1)]) ∧ Below W.heap.size W w' := fun W hW => by
    have := iRuleText_any kn kc ka u.l u.x u.y W hkn (hI.below hW (Nat.le_refl _)) (hTb.below hW (Nat.le_refl _))
    rw [hrt] at this
    rw [hux, huy]
    exact this
  have hC : ∀ W, Below w.heap.size w W → Calls Tryz.prog 101 #[.string (str r1), .string ⟨#[32]⟩, .string ⟨#[95]⟩] W fun e w' => e = .returned (.string (str r2)) ∧ Below W.heap.size W w' := fun W hW => by rw [hr2]; exact hRep r1 W (by omega) hW
  rw [← huv, ← hux, ← huy]
  have hss : ∀ z : List UInt8, (str z).size = z.length := fun _ => rfl
  have happ : ∀ z r : List UInt8, str z ++ str r = str (z ++ r) := str_append
  have hc61 : ∀ z : List UInt8, str z ++ ⟨#[61]⟩ = str (z ++ [61]) := fun z => str_append z _
  have hfd := fieldText (str r1)
  have hz1 : ¬ 9223372036854775807 < d1.length + 1 := by omega
  have hz2 : ¬ 9223372036854775807 < d1.length + 1 + r2.length := by omega
  have hbx : Below w.heap.size w (w.alloc (.cells #[.int .i64 uv, .slice ka kn kc, .int .i64 ux, .int .i64 uy] 100)) := below_box _
  obtain ⟨W0, hW0⟩ : ∃ W0, W0 = w.alloc (.cells #[.int .i64 uv, .slice ka kn kc, .int .i64 ux, .int .i64 uy] 100) := ⟨_, rfl⟩
  have hP0 := heap_alloc_new w (.cells #[.int .i64 uv, .slice ka kn kc, .int .i64 ux, .int .i64 uy] 100)
  rw [← hW0] at hbx hP0
  obtain ⟨p0, p1, p2, p3, _⟩ := cells4 hP0
  have hl0 := lt_of_block hP0
  have HB0 : Hid (Below w.heap.size w W0) := hbx
  clear hd1 hr1 hr2 hrt huv hux huy hv hok hr hI hTb hRep hlr hbx hP0
  go_enter Tryz.func113, Tryz.ntmps113
  go_wp2
  rw [← hW0]
  clear hW0
  go_region_held3 (fun w' => w'.cell? ⟨w.heap.size, 0, none⟩ = some (.int .i64 uv) ∧ w'.cell? ⟨w.heap.size, 1, none⟩ = some (.slice ka kn kc) ∧ w'.cell? ⟨w.heap.size, 2, none⟩ = some (.int .i64 ux) ∧ w'.cell? ⟨w.heap.size, 3, none⟩ = some (.int .i64 uy)) (go_keep)
    (first
      | (go_at_call 97; refine (hA _ HB0.out.drew).mono ?_; rintro e w2 ⟨rfl, hb2⟩; obtain ⟨z0, z1, z2, z3⟩ := keep4W hl0 (show Below W0.heap.size W0 w2 from (Below.refl _ _).drew.trans hb2) ⟨p0, p1, p2, p3⟩; have hs2 : W0.heap.size ≤ w2.heap.size := hb2.size; have HB2 : Hid (Below w.heap.size w w2) := HB0.out.drew.trans (hb2.mono HB0.out.size))
      | (go_at_call 120; refine (hB _ HB2.out).mono ?_; rintro e w3 ⟨rfl, hb3⟩; obtain ⟨x0, x1, x2, x3⟩ := keep4W (Nat.lt_of_lt_of_le hl0 hs2) hb3 ⟨z0, z1, z2, z3⟩; have hs3 := Nat.le_trans hs2 hb3.size; have HB3 : Hid (Below w.heap.size w w3) := HB2.out.trans (hb3.mono HB2.out.size))
      | (go_at_call 101; refine (hC _ HB3.out).mono ?_; rintro e w4 ⟨rfl, hb4⟩; obtain ⟨v0, v1, v2, v3⟩ := keep4W (Nat.lt_of_lt_of_le hl0 hs3) hb4 ⟨x0, x1, x2, x3⟩; have HB4 : Hid (Below w.heap.size w w4) := HB3.out.trans (hb4.mono HB3.out.size)))
  go_wp2
  go_ret
  exact ⟨by simp, HB4.out⟩

end Go.Proofs.YtppfhepipadepaaGreatDoor

namespace Go.Proofs.YtppfhepipadepaaGreatDoor
open Go.RowKit Go.Shelf Go.Maps Go.WideMaps Go.Sort

set_option maxHeartbeats 1000000 in
theorem writeRef_any (p q : Int) (w : World) (hp : 0 ≤ p ∧ p ≤ 999) (hq : 0 ≤ q ∧ q ≤ 999) (hT : Tb w) :
    Calls Tryz.prog 133 #[.agg #[.int .i64 p, .int .i64 q]] w fun e w' => e = .returned (.string (str (refT (p, q)))) ∧ Below w.heap.size w w' := by
  have hmix : Tryz.prog.follows .mixedOrders = true := by kernel_rfl
  obtain ⟨d1, hd1⟩ : ∃ z, z = dec p := ⟨_, rfl⟩
  obtain ⟨d2, hd2⟩ : ∃ z, z = dec q := ⟨_, rfl⟩
  have hl1 : d1.length ≤ 10 := by rw [hd1]; exact dec_len hp.2
  have hl2 : d2.length ≤ 10 := by rw [hd2]; exact dec_len hq.2
  obtain ⟨W, hW⟩ : ∃ W, W = w.alloc (.cells #[.int .i64 p, .int .i64 q] 115) := ⟨_, rfl⟩
  have hb1 : Below w.heap.size w W := by rw [hW]; exact below_box _
  have hh1 : W.heap[w.heap.size]? = some (.cells #[.int .i64 p, .int .i64 q] 115 (0, 0)) := by rw [hW]; exact heap_alloc_new _ _
  obtain ⟨c0, c1⟩ := cells2 hh1
  have z0 := cell_regrown c0
  have z1 := cell_regrown c1
  have A1 : ∀ dd os, Calls Tryz.prog 97 #[.int .i64 p] (grow (redrawn W dd) os) fun e w'' => e = .returned (.string (str d1)) ∧ ∃ p : Regrown, w'' = grow (redrawn W p.d) p.os := fun dd os => Calls.regrown_of (by rw [hd1]; exact writeNumber_any hp.1 hp.2 _ (hT.below (hb1.trans ((below_regrown W dd os).mono hb1.size)) (Nat.le_refl _)))
  have A2 : ∀ dd os, Calls Tryz.prog 97 #[.int .i64 q] (grow (redrawn W dd) os) fun e w'' => e = .returned (.string (str d2)) ∧ ∃ p : Regrown, w'' = grow (redrawn W p.d) p.os := fun dd os => Calls.regrown_of (by rw [hd2]; exact writeNumber_any hq.1 hq.2 _ (hT.below (hb1.trans ((below_regrown W dd os).mono hb1.size)) (Nat.le_refl _)))
  have hss : ∀ z : List UInt8, (str z).size = z.length := fun _ => rfl
  have happ : ∀ z r : List UInt8, str z ++ str r = str (z ++ r) := str_append
  have hc58 : ∀ z : List UInt8, str z ++ ⟨#[58]⟩ = str (z ++ [58]) := fun z => str_append z _
  have g1 : ¬ 9223372036854775807 < d1.length + 1 := by omega
  have g2 : ¬ 9223372036854775807 < d1.length + 1 + d2.length := by omega
  have HR : Hid (refT (p, q) = d1 ++ (58 :: d2)) := by show _ = _; rw [hd1, hd2]; rfl
  clear hd1 hd2 hp hq hT hh1 c0 c1
  rw [HR.out]
  go_enter Tryz.func133, Tryz.ntmps133
  go_wp2_with fail
  rw [← hW]
  clear hW
  refine wp_region_quiet_below hmix (by kernel_rfl) ?_
  repeat (go_big_quiet_step (first | (with_reducible exact A1 _ _) | (with_reducible exact A2 _ _)))
  refine wpQuiet_nil ?_
  intro V hw'
  have hbV : Below W.heap.size W V := by
    obtain ⟨⟨dz, osz⟩, hw''⟩ := hw'
    rw [hw'']; exact below_regrown W dz osz
  clear hw' A1 A2
  go_wp2
  go_ret
  exact ⟨by simp, hb1.trans (hbV.mono hb1.size)⟩

end Go.Proofs.YtppfhepipadepaaGreatDoor

namespace Go.Proofs.YtppfhepipadepaaGreatDoor
open Go.RowKit

theorem join_flat (a : List UInt8) (t : List (List UInt8)) (sep : List UInt8) : Lib.join (a :: t) sep = a ++ t.flatMap fun x => sep ++ x := by
  unfold Lib.join
  induction t generalizing a with
  | nil => simp [List.intercalate]
  | cons b t ih =>
    have e : List.intercalate sep (a :: b :: t) = a ++ (sep ++ List.intercalate sep (b :: t)) := by simp [List.intercalate, List.intersperse]
    rw [e, ih b]
    simp

def outW (o : Ou) : List UInt8 := dec o.v ++ (61 :: (rtxR o.l o.x o.y).map swp)
def kindW (k f : Int) : List (List UInt8) := if k = 0 then [[112, 97, 121]] else if k = 1 then [[106, 111, 105, 110], dec f] else [[108, 101, 97, 118, 101], dec f]
def refsW (rs : List (Int × Int)) : List UInt8 := Lib.join (rs.map refT) [43]
def wordsT (k f : Int) (rs : List (Int × Int)) (os : List Ou) : List (List UInt8) := kindW k f ++ (refsW rs :: os.map outW)

theorem refsW_refsT {rs : List (Int × Int)} (h : rs ≠ []) : 32 :: refsW rs = refsT rs := by
  cases rs with
  | nil => exact absurd rfl h
  | cons r t =>
    unfold refsW refsT
    rw [List.map_cons, join_flat, List.flatMap_map]
    rfl
theorem join_words {k f : Int} {rs : List (Int × Int)} {os : List Ou} (hk : k = 0 ∨ k = 1 ∨ k = 2) (hr : rs ≠ []) : Lib.join (wordsT k f rs os) [32] = txT k f rs os := by
  have e := refsW_refsT hr
  have e2 : (os.map outW).flatMap (fun x => 32 :: x) = os.flatMap outT := by rw [List.flatMap_map]; rfl
  rcases hk with rfl | rfl | rfl <;> simp [wordsT, kindW, join_flat, txT, headT, kindT, ← e, e2]

end Go.Proofs.YtppfhepipadepaaGreatDoor
