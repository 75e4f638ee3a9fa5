/- Plain mathematics of the ledger: what a list of texts and a list of signatures answer when they are asked for faults, element by element, and the number of an element in a list. No program is named here. Closed facts of the translation, and what it says that a slice value leads to a list of texts or of signatures. The program's two-way tables: a slice of what is noted and a map from it to its number, behind a pointer; what their methods do. What the program's own reading of a ledger comes to: the tables of its texts, or the first fault. The program's table of signatures, as the one of texts. A new signature is put into the table: the slice one longer, the map one more. What the program's own reading of the signatures comes to. What the program's own reading of a whole ledger comes to: the two tables, or its fault. What the specification's own functions of chapter 1 answer, and that they write nothing that was there. The specification's fault of a ledger: two loops, one over the texts, one over the signatures. What the laws' own helpers do with a ledger that came in: its size is told, it is copied into new memory, two are compared. The laws' own copies and comparisons of ledgers. The laws' own copies and comparisons of signatures and of whole ledgers. The laws' own copies, sizes and comparisons of whole ledgers. What IdOf and TextOf and HasSign answer: the specification's and the program's. The law on IdOf answers true, whatever ledger and text come in, and writes nothing that was there. The marks that the laws write into lists, and the looks that they are there. The marks of signatures and numbers, and of whole ledgers. The marks of whole ledgers and of results that hold one; results compared. What SignsOf answers: the specification's and the program's. What the specification's SignsOf answers. The marks of lists of numbers, and results that hold one compared. Rules that come in: their size is told, they are copied into new memory, two are compared. The program's iterator over a rule's keys, and those who range over it. Are all of them keys, and do they rise: the program's loops over its iterator. What keeps a rule from being one: the specification's code and the program's. The program's RuleFault. The specification's copy of a ledger; the program's tables handed out as a ledger. The specification's copy of a ledger: two rows of new memory. What a result with a ledger is, and what the specification's NoteText answers. Refs that come in: their size is told, they are copied, two lists are compared. Outs that come in: their size is told, they are copied, two lists are compared. Outs and transactions that come in are copied into new memory. Lists of outs that come in are copied into new memory. Transactions that come in: two are compared, their size is told, they are copied. Transactions that come in are copied into new memory. Coins of the call's own: their row and their keys' rows; marks are written into them, and read back. Outs of the call's own: their row and their keys' rows; marks are written into them. -/
import Derived.Maps.OwnSet
import Derived.Test.YtohhdeecdikopaaGreatDoorProg
import Derived.WalkKit
import Derived.WalkSpells
import Derived.WalkLawsBesides
import Derived.Maps.Own
import Derived.Maps.OwnOps
import Derived.Lib.SmallJoins
import Derived.Deep.QuietTactic
import Derived.BigQuiet
import Derived.Deep.RegionHeld3
import Derived.Deep.AppendLies
import Derived.DeepKeys4
import Derived.Deep.DrawnRows
import Derived.Deep.RegionLaw
import Derived.RangeFuncFrom
import Derived.RangeFuncBox
import Derived.RangeFuncCalls
import Derived.RangeFuncLeaves
import Derived.Shelf.Abstract
import Derived.OwnWalkIn
import Derived.TacticsInMore
import Derived.LoopNIn
import Derived.LoopIn
import Derived.OneCell
namespace Go.Proofs.YtohhdeecdikopaaGreatDoor

/-- The number of x in l: its first place and 1; 0: it is not there. -/
def num {A : Type} [DecidableEq A] : List A → A → Nat
  | [], _ => 0
  | y :: l, x => if y = x then 1 else if num l x = 0 then 0 else num l x + 1

section
variable {A : Type} [DecidableEq A]

theorem num_zero (l : List A) (x : A) : num l x = 0 ↔ x ∉ l := by
  induction l with
  | nil => simp [num]
  | cons y l ih =>
    unfold num
    by_cases h : y = x
    · simp [h]
    · by_cases h2 : num l x = 0
      · have := ih.1 h2
        simp [h, h2]
        exact ⟨fun e => h e.symm, this⟩
      · have h3 : x ∈ l := Classical.byContradiction fun hn => h2 (ih.2 hn)
        simp [h, h2, h3]

theorem num_hit (l : List A) (x : A) (d : A) (k : Nat) (hk : k < l.length) (he : l.getD k d = x) (hn : x ∉ l.take k) : num l x = k + 1 := by
  induction l generalizing k with
  | nil => simp at hk
  | cons y l ih =>
    cases k with
    | zero => simp at he; simp [num, he]
    | succ k =>
      simp at hk he hn
      have := ih k hk (by simpa using he) hn.2
      have hyx : ¬ y = x := fun e => hn.1 e.symm
      simp [num, hyx, this]

omit [DecidableEq A] in
theorem take_snoc (l : List A) (d : A) (k : Nat) (hk : k < l.length) : l.take (k + 1) = l.take k ++ [l.getD k d] := by
  rw [List.take_succ_eq_append_getElem hk]
  simp [List.getD, hk]

end

instance : DecidableEq ByteArray := fun a b => decidable_of_iff (a.data = b.data) ⟨fun h => by cases a; cases b; simp_all, fun h => by rw [h]⟩

def G0 : Int × Int := (0, 0)

end Go.Proofs.YtohhdeecdikopaaGreatDoor

namespace Go.Proofs.YtohhdeecdikopaaGreatDoor
open Go.RowKit Go.Maps

theorem Tryz.infoStr : (Tryz.prog.info? 9).map (fun i => (i.zero, i.size, i.bytes)) = some (some (.string ByteArray.empty), 1, 16) := by kernel_rfl
/-- The slice value '.slice a n _' leads to the signatures gs, two cells each. -/
def GAt (w : World) (a : Option Addr) (n : Nat) (gs : List (Int × Int)) : Prop :=
  gs.length = n ∧ (n = 0 ∨ ∃ b off, a = some ⟨b, off, none⟩ ∧ b < w.heap.size ∧
    ∀ j, j < n → w.cell? ⟨b, off + j * 2, none⟩ = some (.int .i64 (gs.getD j G0).1) ∧ w.cell? ⟨b, off + j * 2 + 1, none⟩ = some (.int .i64 (gs.getD j G0).2))

theorem GAt.below {w w' : World} {a : Option Addr} {n : Nat} {gs : List (Int × Int)} (h : GAt w a n gs) {B : Nat} (hb : Below B w w') (hB : w.heap.size ≤ B) : GAt w' a n gs := by
  obtain ⟨hn, h | ⟨b, off, rfl, hlt, hc⟩⟩ := h
  · exact ⟨hn, .inl h⟩
  · exact ⟨hn, .inr ⟨b, off, rfl, Nat.lt_of_lt_of_le hlt hb.size, fun j hj =>
      ⟨(hb.cell (p := ⟨b, off + j * 2, none⟩) (Nat.lt_of_lt_of_le hlt hB)).trans (hc j hj).1, (hb.cell (p := ⟨b, off + j * 2 + 1, none⟩) (Nat.lt_of_lt_of_le hlt hB)).trans (hc j hj).2⟩⟩⟩

def gcells (gs : List (Int × Int)) : List Value := gs.flatMap fun g => [.int .i64 g.1, .int .i64 g.2]

theorem gcells_at (gs : List (Int × Int)) (j : Nat) (hj : j < gs.length) : (gcells gs)[j * 2]? = some (.int .i64 (gs.getD j G0).1) ∧ (gcells gs)[j * 2 + 1]? = some (.int .i64 (gs.getD j G0).2) := by
  induction gs generalizing j with
  | nil => simp at hj
  | cons g r ih =>
    cases j with
    | zero => simp [gcells]
    | succ j =>
      have := ih j (by simpa using hj)
      have e : gcells (g :: r) = .int .i64 g.1 :: .int .i64 g.2 :: gcells r := by simp [gcells]
      rw [e, show (j + 1) * 2 = j * 2 + 1 + 1 by omega]
      simpa using this

theorem GAt.owned {w : World} {base n cap g : Nat} {gs : List (Int × Int)} {e : TypeId} (h : w.ownsRow base e 2 (.slice (some ⟨g, 0, none⟩) n cap) n (gcells gs)) (hn : gs.length = n) : GAt w (some ⟨g, 0, none⟩) n gs := by
  refine ⟨hn, .inr ⟨g, 0, rfl, (h.lt g rfl).2, fun j hj => ?_⟩⟩
  have := gcells_at gs j (by omega)
  rw [Nat.zero_add, h.cellAt (j * 2) (by omega), h.cellAt (j * 2 + 1) (by omega)]
  exact this

theorem str_yes {s x : ByteArray} (h : s = x) : (s.toList == x.toList) = true := by rw [h]; simp
theorem str_no {s x : ByteArray} (h : ¬ s = x) : (s.toList == x.toList) = false := by
  rw [ByteArray.toList_eq, ByteArray.toList_eq]
  refine Bool.eq_false_iff.2 fun e => h ?_
  have e' : s.data.toList = x.data.toList := by simpa using e
  cases s; cases x
  simpa using e'

def inB (v lo hi : Int) : Bool := decide (lo ≤ v ∧ v ≤ hi)

theorem inB_true {v lo hi : Int} : inB v lo hi = true ↔ lo ≤ v ∧ v ≤ hi := by simp [inB]
theorem GAt.take {w : World} {a : Option Addr} {n k : Nat} {gs : List (Int × Int)} (h : GAt w a n gs) (hk : k ≤ n) : GAt w a k (gs.take k) := by
  obtain ⟨hn, h⟩ := h
  refine ⟨by simp; omega, ?_⟩
  rcases h with h | ⟨b, off, rfl, hb, hc⟩
  · exact .inl (by omega)
  · refine .inr ⟨b, off, rfl, hb, fun j hj => ?_⟩
    rw [(hc j (by omega)).1, (hc j (by omega)).2]
    simp [List.getD, hj]

theorem two_set {w : World} {b : Nat} {c0 c1 : Value} {t : TypeId} (h : w.heap[b]? = some (.cells #[c0, c1] t (0, 0))) (v0 v1 : Value) :
    (w.setCell ⟨b, 0, none⟩ v0).cell? ⟨b, 0, none⟩ = some v0 ∧ ((w.setCell ⟨b, 0, none⟩ v0).setCell ⟨b, 1, none⟩ v1).cell? ⟨b, 1, none⟩ = some v1 ∧ ((w.setCell ⟨b, 0, none⟩ v0).setCell ⟨b, 1, none⟩ v1).cell? ⟨b, 0, none⟩ = some v0 := by
  have h1 : (w.setCell ⟨b, 0, none⟩ v0).heap[b]? = some (.cells #[v0, c1] t (0, 0)) := by
    have := Joins.block_setCell (i := 0) h v0
    simpa using this
  have h2 : ((w.setCell ⟨b, 0, none⟩ v0).setCell ⟨b, 1, none⟩ v1).heap[b]? = some (.cells #[v0, v1] t (0, 0)) := by
    have := Joins.block_setCell (i := 1) h1 v1
    simpa using this
  exact ⟨by unfold World.cell?; rw [h1]; rfl, by unfold World.cell?; rw [h2]; rfl, by unfold World.cell?; rw [h2]; rfl⟩

/-- What is known of the block of the result behind a call. -/
theorem res_cells {w w2 : World} {b : Nat} {c0 c1 : Value} {t : TypeId} {B : Nat} (h : w.heap[b]? = some (.cells #[c0, c1] t (0, 0))) (hb : Below B w w2) (hB : b < B) :
    w2.cell? ⟨b, 0, none⟩ = some c0 ∧ w2.cell? ⟨b, 1, none⟩ = some c1 ∧ w2.frozen? ⟨b, 0, none⟩ = false ∧ w2.frozen? ⟨b, 1, none⟩ = false ∧ Hid (w2.heap[b]? = some (.cells #[c0, c1] t (0, 0))) := by
  have h2 := (hb.block b hB).trans h
  exact ⟨by unfold World.cell?; rw [h2]; rfl, by unfold World.cell?; rw [h2]; rfl, Joins.unfrozen_of_block h2 0, Joins.unfrozen_of_block h2 1, h2⟩

end Go.Proofs.YtohhdeecdikopaaGreatDoor

namespace Go.Proofs.YtohhdeecdikopaaGreatDoor
open Go.RowKit Go.Maps Go.WideMaps

theorem Tryz.laidOut : laidOutB Tryz.prog = true := by kernel_rfl

end Go.Proofs.YtohhdeecdikopaaGreatDoor

namespace Go.Proofs.YtohhdeecdikopaaGreatDoor
open Go.RowKit Go.Maps Go.WideMaps

theorem isWithin_any (v lo hi : Int) (w : World) : Calls Tryz.prog 87 #[.int .i64 v, .int .i64 lo, .int .i64 hi] w fun e w' => e = .returned (.bool (inB v lo hi)) ∧ w' = w := by
  by_cases h1 : lo ≤ v
  · by_cases h2 : v ≤ hi
    · have hb : inB v lo hi = true := by simp [inB, h1, h2]
      rw [hb]
      go_enter Tryz.func87, Tryz.ntmps87
      go_wp2
      go_ret
      exact ⟨rfl, rfl⟩
    · have hb : inB v lo hi = false := by simp [inB, h2]
      rw [hb]
      go_enter Tryz.func87, Tryz.ntmps87
      go_wp2
      go_ret
      exact ⟨rfl, rfl⟩
  · have hb : inB v lo hi = false := by simp [inB, h1]
    rw [hb]
    go_enter Tryz.func87, Tryz.ntmps87
    go_wp2
    go_ret
    exact ⟨rfl, rfl⟩

theorem isKey_any (v : Int) (w : World) : Calls Tryz.prog 86 #[.int .i64 v] w fun e w' => e = .returned (.bool (inB v 1 999)) ∧ w' = w := by
  go_enter Tryz.func86, Tryz.ntmps86
  go_wp2_with (go_at_call 87; refine (isWithin_any _ _ _ _).mono ?_; rintro e w' ⟨rfl, rfl⟩)
  go_ret
  exact ⟨rfl, rfl⟩

end Go.Proofs.YtohhdeecdikopaaGreatDoor

namespace Go.Proofs.YtohhdeecdikopaaGreatDoor
open Go.RowKit Go.Maps Go.WideMaps

theorem grown_of_below {w w' : World} (h : Below w.heap.size w w') : w.grownBy w' none := ⟨h.os, h.tape, h.output, h.size, fun k hk _ => h.block k hk⟩

end Go.Proofs.YtohhdeecdikopaaGreatDoor

namespace Go.Proofs.YtohhdeecdikopaaGreatDoor
open Go.RowKit Go.Maps Go.WideMaps
attribute [local go_sem ↓] Go.wp_at_zero Go.wp_at_succ

end Go.Proofs.YtohhdeecdikopaaGreatDoor

namespace Go.Proofs.YtohhdeecdikopaaGreatDoor
open Go.RowKit Go.Maps Go.WideMaps

end Go.Proofs.YtohhdeecdikopaaGreatDoor

namespace Go.Proofs.YtohhdeecdikopaaGreatDoor
open Go.RowKit Go.Maps Go.WideMaps

end Go.Proofs.YtohhdeecdikopaaGreatDoor

namespace Go.Proofs.YtohhdeecdikopaaGreatDoor
open Go.RowKit Go.Maps

theorem l1In_any (v lo hi : Int) (w : World) : Calls Tryz.prog 32 #[.int .i64 v, .int .i64 lo, .int .i64 hi] w fun e w' => e = .returned (.bool (inB v lo hi)) ∧ w' = w := by
  by_cases h1 : lo ≤ v
  · by_cases h2 : v ≤ hi
    · have hb : inB v lo hi = true := by simp [inB, h1, h2]
      rw [hb]
      go_enter Tryz.func32, Tryz.ntmps32
      go_wp2
      go_ret
      exact ⟨rfl, rfl⟩
    · have hb : inB v lo hi = false := by simp [inB, h2]
      rw [hb]
      go_enter Tryz.func32, Tryz.ntmps32
      go_wp2
      go_ret
      exact ⟨rfl, rfl⟩
  · have hb : inB v lo hi = false := by simp [inB, h1]
    rw [hb]
    go_enter Tryz.func32, Tryz.ntmps32
    go_wp2
    go_ret
    exact ⟨rfl, rfl⟩

theorem l1Key_any (v : Int) (w : World) : Calls Tryz.prog 33 #[.int .i64 v] w fun e w' => e = .returned (.bool (inB v 1 999)) ∧ w' = w := by
  go_enter Tryz.func33, Tryz.ntmps33
  go_wp2_with (go_at_call 32; refine (l1In_any _ _ _ _).mono ?_; rintro e w' ⟨rfl, rfl⟩)
  go_ret
  exact ⟨rfl, rfl⟩

theorem signed_more {gs : List (Int × Int)} {n k : Nat} {x g : Int × Int} (hn : gs.length = n) (hlt : k < n) (hj : x ∉ gs.take k) (hg : g = gs.getD k G0) (hne : ¬ g = x) : Hid (x ∉ gs.take (k + 1)) := by
  show x ∉ _
  rw [take_snoc gs G0 k (by omega), ← hg]
  simp only [List.mem_append, List.mem_singleton, not_or]
  exact ⟨hj, fun e => hne e.symm⟩

def memB (gs : List (Int × Int)) (x : Int × Int) : Bool := num gs x != 0

end Go.Proofs.YtohhdeecdikopaaGreatDoor

namespace Go.Proofs.YtohhdeecdikopaaGreatDoor
open Go.RowKit Go.Maps

end Go.Proofs.YtohhdeecdikopaaGreatDoor

namespace Go.Proofs.YtohhdeecdikopaaGreatDoor
open Go.RowKit Go.Maps

end Go.Proofs.YtohhdeecdikopaaGreatDoor

namespace Go.Proofs.YtohhdeecdikopaaGreatDoor
open Go.RowKit Go.Maps

end Go.Proofs.YtohhdeecdikopaaGreatDoor

namespace Go.Proofs.YtohhdeecdikopaaGreatDoor
open Go.RowKit Go.Maps

end Go.Proofs.YtohhdeecdikopaaGreatDoor

namespace Go.Proofs.YtohhdeecdikopaaGreatDoor
open Go.RowKit Go.Maps

theorem below_box {w : World} (o : Obj) : Below w.heap.size w (w.alloc o) := (Below.refl _ _).alloc (Nat.le_refl _) _
theorem below_box2 {w : World} (o o' : Obj) : Below w.heap.size w ((w.alloc o).alloc o') := (below_box o).alloc (by simp) _
theorem block_at2 {w : World} {o o' : Obj} : ((w.alloc o).alloc o').heap[w.heap.size]? = some o := (Below.heap_alloc _ _ _ (by simp)).trans (heap_alloc_new w o)

end Go.Proofs.YtohhdeecdikopaaGreatDoor

namespace Go.Proofs.YtohhdeecdikopaaGreatDoor
open Go.RowKit Go.Maps Go.WideMaps

/-- Below, behind the result's two stores. -/
theorem below_res {w w2 : World} (h : Below w.heap.size w w2) (v0 v1 : Value) : Below w.heap.size w ((w2.setCell ⟨w.heap.size + 1, 0, none⟩ v0).setCell ⟨w.heap.size + 1, 1, none⟩ v1) :=
  (h.setCell (p := ⟨w.heap.size + 1, 0, none⟩) (show w.heap.size ≤ w.heap.size + 1 by omega) _).setCell (p := ⟨w.heap.size + 1, 1, none⟩) (show w.heap.size ≤ w.heap.size + 1 by omega) _

end Go.Proofs.YtohhdeecdikopaaGreatDoor

namespace Go.Proofs.YtohhdeecdikopaaGreatDoor
open Go.RowKit Go.Maps Go.WideMaps

theorem keepb {v v' : World} {b : Nat} {o : Obj} (h : v.heap[b]? = some o) (hb : Below v.heap.size v v') : Hid (v'.heap[b]? = some o) := (hb.block b (lt_of_block h)).trans h
theorem cells2 {v : World} {b : Nat} {a0 a1 : Value} {t : TypeId} (h : v.heap[b]? = some (.cells #[a0, a1] t (0, 0))) : v.cell? ⟨b, 0, none⟩ = some a0 ∧ v.cell? ⟨b, 1, none⟩ = some a1 := ⟨by unfold World.cell?; rw [h]; rfl, by unfold World.cell?; rw [h]; rfl⟩

end Go.Proofs.YtohhdeecdikopaaGreatDoor

namespace Go.Proofs.YtohhdeecdikopaaGreatDoor
open Go.RowKit Go.Maps Go.WideMaps

/-- Only blocks from 'lo' to 'hi' may have turned. -/
structure Chg (w w' : World) (lo hi : Nat) : Prop where
  os : w'.os = w.os
  tape : w'.tape = w.tape
  output : w'.output = w.output
  size : w.heap.size ≤ w'.heap.size
  block : ∀ b, b < w.heap.size → (b < lo ∨ hi ≤ b) → w'.heap[b]? = w.heap[b]?

theorem Chg.of_below {w w' : World} (h : Below w.heap.size w w') (lo hi : Nat) : Chg w w' lo hi := ⟨h.os, h.tape, h.output, h.size, fun b hb _ => h.block b hb⟩
theorem Chg.of_grown {w w' : World} {row : Option Nat} {lo hi : Nat} (h : w.grownBy w' row) (hr : ∀ k, row = some k → lo ≤ k ∧ k < hi) : Chg w w' lo hi :=
  ⟨h.os, h.tape, h.output, h.size, fun b hb ho => h.block b hb (fun e => by have := hr b e.symm; omega)⟩
theorem Chg.trans {w w' w2 : World} {lo hi : Nat} (h : Chg w w' lo hi) (k : Chg w' w2 lo hi) : Chg w w2 lo hi :=
  ⟨k.os.trans h.os, k.tape.trans h.tape, k.output.trans h.output, Nat.le_trans h.size k.size, fun b hb ho => (k.block b (Nat.lt_of_lt_of_le hb h.size) ho).trans (h.block b hb ho)⟩
theorem Chg.below {w w' : World} {lo hi B : Nat} (h : Chg w w' lo hi) (hB : B ≤ lo) (hs : B ≤ w.heap.size) : Below B w w' := ⟨h.os, h.tape, h.output, h.size, fun k hk => h.block k (by omega) (by omega)⟩
theorem Chg.keep {w w' : World} {lo hi b : Nat} {o : Obj} (h : Chg w w' lo hi) (hb : w.heap[b]? = some o) (ho : b < lo ∨ hi ≤ b) : w'.heap[b]? = some o := (h.block b (lt_of_block hb) ho).trans hb
theorem Chg.row {w w' : World} {lo hi : Nat} (h : Chg w w' lo hi) {base : Nat} {e : TypeId} {size : Nat} {v : Value} {n : Nat} {xs : List Value} (ho : w.ownsRow base e size v n xs) (hv : ∀ k, v.ownBlock = some k → k < lo ∨ hi ≤ k) : w'.ownsRow base e size v n xs := by
  refine ⟨ho.1, ?_⟩
  rcases ho.2 with hn | ⟨g, cap, cur, rfl, hb, hgg, rest⟩
  · exact .inl hn
  · exact .inr ⟨g, cap, cur, rfl, hb, h.keep hgg (hv g rfl), rest⟩

def mkG (k n : Nat) : List Value := (List.range n).flatMap fun j => [.int .i64 (k + 2 * j : Nat), .int .i64 (k + 2 * j + 1 : Nat)]

end Go.Proofs.YtohhdeecdikopaaGreatDoor

namespace Go.Proofs.YtohhdeecdikopaaGreatDoor
open Go.RowKit Go.Maps Go.WideMaps

theorem mkG_length (k n : Nat) : (mkG k n).length = n * 2 := by
  induction n with
  | zero => rfl
  | succ n ih =>
    have e : mkG k (n + 1) = mkG k n ++ [.int .i64 (k + 2 * n : Nat), .int .i64 (k + 2 * n + 1 : Nat)] := by simp [mkG, List.range_succ]
    rw [e]; simp [ih]; omega

theorem mkG_at {k n j : Nat} (hj : j < n) : (mkG k n)[j * 2]? = some (.int .i64 (k + 2 * j : Nat)) ∧ (mkG k n)[j * 2 + 1]? = some (.int .i64 (k + 2 * j + 1 : Nat)) := by
  induction n with
  | zero => omega
  | succ n ih =>
    have e : mkG k (n + 1) = mkG k n ++ [.int .i64 (k + 2 * n : Nat), .int .i64 (k + 2 * n + 1 : Nat)] := by simp [mkG, List.range_succ]
    have hl := mkG_length k n
    rw [e]
    by_cases h : j < n
    · rw [List.getElem?_append_left (by omega), List.getElem?_append_left (by omega)]
      exact ih h
    · have hjn : j = n := by omega
      subst hjn
      rw [List.getElem?_append_right (by omega), List.getElem?_append_right (by omega), hl]
      constructor
      · simp
      · rw [show j * 2 + 1 - j * 2 = 1 by omega]; rfl

theorem mkG_of {xs : List Value} {k n : Nat} (hl : xs.length = n * 2) (h : ∀ j, j < n → xs[j * 2]? = some (.int .i64 (k + 2 * j : Nat)) ∧ xs[j * 2 + 1]? = some (.int .i64 (k + 2 * j + 1 : Nat))) : xs = mkG k n := by
  apply List.ext_getElem?
  intro j
  by_cases hj : j < n * 2
  · have h1 := h (j / 2) (by omega)
    have h2 := mkG_at (k := k) (n := n) (j := j / 2) (by omega)
    rcases Nat.mod_two_eq_zero_or_one j with e | e
    · rw [show j = j / 2 * 2 by omega, h1.1, h2.1]
    · rw [show j = j / 2 * 2 + 1 by omega, h1.2, h2.2]
  · rw [List.getElem?_eq_none (by omega), List.getElem?_eq_none (by rw [mkG_length]; omega)]

end Go.Proofs.YtohhdeecdikopaaGreatDoor

namespace Go.Proofs.YtohhdeecdikopaaGreatDoor
open Go.RowKit Go.Maps Go.WideMaps

section
variable {w w' : World} {lo hi n c0 m c1 : Nat} {a0 a1 : Option Addr} {xs ys : List Value}
theorem rows_apart {e e' : TypeId} {s s' n' : Nat} {v v' : Value} {zs zs' : List Value} (hne : e ≠ e') (h : w.ownsRow lo e s v n zs) (h' : w.ownsRow lo e' s' v' n' zs') : ∀ b, v.ownBlock = some b → v'.ownBlock ≠ some b := by
  intro b hb hb'
  rcases h.2 with ⟨rfl, _⟩ | ⟨g, c, cur, rfl, _, hh, _⟩
  · simp [Value.ownBlock] at hb
  rcases h'.2 with ⟨rfl, _⟩ | ⟨g', c', cur', rfl, _, hh', _⟩
  · simp [Value.ownBlock] at hb'
  simp [Value.ownBlock] at hb hb'
  subst hb hb'
  rw [hh] at hh'
  simp at hh'
  exact hne hh'.2
end

end Go.Proofs.YtohhdeecdikopaaGreatDoor

namespace Go.Proofs.YtohhdeecdikopaaGreatDoor
open Go.RowKit Go.Maps Go.WideMaps
attribute [local go_sem ↓] Go.wp_at_zero Go.wp_at_succ

theorem Tryz.infoI64 : (Tryz.prog.info? 2).map (fun i => (i.zero, i.size, i.bytes)) = some (some (.int .i64 0), 1, 8) := by kernel_rfl

def ints (l : List Int) : List Value := l.map (Value.int .i64)

theorem heap_alloc_at (w : World) (o : Obj) (n : Nat) (h : n = w.heap.size) : (w.alloc o).heap[n]? = some o := by rw [h]; exact heap_alloc_new w o

end Go.Proofs.YtohhdeecdikopaaGreatDoor

namespace Go.Proofs.YtohhdeecdikopaaGreatDoor
open Go.RowKit Go.Maps Go.WideMaps
attribute [local go_sem ↓] Go.wp_at_zero Go.wp_at_succ

end Go.Proofs.YtohhdeecdikopaaGreatDoor

namespace Go.Proofs.YtohhdeecdikopaaGreatDoor
open Go.RowKit Go.Maps Go.WideMaps

def IAt (w : World) (a : Option Addr) (n : Nat) (l : List Int) : Prop :=
  l.length = n ∧ (n = 0 ∨ ∃ b off, a = some ⟨b, off, none⟩ ∧ b < w.heap.size ∧ ∀ j, j < n → w.cell? ⟨b, off + j, none⟩ = some (.int .i64 (l.getD j 0)))

theorem IAt.below {w w' : World} {a : Option Addr} {n : Nat} {l : List Int} (h : IAt w a n l) {B : Nat} (hb : Below B w w') (hB : w.heap.size ≤ B) : IAt w' a n l := by
  obtain ⟨hn, h | ⟨b, off, rfl, hlt, hc⟩⟩ := h
  · exact ⟨hn, .inl h⟩
  · exact ⟨hn, .inr ⟨b, off, rfl, Nat.lt_of_lt_of_le hlt hb.size, fun j hj => (hb.cell (p := ⟨b, off + j, none⟩) (Nat.lt_of_lt_of_le hlt hB)).trans (hc j hj)⟩⟩

theorem IAt.owned {w : World} {base n c : Nat} {a : Option Addr} {l : List Int} (h : w.ownsRow base 2 1 (.slice a n c) n (ints l)) (hn : l.length = n) : IAt w a n l := by
  refine ⟨hn, ?_⟩
  rcases id h.2 with ⟨_, h0⟩ | ⟨g, cap, cur, e, _⟩
  · exact .inl h0
  · simp at e
    obtain ⟨rfl, rfl⟩ := e
    refine .inr ⟨g, 0, rfl, (h.lt g rfl).2, fun j hj => ?_⟩
    rw [Nat.zero_add, h.cellAt j (by omega)]
    simp [ints, List.getD, show j < l.length by omega]

set_option maxHeartbeats 400000 in
theorem eqI_any (a b : Option Addr) (n c1 c2 : Nat) (l : List Int) (w : World) (hl : n ≤ 1048576) (ha : IAt w a n l) (hb : IAt w b n l) :
    Calls Tryz.prog 95 #[.slice a n c1, .slice b n c2] w fun e w' => e = .returned (.bool true) ∧ Below w.heap.size w w' := by
  have HA : Hid (IAt w a n l) := ha
  have HB : Hid (IAt w b n l) := hb
  clear ha hb
  go_enter Tryz.func95, Tryz.ntmps95
  go_wp2
  go_loopw [5] (fun i wr => ∃ k : Nat, k ≤ n ∧ i = .int .i64 k ∧ Below w.heap.size w wr) (fun i _ => n - (intOf i).toNat)
  case atStart => exact ⟨0, Nat.zero_le _, rfl, Below.refl _ _⟩
  case round =>
    obtain ⟨k, hk, rfl, hbel⟩ := hrel
    by_cases hlt : k < n
    · rcases HA.out.2 with h0 | ⟨b0, o0, e0, l0, d0⟩
      · omega
      subst e0
      rcases HB.out.2 with h0 | ⟨b1, o1, e1, l1, d1⟩
      · omega
      subst e1
      obtain ⟨s, hs⟩ : ∃ s, s = l.getD k 0 := ⟨_, rfl⟩
      have x0 := (hbel.cell (p := ⟨b0, o0 + k, none⟩) l0).trans (d0 k hlt)
      have x1 := (hbel.cell (p := ⟨b1, o1 + k, none⟩) l1).trans (d1 k hlt)
      rw [← hs] at x0 x1
      clear hs d0 d1
      have hki : (k : Int) < (n : Int) := by omega
      go_wp2
      go_quiet (fail)
      go_wp2
      go_roundw
      case rel => exact ⟨k + 1, by omega, by go_num, hbel.trans (Joins.below_draws _ _ _)⟩
      case measure => simp [intOf]; omega
    · go_wp2
      go_ret
      exact ⟨rfl, hbel⟩

def mkI (k n : Nat) : List Value := (List.range n).map fun j => .int .i64 (k + j : Nat)
theorem mkI_of {xs : List Value} {k n : Nat} (hl : xs.length = n * 1) (h : ∀ j, j < n → xs[j]? = some (.int .i64 (k + j : Nat))) : xs = mkI k n := by
  apply List.ext_getElem?
  intro j
  by_cases hj : j < n
  · rw [h j hj]; simp [mkI, hj]
  · rw [List.getElem?_eq_none (by omega), List.getElem?_eq_none (by simp [mkI]; omega)]
theorem mkI_at {k n j : Nat} (hj : j < n) : (mkI k n)[j]? = some (.int .i64 (k + j : Nat)) := by simp [mkI, hj]

theorem markI_round {w wr : World} {base g n cap j k : Nat} (hlt : j < n) (hg : w.grownBy wr (some g))
    (hx : ∃ xs, wr.ownsRow base 2 1 (.slice (some ⟨g, 0, none⟩) n cap) n xs ∧ ∀ t, t < j → xs[t]? = some (.int .i64 (k + t : Nat))) {a : Int} (ha : a = (k + j : Nat)) :
    ∃ u, wr.cell? ⟨g, j, none⟩ = some u ∧ wr.frozen? ⟨g, j, none⟩ = false ∧
      Hid (w.grownBy (wr.setCell ⟨g, j, none⟩ (.int .i64 a)) (some g) ∧ ∃ xs, (wr.setCell ⟨g, j, none⟩ (.int .i64 a)).ownsRow base 2 1 (.slice (some ⟨g, 0, none⟩) n cap) n xs ∧ ∀ t, t < j + 1 → xs[t]? = some (.int .i64 (k + t : Nat))) := by
  subst ha
  obtain ⟨xs, ho, hxs⟩ := hx
  have hxl := ho.1
  obtain ⟨r1, r2⟩ := ho.stored j (.int .i64 (k + j : Nat))
  refine ⟨_, (ho.cellAt j (by omega)).trans (List.getElem?_eq_getElem (by omega)), ho.frozenAt j, ?_, _, r1, fun t ht => ?_⟩
  · exact ⟨r2.os.trans hg.os, r2.tape.trans hg.tape, r2.output.trans hg.output, Nat.le_trans hg.size r2.size,
      fun b hbl hne => (r2.block b (Nat.lt_of_lt_of_le hbl hg.size) hne).trans (hg.block b hbl hne)⟩
  · by_cases e : j = t
    · subst e; rw [List.getElem?_set_self (by omega)]
    · rw [List.getElem?_set_ne e, hxs t (by omega)]

end Go.Proofs.YtohhdeecdikopaaGreatDoor

namespace Go.Proofs.YtohhdeecdikopaaGreatDoor
open Go.RowKit Go.Maps Go.WideMaps

section
variable {w w2 W v : World} {b B : Nat} {c0 c1 c2 : Value} {t : TypeId}
theorem cells3 (h : v.heap[b]? = some (.cells #[c0, c1, c2] t (0, 0))) : v.cell? ⟨b, 0, none⟩ = some c0 ∧ v.cell? ⟨b, 1, none⟩ = some c1 ∧ v.cell? ⟨b, 2, none⟩ = some c2 :=
  ⟨by unfold World.cell?; rw [h]; rfl, by unfold World.cell?; rw [h]; rfl, by unfold World.cell?; rw [h]; rfl⟩
theorem res3 (h : w.heap[b]? = some (.cells #[c0, c1, c2] t (0, 0))) (hb : Below B w w2) (hB : b < B) :
    (w2.cell? ⟨b, 0, none⟩ = some c0 ∧ w2.cell? ⟨b, 1, none⟩ = some c1 ∧ w2.cell? ⟨b, 2, none⟩ = some c2) ∧ (w2.frozen? ⟨b, 0, none⟩ = false ∧ w2.frozen? ⟨b, 1, none⟩ = false ∧ w2.frozen? ⟨b, 2, none⟩ = false) ∧ Hid (w2.heap[b]? = some (.cells #[c0, c1, c2] t (0, 0))) := by
  have h2 := (hb.block b hB).trans h
  exact ⟨cells3 h2, ⟨Joins.unfrozen_of_block h2 0, Joins.unfrozen_of_block h2 1, Joins.unfrozen_of_block h2 2⟩, h2⟩
end

set_option maxHeartbeats 400000 in
theorem eqRu_any (a b : Option Addr) (n c1 c2 : Nat) (l : List Int) (x y : Int) (w : World) (hl : n ≤ 1048576) (ha : IAt w a n l) (hb : IAt w b n l) :
    Calls Tryz.prog 72 #[.agg #[.slice a n c1, .int .i64 x, .int .i64 y], .agg #[.slice b n c2, .int .i64 x, .int .i64 y]] w fun e w' => e = .returned (.bool true) ∧ Below w.heap.size w w' := by
  have hbx : Below w.heap.size w ((w.alloc (.cells #[.slice a n c1, .int .i64 x, .int .i64 y] 45)).alloc (.cells #[.slice b n c2, .int .i64 x, .int .i64 y] 45)) := below_box2 _ _
  have hS := eqI_any a b n c1 c2 l _ hl (ha.below hbx (Nat.le_refl _)) (hb.below hbx (Nat.le_refl _))
  have t0 := block_at2 (w := w) (o := .cells #[.slice a n c1, .int .i64 x, .int .i64 y] 45) (o' := .cells #[.slice b n c2, .int .i64 x, .int .i64 y] 45)
  have t1 := heap_alloc_at (w.alloc (.cells #[.slice a n c1, .int .i64 x, .int .i64 y] 45)) (.cells #[.slice b n c2, .int .i64 x, .int .i64 y] 45) (w.heap.size + 1) (by simp)
  have HBX : Hid (Below w.heap.size w ((w.alloc (.cells #[.slice a n c1, .int .i64 x, .int .i64 y] 45)).alloc (.cells #[.slice b n c2, .int .i64 x, .int .i64 y] 45))) := hbx
  have T0 : Hid _ := t0
  have T1 : Hid _ := t1
  clear hbx ha hb t0 t1
  go_enter Tryz.func72, Tryz.ntmps72
  go_wp2_with (first
    | (go_at_call 95; refine hS.mono ?_; rintro e w2 ⟨rfl, hb2⟩; obtain ⟨⟨p0, p1, p2⟩, _, HP⟩ := res3 T0.out hb2 (by simp; omega); obtain ⟨⟨q0, q1, q2⟩, _, HQ⟩ := res3 T1.out hb2 (by simp); have HBW : Hid (Below w.heap.size w w2) := HBX.out.trans (hb2.mono (by simp; omega)); clear hb2))
  go_ret
  exact ⟨rfl, HBW.out⟩

end Go.Proofs.YtohhdeecdikopaaGreatDoor

namespace Go.Proofs.YtohhdeecdikopaaGreatDoor
open Go.RowKit Go.Shelf Go.Maps Go.WideMaps
attribute [local go_sem] Oper.semAt_some

theorem take_more {α : Type} {zs : List α} {k : Nat} {x : α} (h : zs[k]? = some x) : zs.take (k + 1) = zs.take k ++ [x] := by rw [List.take_add_one, h]; rfl

set_option maxRecDepth 100000 in
set_option maxHeartbeats 2000000 in
/-- The keys come one by one, in their order; the round is asked to keep what lay ahead. -/
theorem each1_in {α : Type} (enc : α → Int) (F : Fence) (n : Nat) (hf : F.fn 126) (hro : F.round = none) (hn : 1 ≤ n) (lp Bs len cap : Nat) (a : Option Addr) (zs : List α) (w0 : World) (hlen : len ≤ 1048576) (hI : IAt w0 a len (zs.map enc)) (J Jx : List α → World → Prop)
    (hY : ∀ pre x W, J pre W → pre.length < len → YieldAt F (n - 1) Tryz.prog lp #[.int .i64 (enc x)] W fun e W' =>
      (e = .returned (.bool true) ∧ J (pre ++ [x]) W' ∧ Below w0.heap.size W W') ∨ (e = .returned (.bool false) ∧ Jx (pre ++ [x]) W'))
    (W : World) (hB : Below w0.heap.size w0 W) (hBs : W.cell? ⟨Bs, 0, none⟩ = some (.slice a len cap)) (h0 : J [] W) :
    CallsIn F n Tryz.prog 126 #[.func (.yield lp) #[] #[], .pointer (some ⟨Bs, 0, none⟩)] W fun e W' => (∃ v, e = .returned v) ∧
      ((∃ ys, ys = zs ∧ J ys W') ∨ (∃ pre, pre <+: zs ∧ Jx pre W')) := by
  have HI : Hid (IAt w0 a len (zs.map enc)) := hI
  have hzl : zs.length = len := by have := hI.1; simpa using this
  have HZ : Hid (zs.length = len) := hzl
  have HY : Hid (∀ pre x W, J pre W → pre.length < len → YieldAt F (n - 1) Tryz.prog lp #[.int .i64 (enc x)] W fun e W' =>
      (e = .returned (.bool true) ∧ J (pre ++ [x]) W' ∧ Below w0.heap.size W W') ∨ (e = .returned (.bool false) ∧ Jx (pre ++ [x]) W')) := hY
  clear hI hY hzl
  refine callsIn_of_wp Tryz.func126 rfl hf ?_ hro
  simp only [Tryz.ntmps126, List.size_toArray, List.length_cons, List.length_nil, Nat.reduceAdd, Nat.reduceSub, Array.replicate_succ, Array.replicate_zero, List.push_toArray, List.append_toArray, List.nil_append, List.cons_append]
  gi_wp2
  gi_loopw [8] (fun i wr => ∃ k : Nat, k ≤ len ∧ i = .int .i64 k ∧ J (zs.take k) wr ∧ Below w0.heap.size w0 wr)
    (fun i _ => len - (intOf i).toNat)
  case atStart => exact ⟨0, Nat.zero_le _, rfl, by simpa using h0, hB⟩
  case round =>
    obtain ⟨k, hk, rfl, hJs, hnx⟩ := hrel
    by_cases hlt : k < len
    · rcases HI.out.2 with h00 | ⟨b, off, ha, hb, hc⟩
      · omega
      subst ha
      obtain ⟨x, hx⟩ : ∃ x, zs[k]? = some x := ⟨_, List.getElem?_eq_getElem (by rw [HZ.out]; exact hlt)⟩
      have hcx : wr.cell? ⟨b, off + k, none⟩ = some (.int .i64 (enc x)) := by
        rw [(hnx.cell (p := ⟨b, off + k, none⟩) hb).trans (hc k hlt)]
        simp [List.getD, hx]
      obtain ⟨fn, tmps, assign, body, hy, hR⟩ := HY.out _ x wr hJs (by rw [List.length_take, HZ.out]; omega)
      have hki : (k : Int) < (len : Int) := by omega
      clear hc
      gi_wp2
      refine hR.mono ?_
      rintro e W3 (⟨rfl, hJ3, hk3⟩ | ⟨rfl, hJx3⟩)
      · gi_wp2
        go_roundw
        case rel => exact ⟨k + 1, by omega, by go_num, by rw [take_more hx]; exact hJ3, hnx.trans hk3⟩
        case measure => simp [intOf]; omega
      · gi_wp2
        refine bodyPost_ret (results_none rfl _ _ _) rfl ?_
        exact ⟨⟨_, rfl⟩, .inr ⟨_, by rw [← take_more hx]; exact List.take_prefix _ _, hJx3⟩⟩
    · obtain rfl : k = len := by omega
      gi_wp2
      go_end0
      exact ⟨⟨_, rfl⟩, .inl ⟨_, List.take_of_length_le (by rw [HZ.out]; exact Nat.le_refl _), hJs⟩⟩

/-- The iterator's contract. -/
theorem each_stops {α : Type} (enc : α → Int) (F : Fence) (n : Nat) (hf : F.fn 126) (hro : F.round = none) (hn : 1 ≤ n) (Bs len cap : Nat) (a : Option Addr) (zs : List α) (w0 w : World) (hlen : len ≤ 1048576) (hI : IAt w0 a len (zs.map enc)) (hB : Below w0.heap.size w0 w) (hBl : Bs < w.heap.size) (hBs : w.cell? ⟨Bs, 0, none⟩ = some (.slice a len cap)) :
    SeqStopsK F n Tryz.prog 126 #[.pointer (some ⟨Bs, 0, none⟩)] (fun x : α => #[Value.int .i64 (enc x)]) (Below w0.heap.size) (fun ys => ys = zs) (fun pre => pre <+: zs) len w := fun l J Jx W hW _ _ hY h0 =>
  each1_in enc F n hf hro hn l Bs len cap a zs w0 hlen hI J Jx hY W (hB.trans (hW.mono hB.size)) ((hW.cell (p := ⟨Bs, 0, none⟩) hBl).trans hBs) h0

theorem eachKey_any (a : Option Addr) (n cap : Nat) (x y : Int) (w : World) :
    Calls Tryz.prog 104 #[.agg #[.slice a n cap, .int .i64 x, .int .i64 y]] w fun e w' => e = .returned (.func (.func 126) #[] #[.pointer (some ⟨w.heap.size, 0, none⟩)]) ∧ w' = w.alloc (.cells #[.slice a n cap, .int .i64 x, .int .i64 y] 45) := by
  have hmf : ∀ (fn : Fn) (first cap : Array Value) (w : World), (Instr.makeFunc fn first cap).run Tryz.prog w = .ok (.func fn first cap) w := fun _ _ _ _ => rfl
  go_enter Tryz.func104, Tryz.ntmps104
  go_wp2
  go_ret
  exact ⟨rfl, rfl⟩

end Go.Proofs.YtohhdeecdikopaaGreatDoor

namespace Go.Proofs.YtohhdeecdikopaaGreatDoor
open Go.RowKit Go.Shelf Go.Maps Go.WideMaps
attribute [local go_sem] Oper.semAt_some

theorem new1 (W : World) (v : Value) (t : TypeId) : (W.alloc (.cells #[v] t)).cell? ⟨W.heap.size, 0, none⟩ = some v ∧ (W.alloc (.cells #[v] t)).frozen? ⟨W.heap.size, 0, none⟩ = false :=
  ⟨by unfold World.cell?; rw [heap_alloc_new]; rfl, Joins.unfrozen_of_block (heap_alloc_new _ _) 0⟩
theorem kept1 {W : World} {a : Addr} {v : Value} (o : Obj) (h : W.cell? a = some v) : (W.alloc o).cell? a = some v := cell_kept h (World.grownBy_alloc W o none) (fun r e => by cases e)
theorem kept1f {W : World} {a : Addr} {v : Value} (o : Obj) (h : W.cell? a = some v) (hf : W.frozen? a = false) : (W.alloc o).frozen? a = false := (frozen_kept h (World.grownBy_alloc W o none) (fun r e => by cases e)).trans hf

def allK (l : List Int) : Bool := l.all fun k => inB k 1 999
theorem allK_snoc {pre : List Int} {x : Int} (h : allK pre = true) (hx : inB x 1 999 = true) : allK (pre ++ [x]) = true := by simp [allK] at *; exact ⟨h, hx⟩
theorem allK_bad {pre : List Int} {x : Int} (hx : inB x 1 999 = false) : allK (pre ++ [x]) = false := by simp [allK, hx]
theorem allK_pre {pre l : List Int} (h : pre <+: l) (hb : allK pre = false) : allK l = false := by
  obtain ⟨t, rfl⟩ := h
  unfold allK at *
  rw [List.all_append, hb]; rfl

def riseB : Int → List Int → Bool
  | _, [] => true
  | p, k :: t => decide (p < k) && riseB k t
def lastK : Int → List Int → Int
  | p, [] => p
  | _, k :: t => lastK k t
theorem lastK_snoc (p : Int) (l : List Int) (x : Int) : lastK p (l ++ [x]) = x := by
  induction l generalizing p with
  | nil => rfl
  | cons k t ih => exact ih k
theorem riseB_snoc (p : Int) (l : List Int) (x : Int) : riseB p (l ++ [x]) = (riseB p l && decide (lastK p l < x)) := by
  induction l generalizing p with
  | nil => simp only [List.nil_append, riseB, lastK, Bool.and_true, Bool.true_and]; rfl
  | cons k t ih => simp only [List.cons_append, riseB, lastK, ih, Bool.and_assoc]; rfl
theorem riseB_pre {pre l : List Int} (h : pre <+: l) {p : Int} (hb : riseB p pre = false) : riseB p l = false := by
  obtain ⟨t, rfl⟩ := h
  induction pre generalizing p with
  | nil => cases hb
  | cons k r ih =>
    simp only [List.cons_append, riseB] at *
    cases hd : decide (p < k)
    · rfl
    · rw [hd, Bool.true_and] at hb
      rw [Bool.true_and]
      exact ih hb

set_option maxRecDepth 100000 in
set_option maxHeartbeats 2000000 in
theorem areKeys_any (Bs len cap : Nat) (a : Option Addr) (l : List Int) (w0 w : World) (hlen : len ≤ 1048576) (hI : IAt w0 a len l) (hB : Below w0.heap.size w0 w) (hBl : Bs < w.heap.size) (hBs : w.cell? ⟨Bs, 0, none⟩ = some (.slice a len cap)) :
    Calls Tryz.prog 112 #[.func (.func 126) #[] #[.pointer (some ⟨Bs, 0, none⟩)]] w fun e w' => e = .returned (.bool (allK l)) ∧ Below w.heap.size w w' := by
  obtain ⟨r, hr⟩ : ∃ r, r = allK l := ⟨_, rfl⟩
  rw [← hr]
  refine (callsIn_wide (n := 3)).1 ?_
  refine callsIn_of_wp_marks Tryz.func112 rfl trivial ?_ rfl
  simp only [Tryz.ntmps112, List.size_toArray, List.length_cons, List.length_nil, Nat.reduceAdd, Nat.reduceSub, Array.replicate_succ, Array.replicate_zero, List.push_toArray, List.append_toArray, List.nil_append, List.cons_append]
  gi_wp2
  have c0 := new1 w (.bool false) 4
  have hB0 : Below w.heap.size w (w.alloc (.cells #[.bool false] 4)) := below_box _
  have hsz := hB.size
  refine wpIn_rangeFunc_ownF rfl (by omega) (gf := 126) (lb := #[.pointer (some ⟨Bs, 0, none⟩)]) rfl trivial (enters_of Tryz.func126 (by kernel_rfl) rfl)
    (each_stops (fun x : Int => x) Fence.wide (3 - 1) trivial rfl (by omega) Bs len cap a l w0 _ hlen (by simpa using hI) (hB.trans (hB0.mono hsz)) (by simp; omega) ((hB0.cell (p := ⟨Bs, 0, none⟩) hBl).trans hBs)) belowK_t (belowK_b (by simp; omega)) (Below.refl _ _) (fun _ => rfl)
    (fun pre W => (allK pre = true ∧ W.cell? ⟨w.heap.size, 0, none⟩ = some (.bool false) ∧ W.frozen? ⟨w.heap.size, 0, none⟩ = false) ∧ Below w.heap.size w W)
    (fun c pre W => (c = .ret ∧ allK pre = false ∧ W.cell? ⟨w.heap.size, 0, none⟩ = some (.bool false)) ∧ Below w.heap.size w W)
    (OwnFrom.and (Own.from (fun s A B row hs hg hr => ⟨hs.1, cell_kept hs.2.1 hg hr, (frozen_kept hs.2.1 hg hr).trans hs.2.2⟩) _) (ownFrom_below (Nat.le_refl _) (by simp)))
    (fun c => OwnFrom.and (Own.from (fun s A B row hs hg hr => ⟨hs.1, hs.2.1, cell_kept hs.2.2 hg hr⟩) _) (ownFrom_below (Nat.le_refl _) (by simp)))
    ⟨⟨rfl, c0.1, c0.2⟩, hB0⟩
    (fun x => { tmps := #[.func (.func 126) #[] #[.pointer (some ⟨Bs, 0, none⟩)], undef, .pointer (some ⟨w.heap.size, 0, none⟩), .int .i64 x, .func (.func 126) #[] #[.pointer (some ⟨Bs, 0, none⟩)], .int .i64 x, undef, undef, undef], defers := [] }) ?assign ?body ?done ?stop
  case assign =>
    intro l x W K hK
    gi_wp2
    exact hK
  case body =>
    rintro l pre x W ⟨⟨hp, hcr, hfr⟩, hBB⟩ _
    obtain ⟨kb, hkb⟩ : ∃ kb, kb = inB x 1 999 := ⟨_, rfl⟩
    have hkey : ∀ v, Calls Tryz.prog 86 #[.int .i64 x] v fun e w' => e = .returned (.bool kb) ∧ w' = v := fun v => by rw [hkb]; exact isKey_any x v
    have HKB : Hid (kb = inB x 1 999) := hkb
    clear hkb
    cases kb
    · gi_wp2_with (refine ⟨trivial, ?_⟩; gi_at_call 86; refine (CallsIn.inRound l (callsIn_wide.2 (hkey _))).mono ?_; rintro e w' ⟨rfl, hw⟩; have hw2 := hw.symm; subst hw2)
      exact ⟨KeepsOthers.setCell _ _ _, ⟨rfl, allK_bad HKB.out.symm, World.cell?_setCell_same' _ _ _ (by rw [hcr]; rfl)⟩, hBB.setCell (p := ⟨w.heap.size, 0, none⟩) (Nat.le_refl _) _⟩
    · gi_wp2_with (refine ⟨trivial, ?_⟩; gi_at_call 86; refine (CallsIn.inRound l (callsIn_wide.2 (hkey _))).mono ?_; rintro e w' ⟨rfl, hw⟩; have hw2 := hw.symm; subst hw2)
      exact ⟨KeepsOthers.refl _, Below.refl _ _, ⟨allK_snoc hp HKB.out.symm, hcr, hfr⟩, hBB⟩
  case done =>
    rintro D ys W hD rfl ⟨⟨hne, hcr, hfr⟩, hBB⟩ hK
    gi_wp2
    have hK' := (KeepsOthers.setCell W ⟨w.heap.size, 0, none⟩ (.bool true)).same D _ hK rfl
    refine ⟨by simp, .inl ⟨_, _, rfl, run_takeDeferred hK', ?_⟩⟩
    have hc5 := cell_kept (World.cell?_setCell_same' W ⟨w.heap.size, 0, none⟩ (.bool true) (by rw [hcr]; rfl)) (grownBy_putObj' _ D (.deferred none)) (fun r e => by cases e; exact ⟨_, hK', rfl⟩)
    refine ⟨.bool true, ?_, by rw [hr, hne], (hBB.setCell (p := ⟨w.heap.size, 0, none⟩) (Nat.le_refl _) _).trans (belowK_b (w := w) (Nat.le_refl _) _ D _ _ (by simp at hD; omega) hK' rfl rfl)⟩
    simp [results, Tryz.results112, go_sem, hc5]
  case stop =>
    rintro D c pre W hD hpre ⟨⟨rfl, hin, hcr⟩, hBB⟩ hK
    gi_wp2
    refine ⟨by simp, .inl ⟨_, _, rfl, run_takeDeferred hK, ?_⟩⟩
    have hc5 := cell_kept hcr (grownBy_putObj' _ D (.deferred none)) (fun r e => by cases e; exact ⟨_, hK, rfl⟩)
    refine ⟨.bool false, ?_, by rw [hr, allK_pre hpre hin], hBB.trans (belowK_b (w := w) (Nat.le_refl _) W D _ _ (by simp at hD; omega) hK rfl rfl)⟩
    simp [results, Tryz.results112, go_sem, hc5]

set_option maxRecDepth 100000 in
set_option maxHeartbeats 2000000 in
theorem keysRise_any (Bs len cap : Nat) (a : Option Addr) (l : List Int) (w0 w : World) (hlen : len ≤ 1048576) (hI : IAt w0 a len l) (hB : Below w0.heap.size w0 w) (hBl : Bs < w.heap.size) (hBs : w.cell? ⟨Bs, 0, none⟩ = some (.slice a len cap)) :
    Calls Tryz.prog 114 #[.func (.func 126) #[] #[.pointer (some ⟨Bs, 0, none⟩)]] w fun e w' => e = .returned (.bool (riseB 0 l)) ∧ Below w.heap.size w w' := by
  obtain ⟨r, hr⟩ : ∃ r, r = riseB 0 l := ⟨_, rfl⟩
  rw [← hr]
  refine (callsIn_wide (n := 3)).1 ?_
  refine callsIn_of_wp_marks Tryz.func114 rfl trivial ?_ rfl
  simp only [Tryz.ntmps114, List.size_toArray, List.length_cons, List.length_nil, Nat.reduceAdd, Nat.reduceSub, Array.replicate_succ, Array.replicate_zero, List.push_toArray, List.append_toArray, List.nil_append, List.cons_append]
  gi_wp2
  have c0 := new1 w (.bool false) 4
  have c1 := new1 (w.alloc (.cells #[.bool false] 4)) (.int .i64 0) 2
  simp only [World.size_alloc] at c1
  have hB0 : Below w.heap.size w ((w.alloc (.cells #[.bool false] 4)).alloc (.cells #[.int .i64 0] 2)) := below_box2 _ _
  have hsz := hB.size
  refine wpIn_rangeFunc_ownF rfl (by omega) (gf := 126) (lb := #[.pointer (some ⟨Bs, 0, none⟩)]) rfl trivial (enters_of Tryz.func126 (by kernel_rfl) rfl)
    (each_stops (fun x : Int => x) Fence.wide (3 - 1) trivial rfl (by omega) Bs len cap a l w0 _ hlen (by simpa using hI) (hB.trans (hB0.mono hsz)) (by simp; omega) ((hB0.cell (p := ⟨Bs, 0, none⟩) hBl).trans hBs)) belowK_t (belowK_b (by simp; omega)) (Below.refl _ _) (fun _ => rfl)
    (fun pre W => (riseB 0 pre = true ∧ (W.cell? ⟨w.heap.size, 0, none⟩ = some (.bool false) ∧ W.frozen? ⟨w.heap.size, 0, none⟩ = false) ∧ W.cell? ⟨w.heap.size + 1, 0, none⟩ = some (.int .i64 (lastK 0 pre)) ∧ W.frozen? ⟨w.heap.size + 1, 0, none⟩ = false) ∧ Below w.heap.size w W)
    (fun c pre W => (c = .ret ∧ riseB 0 pre = false ∧ W.cell? ⟨w.heap.size, 0, none⟩ = some (.bool false)) ∧ Below w.heap.size w W)
    (OwnFrom.and (Own.from (fun s A B row hs hg hr => ⟨hs.1, ⟨cell_kept hs.2.1.1 hg hr, (frozen_kept hs.2.1.1 hg hr).trans hs.2.1.2⟩, cell_kept hs.2.2.1 hg hr, (frozen_kept hs.2.2.1 hg hr).trans hs.2.2.2⟩) _) (ownFrom_below (Nat.le_refl _) (by simp; omega)))
    (fun c => OwnFrom.and (Own.from (fun s A B row hs hg hr => ⟨hs.1, hs.2.1, cell_kept hs.2.2 hg hr⟩) _) (ownFrom_below (Nat.le_refl _) (by simp; omega)))
    ⟨⟨rfl, ⟨kept1 _ c0.1, kept1f _ c0.1 c0.2⟩, c1.1, c1.2⟩, hB0⟩
    (fun x => { tmps := #[.func (.func 126) #[] #[.pointer (some ⟨Bs, 0, none⟩)], undef, .pointer (some ⟨w.heap.size, 0, none⟩), .pointer (some ⟨w.heap.size + 1, 0, none⟩), .int .i64 x, .func (.func 126) #[] #[.pointer (some ⟨Bs, 0, none⟩)], .int .i64 x, undef, undef, undef, undef], defers := [] }) ?assign ?body ?done ?stop
  case assign =>
    intro l x W K hK
    gi_wp2
    exact hK
  case body =>
    rintro l pre x W ⟨⟨hp, ⟨hcr, hfr⟩, hcl, hfl⟩, hBB⟩ _
    obtain ⟨q, hq⟩ : ∃ q, q = lastK 0 pre := ⟨_, rfl⟩
    rw [← hq] at hcl
    by_cases hx : x ≤ q
    · gi_wp2
      exact ⟨KeepsOthers.setCell _ _ _, ⟨rfl, by rw [riseB_snoc, ← hq, decide_eq_false (by omega), Bool.and_false], World.cell?_setCell_same' _ _ _ (by rw [hcr]; rfl)⟩, hBB.setCell (p := ⟨w.heap.size, 0, none⟩) (Nat.le_refl _) _⟩
    · gi_wp2
      exact ⟨KeepsOthers.setCell _ _ _, (Below.refl _ _).setCell (p := ⟨w.heap.size + 1, 0, none⟩) (show _ ≤ w.heap.size + 1 by omega) _, ⟨by rw [riseB_snoc, ← hq, hp, decide_eq_true (by omega)]; rfl, ⟨(World.cell?_of_block (Below.heap_setCell _ ⟨w.heap.size + 1, 0, none⟩ _ w.heap.size (show w.heap.size ≠ w.heap.size + 1 by omega))).trans hcr, by rw [World.frozen?_setCell]; exact hfr⟩, by rw [lastK_snoc]; exact World.cell?_setCell_same' _ _ _ (by rw [hcl]; rfl), by rw [World.frozen?_setCell]; exact hfl⟩, hBB.setCell (p := ⟨w.heap.size + 1, 0, none⟩) (show _ ≤ w.heap.size + 1 by omega) _⟩
  case done =>
    rintro D ys W hD rfl ⟨⟨hne, ⟨hcr, hfr⟩, _⟩, hBB⟩ hK
    gi_wp2
    have hK' := (KeepsOthers.setCell W ⟨w.heap.size, 0, none⟩ (.bool true)).same D _ hK rfl
    refine ⟨by simp, .inl ⟨_, _, rfl, run_takeDeferred hK', ?_⟩⟩
    have hc5 := cell_kept (World.cell?_setCell_same' W ⟨w.heap.size, 0, none⟩ (.bool true) (by rw [hcr]; rfl)) (grownBy_putObj' _ D (.deferred none)) (fun r e => by cases e; exact ⟨_, hK', rfl⟩)
    refine ⟨.bool true, ?_, by rw [hr, hne], (hBB.setCell (p := ⟨w.heap.size, 0, none⟩) (Nat.le_refl _) _).trans (belowK_b (w := w) (Nat.le_refl _) _ D _ _ (by simp at hD; omega) hK' rfl rfl)⟩
    simp [results, Tryz.results114, go_sem, hc5]
  case stop =>
    rintro D c pre W hD hpre ⟨⟨rfl, hin, hcr⟩, hBB⟩ hK
    gi_wp2
    refine ⟨by simp, .inl ⟨_, _, rfl, run_takeDeferred hK, ?_⟩⟩
    have hc5 := cell_kept hcr (grownBy_putObj' _ D (.deferred none)) (fun r e => by cases e; exact ⟨_, hK, rfl⟩)
    refine ⟨.bool false, ?_, by rw [hr, riseB_pre hpre hin], hBB.trans (belowK_b (w := w) (Nat.le_refl _) W D _ _ (by simp at hD; omega) hK rfl rfl)⟩
    simp [results, Tryz.results114, go_sem, hc5]

end Go.Proofs.YtohhdeecdikopaaGreatDoor

namespace Go.Proofs.YtohhdeecdikopaaGreatDoor
open Go.RowKit Go.Shelf Go.Maps Go.WideMaps

def ruleR (l : List Int) (x y : Int) : Int :=
  if inB l.length 1 3 = false then 2 else if allK l = false ∨ inB x 1 l.length = false ∨ inB y 0 999 = false then 3 else if riseB 0 l = false then 1 else 0

section
variable {l : List Int} {x y : Int} {n : Nat}
theorem ruleR_many (hn : l.length = n) (h : inB n 1 3 = false) : ruleR l x y = 2 := by unfold ruleR; rw [hn, if_pos h]
theorem ruleR_range (hn : l.length = n) (h : inB n 1 3 = true) (h2 : allK l = false ∨ inB x 1 n = false ∨ inB y 0 999 = false) : ruleR l x y = 3 := by unfold ruleR; rw [hn, if_neg (by simp [h]), if_pos h2]
theorem ruleR_form (hn : l.length = n) (h : inB n 1 3 = true) (h1 : allK l = true) (h2 : inB x 1 n = true) (h3 : inB y 0 999 = true) (h4 : riseB 0 l = false) : ruleR l x y = 1 := by unfold ruleR; rw [hn, if_neg (by simp [h]), if_neg (by simp [h1, h2, h3]), if_pos h4]
theorem ruleR_ok (hn : l.length = n) (h : inB n 1 3 = true) (h1 : allK l = true) (h2 : inB x 1 n = true) (h3 : inB y 0 999 = true) (h4 : riseB 0 l = true) : ruleR l x y = 0 := by unfold ruleR; rw [hn, if_neg (by simp [h]), if_neg (by simp [h1, h2, h3]), if_neg (by simp [h4])]
end

theorem take_next {l : List Int} {n k : Nat} (hn : l.length = n) (hlt : k < n) {s : Int} (hs : s = l.getD k 0) : l.take (k + 1) = l.take k ++ [s] :=
  take_more (by rw [hs]; simp [List.getD, show k < l.length by omega])
theorem take_all {l : List Int} {n k : Nat} (hn : l.length = n) (h : ¬ k < n) : l.take k = l := List.take_of_length_le (by omega)
theorem lastK_take {l : List Int} {n k : Nat} (hn : l.length = n) (hk : k < n) {s : Int} (hs : s = l.getD k 0) : lastK 0 (l.take (k + 1)) = s := by rw [take_next hn hk hs, lastK_snoc]
theorem riseB_one {l : List Int} {n : Nat} (hn : l.length = n) (h : inB n 1 3 = true) (ha : allK l = true) : riseB 0 (l.take 1) = true := by
  have := inB_true.1 h
  match l, hn with
  | [], hn => simp at hn; omega
  | k :: t, _ =>
    simp [allK] at ha
    have := inB_true.1 ha.1
    simp [riseB]
    omega

theorem l2Height_any (v : Int) (w : World) : Calls Tryz.prog 53 #[.int .i64 v] w fun e w' => e = .returned (.bool (inB v 0 999)) ∧ w' = w := by
  go_enter Tryz.func53, Tryz.ntmps53
  go_wp2_with (go_at_call 32; refine (l1In_any _ _ _ _).mono ?_; rintro e w' ⟨rfl, hw⟩; have hw2 := hw.symm; subst hw2)
  go_ret
  exact ⟨rfl, rfl⟩
theorem isHeight_any (v : Int) (w : World) : Calls Tryz.prog 113 #[.int .i64 v] w fun e w' => e = .returned (.bool (inB v 0 999)) ∧ w' = w := by
  go_enter Tryz.func113, Tryz.ntmps113
  go_wp2_with (go_at_call 87; refine (isWithin_any _ _ _ _).mono ?_; rintro e w' ⟨rfl, hw⟩; have hw2 := hw.symm; subst hw2)
  go_ret
  exact ⟨rfl, rfl⟩

set_option maxRecDepth 20000 in
set_option maxHeartbeats 2000000 in
theorem l2Fault_any (P n cap : Nat) (a : Option Addr) (l : List Int) (x y : Int) (w : World) (hl : n ≤ 1048576) (hI : IAt w a n l) (hP : w.heap[P]? = some (.cells #[.slice a n cap, .int .i64 x, .int .i64 y] 45 (0, 0))) :
    Calls Tryz.prog 31 #[.pointer (some ⟨P, 0, none⟩)] w fun e w' => e = .returned (.int .i64 (ruleR l x y)) ∧ Below w.heap.size w w' := by
  have HI : Hid (IAt w a n l) := hI
  have HN : Hid (l.length = n) := hI.1
  obtain ⟨p0, p1, p2⟩ := cells3 hP
  have hPl := lt_of_block hP
  obtain ⟨b1, hb1⟩ : ∃ b, b = inB n 1 3 := ⟨_, rfl⟩
  obtain ⟨kb, hkb⟩ : ∃ b, b = inB x 1 n := ⟨_, rfl⟩
  obtain ⟨kc, hkc⟩ : ∃ b, b = inB y 0 999 := ⟨_, rfl⟩
  have hW1 : ∀ v, Calls Tryz.prog 32 #[.int .i64 n, .int .i64 1, .int .i64 3] v fun e w' => e = .returned (.bool b1) ∧ w' = v := fun v => by rw [hb1]; exact l1In_any _ _ _ v
  have hW2 : ∀ v, Calls Tryz.prog 32 #[.int .i64 x, .int .i64 1, .int .i64 n] v fun e w' => e = .returned (.bool kb) ∧ w' = v := fun v => by rw [hkb]; exact l1In_any _ _ _ v
  have hW3 : ∀ v, Calls Tryz.prog 53 #[.int .i64 y] v fun e w' => e = .returned (.bool kc) ∧ w' = v := fun v => by rw [hkc]; exact l2Height_any _ v
  have HB1 : Hid (b1 = inB n 1 3) := hb1
  have HKB : Hid (kb = inB x 1 n) := hkb
  have HKC : Hid (kc = inB y 0 999) := hkc
  obtain ⟨r, hr⟩ : ∃ r, r = ruleR l x y := ⟨_, rfl⟩
  rw [← hr]
  have HR : Hid (r = ruleR l x y) := hr
  clear hI hP hb1 hkb hkc hr
  cases b1
  · obtain rfl : r = 2 := by rw [HR.out]; exact ruleR_many HN.out HB1.out.symm
    go_enter Tryz.func31, Tryz.ntmps31
    go_wp2_with (go_at_call 32; refine (hW1 _).mono ?_; rintro e w' ⟨rfl, hw⟩; have hw2 := hw.symm; subst hw2)
    go_ret
    exact ⟨rfl, Below.refl _ _⟩
  · go_enter Tryz.func31, Tryz.ntmps31
    go_wp2_with (go_at_call 32; refine (hW1 _).mono ?_; rintro e w' ⟨rfl, hw⟩; have hw2 := hw.symm; subst hw2)
    go_loop [4] (fun i => ∃ k : Nat, k ≤ n ∧ i = .int .i64 k ∧ Hid (allK (l.take k) = true)) (fun i => n - (intOf i).toNat)
    case atStart => exact ⟨0, Nat.zero_le _, rfl, by show _ = _; simp [allK]⟩
    case round =>
      obtain ⟨k, hk, rfl, HT⟩ := hrel
      by_cases hlt : k < n
      · rcases HI.out.2 with h0 | ⟨b0, o0, e0, l0, d0⟩
        · omega
        subst e0
        obtain ⟨s, hs⟩ : ∃ s, s = l.getD k 0 := ⟨_, rfl⟩
        have x0 := d0 k hlt
        rw [← hs] at x0
        have HS : Hid (s = l.getD k 0) := hs
        obtain ⟨ks, hks⟩ : ∃ b, b = inB s 1 999 := ⟨_, rfl⟩
        have hkey : ∀ v, Calls Tryz.prog 33 #[.int .i64 s] v fun e w' => e = .returned (.bool ks) ∧ w' = v := fun v => by rw [hks]; exact l1Key_any s v
        have HKS : Hid (ks = inB s 1 999) := hks
        clear hs d0 hks
        have hki : (k : Int) < (n : Int) := by omega
        cases ks
        · obtain rfl : r = 3 := by
            rw [HR.out]
            refine ruleR_range HN.out HB1.out.symm (.inl (allK_pre (pre := l.take (k + 1)) (List.take_prefix _ _) ?_))
            rw [take_next HN.out hlt HS.out]; exact allK_bad HKS.out.symm
          go_wp2_with (go_at_call 33; refine (hkey _).mono ?_; rintro e w' ⟨rfl, hw⟩; have hw2 := hw.symm; subst hw2)
          go_ret
          exact ⟨rfl, Below.refl _ _⟩
        · go_wp2_with (go_at_call 33; refine (hkey _).mono ?_; rintro e w' ⟨rfl, hw⟩; have hw2 := hw.symm; subst hw2)
          go_round
          case rel => exact ⟨k + 1, by omega, by go_num, by show _ = _; rw [take_next HN.out hlt HS.out]; exact allK_snoc HT.out HKS.out.symm⟩
          case measure => simp [intOf]; omega
      · have HALL : Hid (allK l = true) := by have := HT.out; rw [take_all HN.out hlt] at this; exact this
        clear HT
        cases kb
        · obtain rfl : r = 3 := by rw [HR.out]; exact ruleR_range HN.out HB1.out.symm (.inr (.inl HKB.out.symm))
          go_wp2_with (go_at_call 32; refine (hW2 _).mono ?_; rintro e w' ⟨rfl, hw⟩; have hw2 := hw.symm; subst hw2)
          go_ret
          exact ⟨rfl, Below.refl _ _⟩
        · cases kc
          · obtain rfl : r = 3 := by rw [HR.out]; exact ruleR_range HN.out HB1.out.symm (.inr (.inr HKC.out.symm))
            go_wp2_with (first | (go_at_call 32; refine (hW2 _).mono ?_; rintro e w' ⟨rfl, hw⟩; have hw2 := hw.symm; subst hw2) | (go_at_call 53; refine (hW3 _).mono ?_; rintro e w' ⟨rfl, hw⟩; have hw2 := hw.symm; subst hw2))
            go_ret
            exact ⟨rfl, Below.refl _ _⟩
          · go_wp2_with (first | (go_at_call 32; refine (hW2 _).mono ?_; rintro e w' ⟨rfl, hw⟩; have hw2 := hw.symm; subst hw2) | (go_at_call 53; refine (hW3 _).mono ?_; rintro e w' ⟨rfl, hw⟩; have hw2 := hw.symm; subst hw2))
            go_loopw [5] (fun i wr => ∃ j : Nat, j + 1 ≤ n ∧ i = .int .i64 ((j : Int) + 1) ∧ Hid (riseB 0 (l.take (j + 1)) = true) ∧ Below w.heap.size w wr) (fun i _ => n - (intOf i).toNat)
            case atStart => exact ⟨0, by have := inB_true.1 HB1.out.symm; omega, by go_num, riseB_one HN.out HB1.out.symm HALL.out, Below.refl _ _⟩
            case round =>
              obtain ⟨j, hj, rfl, HT, hbel⟩ := hrel
              by_cases hlt2 : j + 1 < n
              · rcases HI.out.2 with h0 | ⟨b0, o0, e0, l0, d0⟩
                · omega
                subst e0
                obtain ⟨s, hs⟩ : ∃ s, s = l.getD (j + 1) 0 := ⟨_, rfl⟩
                obtain ⟨t, ht⟩ : ∃ t, t = l.getD j 0 := ⟨_, rfl⟩
                have x0 := (hbel.cell (p := ⟨b0, o0 + (j + 1), none⟩) l0).trans (d0 (j + 1) hlt2)
                have x1 := (hbel.cell (p := ⟨b0, o0 + j, none⟩) l0).trans (d0 j (by omega))
                rw [← hs] at x0
                rw [← ht] at x1
                have HS : Hid (s = l.getD (j + 1) 0) := hs
                have HTT : Hid (t = l.getD j 0) := ht
                clear hs ht d0
                have y0 := (hbel.cell (p := ⟨P, 0, none⟩) hPl).trans p0
                have hki : (j : Int) + 1 < (n : Int) := by omega
                have hkj : (j : Int) < (n : Int) := by omega
                by_cases hst : s ≤ t
                · obtain rfl : r = 1 := by
                    rw [HR.out]
                    refine ruleR_form HN.out HB1.out.symm HALL.out HKB.out.symm HKC.out.symm (riseB_pre (pre := l.take (j + 1 + 1)) (List.take_prefix _ _) ?_)
                    rw [take_next HN.out hlt2 HS.out, riseB_snoc, lastK_take HN.out (by omega) HTT.out, decide_eq_false (by omega), Bool.and_false]
                  go_wp2
                  go_quiet (fail)
                  go_wp2
                  go_ret
                  exact ⟨rfl, hbel.trans (Joins.below_draws _ _ _)⟩
                · go_wp2
                  go_quiet (fail)
                  go_wp2
                  go_roundw
                  case rel => exact ⟨j + 1, by omega, by go_num, by show _ = _; rw [take_next HN.out hlt2 HS.out, riseB_snoc, lastK_take HN.out (by omega) HTT.out, HT.out, decide_eq_true (by omega)]; rfl, hbel.trans (Joins.below_draws _ _ _)⟩
                  case measure => simp [intOf]; omega
              · have y0 := (hbel.cell (p := ⟨P, 0, none⟩) hPl).trans p0
                obtain rfl : r = 0 := by
                  have := HT.out
                  rw [take_all HN.out hlt2] at this
                  rw [HR.out]; exact ruleR_ok HN.out HB1.out.symm HALL.out HKB.out.symm HKC.out.symm this
                have hki : ¬ (j : Int) + 1 < (n : Int) := by omega
                go_wp2
                go_ret
                exact ⟨rfl, hbel⟩

end Go.Proofs.YtohhdeecdikopaaGreatDoor

namespace Go.Proofs.YtohhdeecdikopaaGreatDoor
open Go.RowKit Go.Shelf Go.Maps Go.WideMaps

/-- A rule in a block of its own, all old memory below as it was. -/
structure RBx (w v : World) (a : Option Addr) (n cap : Nat) (x y : Int) (t : TypeId) : Prop where
  box : v.heap[w.heap.size]? = some (.cells #[.slice a n cap, .int .i64 x, .int .i64 y] t (0, 0))
  bel : Below w.heap.size w v
section
variable {w v v' : World} {a : Option Addr} {n cap : Nat} {x y : Int} {t : TypeId} {l : List Int}
theorem RBx.start : RBx w (w.alloc (.cells #[.slice a n cap, .int .i64 x, .int .i64 y] t)) a n cap x y t := ⟨heap_alloc_new _ _, below_box _⟩
theorem RBx.step (h : RBx w v a n cap x y t) (hb : Below v.heap.size v v') : RBx w v' a n cap x y t := ⟨(keepb h.box hb).out, h.bel.trans (hb.mono h.bel.size)⟩
theorem RBx.lt (h : RBx w v a n cap x y t) : w.heap.size < v.heap.size := lt_of_block h.box
end

/-- The iterator over the rule's keys, and what ranges over it, whatever world it is. -/
theorem keys_go {w v : World} {a : Option Addr} {n cap : Nat} {x y : Int} {l : List Int} (h : RBx w v a n cap x y 45) (hl : n ≤ 1048576) (hI : IAt w a n l) :
    Hid (Calls Tryz.prog 112 #[.func (.func 126) #[] #[.pointer (some ⟨v.heap.size, 0, none⟩)]] (v.alloc (.cells #[.slice a n cap, .int .i64 x, .int .i64 y] 45)) fun e w' => e = .returned (.bool (allK l)) ∧ Hid (RBx w w' a n cap x y 45)) ∧
    Hid (Calls Tryz.prog 114 #[.func (.func 126) #[] #[.pointer (some ⟨v.heap.size, 0, none⟩)]] (v.alloc (.cells #[.slice a n cap, .int .i64 x, .int .i64 y] 45)) fun e w' => e = .returned (.bool (riseB 0 l)) ∧ Hid (RBx w w' a n cap x y 45)) := by
  have hb : Below v.heap.size v (v.alloc (.cells #[.slice a n cap, .int .i64 x, .int .i64 y] 45)) := below_box _
  have h2 := h.step hb
  have hc := (cells3 (heap_alloc_new v (.cells #[.slice a n cap, .int .i64 x, .int .i64 y] 45))).1
  exact ⟨(areKeys_any v.heap.size n cap a l w _ hl hI h2.bel (by simp) hc).mono fun e w' ⟨e1, e2⟩ => ⟨e1, h2.step e2⟩, (keysRise_any v.heap.size n cap a l w _ hl hI h2.bel (by simp) hc).mono fun e w' ⟨e1, e2⟩ => ⟨e1, h2.step e2⟩⟩

set_option maxRecDepth 20000 in
set_option maxHeartbeats 2000000 in
theorem iRuleFault_any (n cap : Nat) (a : Option Addr) (l : List Int) (x y : Int) (w : World) (hl : n ≤ 1048576) (hI : IAt w a n l) :
    Calls Tryz.prog 91 #[.agg #[.slice a n cap, .int .i64 x, .int .i64 y]] w fun e w' => e = .returned (.int .i64 (ruleR l x y)) ∧ Below w.heap.size w w' := by
  have HI : Hid (IAt w a n l) := hI
  have HN : Hid (l.length = n) := hI.1
  have B0 : RBx w (w.alloc (.cells #[.slice a n cap, .int .i64 x, .int .i64 y] 45)) a n cap x y 45 := RBx.start
  obtain ⟨HG, _⟩ := keys_go B0 hl hI
  have HB0 : Hid (Below w.heap.size w (w.alloc (.cells #[.slice a n cap, .int .i64 x, .int .i64 y] 45))) := B0.bel
  obtain ⟨b1, hb1⟩ : ∃ b, b = inB n 1 3 := ⟨_, rfl⟩
  obtain ⟨ka, hka⟩ : ∃ b, b = allK l := ⟨_, rfl⟩
  obtain ⟨kr, hkr⟩ : ∃ b, b = riseB 0 l := ⟨_, rfl⟩
  obtain ⟨kb, hkb⟩ : ∃ b, b = inB x 1 n := ⟨_, rfl⟩
  obtain ⟨kc, hkc⟩ : ∃ b, b = inB y 0 999 := ⟨_, rfl⟩
  have hW1 : ∀ v, Calls Tryz.prog 87 #[.int .i64 n, .int .i64 1, .int .i64 3] v fun e w' => e = .returned (.bool b1) ∧ w' = v := fun v => by rw [hb1]; exact isWithin_any _ _ _ v
  have hW2 : ∀ v, Calls Tryz.prog 87 #[.int .i64 x, .int .i64 1, .int .i64 n] v fun e w' => e = .returned (.bool kb) ∧ w' = v := fun v => by rw [hkb]; exact isWithin_any _ _ _ v
  have hW3 : ∀ v, Calls Tryz.prog 113 #[.int .i64 y] v fun e w' => e = .returned (.bool kc) ∧ w' = v := fun v => by rw [hkc]; exact isHeight_any _ v
  have hak := HG.out
  rw [World.size_alloc, ← hka] at hak
  have hrise : ∀ v, RBx w v a n cap x y 45 → Hid (Calls Tryz.prog 114 #[.func (.func 126) #[] #[.pointer (some ⟨v.heap.size, 0, none⟩)]] (v.alloc (.cells #[.slice a n cap, .int .i64 x, .int .i64 y] 45)) fun e w' => e = .returned (.bool kr) ∧ Hid (RBx w w' a n cap x y 45)) := fun v hv => by rw [hkr]; exact (keys_go hv hl HI.out).2
  have HRS : Hid (∀ v, RBx w v a n cap x y 45 → Hid (Calls Tryz.prog 114 #[.func (.func 126) #[] #[.pointer (some ⟨v.heap.size, 0, none⟩)]] (v.alloc (.cells #[.slice a n cap, .int .i64 x, .int .i64 y] 45)) fun e w' => e = .returned (.bool kr) ∧ Hid (RBx w w' a n cap x y 45))) := hrise
  have HB1 : Hid (b1 = inB n 1 3) := hb1
  have HKA : Hid (ka = allK l) := hka
  have HKR : Hid (kr = riseB 0 l) := hkr
  have HKB : Hid (kb = inB x 1 n) := hkb
  have HKC : Hid (kc = inB y 0 999) := hkc
  obtain ⟨r, hr⟩ : ∃ r, r = ruleR l x y := ⟨_, rfl⟩
  rw [← hr]
  have HR : Hid (r = ruleR l x y) := hr
  clear hI hb1 hka hkr hkb hkc hr hrise HG B0
  cases b1
  · obtain rfl : r = 2 := by rw [HR.out]; exact ruleR_many HN.out HB1.out.symm
    go_enter Tryz.func91, Tryz.ntmps91
    go_wp2_with (go_at_call 87; refine (hW1 _).mono ?_; rintro e w' ⟨rfl, hw⟩; have hw2 := hw.symm; subst hw2)
    go_ret
    exact ⟨rfl, HB0.out⟩
  cases ka
  · obtain rfl : r = 3 := by rw [HR.out]; exact ruleR_range HN.out HB1.out.symm (.inl HKA.out.symm)
    go_enter Tryz.func91, Tryz.ntmps91
    go_wp2_with (first
      | (go_at_call 87; refine (hW1 _).mono ?_; rintro e w' ⟨rfl, hw⟩; have hw2 := hw.symm; subst hw2)
      | (go_at_call 104; refine (eachKey_any _ _ _ _ _ _).mono ?_; rintro e w' ⟨rfl, hw⟩; subst hw)
      | (go_at_call 112; refine hak.mono ?_; rintro e w2 ⟨rfl, HB2⟩; obtain ⟨p0, p1, p2⟩ := cells3 HB2.out.box))
    go_ret
    exact ⟨rfl, HB2.out.bel⟩
  cases kb
  · obtain rfl : r = 3 := by rw [HR.out]; exact ruleR_range HN.out HB1.out.symm (.inr (.inl HKB.out.symm))
    go_enter Tryz.func91, Tryz.ntmps91
    go_wp2_with (first
      | (go_at_call 87; (first | (refine (hW1 _).mono ?_; clear hW1) | refine (hW2 _).mono ?_); rintro e w' ⟨rfl, hw⟩; have hw2 := hw.symm; subst hw2)
      | (go_at_call 104; refine (eachKey_any _ _ _ _ _ _).mono ?_; rintro e w' ⟨rfl, hw⟩; subst hw)
      | (go_at_call 112; refine hak.mono ?_; rintro e w2 ⟨rfl, HB2⟩; obtain ⟨p0, p1, p2⟩ := cells3 HB2.out.box))
    go_ret
    exact ⟨rfl, HB2.out.bel⟩
  cases kc
  · obtain rfl : r = 3 := by rw [HR.out]; exact ruleR_range HN.out HB1.out.symm (.inr (.inr HKC.out.symm))
    go_enter Tryz.func91, Tryz.ntmps91
    go_wp2_with (first
      | (go_at_call 87; (first | (refine (hW1 _).mono ?_; clear hW1) | refine (hW2 _).mono ?_); rintro e w' ⟨rfl, hw⟩; have hw2 := hw.symm; subst hw2)
      | (go_at_call 104; refine (eachKey_any _ _ _ _ _ _).mono ?_; rintro e w' ⟨rfl, hw⟩; subst hw)
      | (go_at_call 113; refine (hW3 _).mono ?_; rintro e w' ⟨rfl, hw⟩; have hw2 := hw.symm; subst hw2)
      | (go_at_call 112; refine hak.mono ?_; rintro e w2 ⟨rfl, HB2⟩; obtain ⟨p0, p1, p2⟩ := cells3 HB2.out.box))
    go_ret
    exact ⟨rfl, HB2.out.bel⟩
  cases kr
  · obtain rfl : r = 1 := by rw [HR.out]; exact ruleR_form HN.out HB1.out.symm HKA.out.symm HKB.out.symm HKC.out.symm HKR.out.symm
    go_enter Tryz.func91, Tryz.ntmps91
    go_wp2_with (first
      | (go_at_call 87; (first | (refine (hW1 _).mono ?_; clear hW1) | refine (hW2 _).mono ?_); rintro e w' ⟨rfl, hw⟩; have hw2 := hw.symm; subst hw2)
      | (go_at_call 104; refine (eachKey_any _ _ _ _ _ _).mono ?_; rintro e w' ⟨rfl, hw⟩; subst hw)
      | (go_at_call 113; refine (hW3 _).mono ?_; rintro e w' ⟨rfl, hw⟩; have hw2 := hw.symm; subst hw2)
      | (go_at_call 112; refine hak.mono ?_; rintro e w2 ⟨rfl, HB2⟩; obtain ⟨p0, p1, p2⟩ := cells3 HB2.out.box; have hri := HRS.out _ HB2.out)
      | (go_at_call 114; refine hri.out.mono ?_; rintro e w4 ⟨rfl, HB4⟩))
    go_ret
    exact ⟨rfl, HB4.out.bel⟩
  · obtain rfl : r = 0 := by rw [HR.out]; exact ruleR_ok HN.out HB1.out.symm HKA.out.symm HKB.out.symm HKC.out.symm HKR.out.symm
    go_enter Tryz.func91, Tryz.ntmps91
    go_wp2_with (first
      | (go_at_call 87; (first | (refine (hW1 _).mono ?_; clear hW1) | refine (hW2 _).mono ?_); rintro e w' ⟨rfl, hw⟩; have hw2 := hw.symm; subst hw2)
      | (go_at_call 104; refine (eachKey_any _ _ _ _ _ _).mono ?_; rintro e w' ⟨rfl, hw⟩; subst hw)
      | (go_at_call 113; refine (hW3 _).mono ?_; rintro e w' ⟨rfl, hw⟩; have hw2 := hw.symm; subst hw2)
      | (go_at_call 112; refine hak.mono ?_; rintro e w2 ⟨rfl, HB2⟩; obtain ⟨p0, p1, p2⟩ := cells3 HB2.out.box; have hri := HRS.out _ HB2.out)
      | (go_at_call 114; refine hri.out.mono ?_; rintro e w4 ⟨rfl, HB4⟩))
    go_ret
    exact ⟨rfl, HB4.out.bel⟩

end Go.Proofs.YtohhdeecdikopaaGreatDoor

namespace Go.Proofs.YtohhdeecdikopaaGreatDoor
open Go.RowKit Go.Maps Go.WideMaps
attribute [local go_sem ↓] Go.wp_at_zero Go.wp_at_succ

end Go.Proofs.YtohhdeecdikopaaGreatDoor

namespace Go.Proofs.YtohhdeecdikopaaGreatDoor
open Go.RowKit Go.Maps Go.WideMaps
attribute [local go_sem ↓] Go.wp_at_zero Go.wp_at_succ

end Go.Proofs.YtohhdeecdikopaaGreatDoor

namespace Go.Proofs.YtohhdeecdikopaaGreatDoor
open Go.RowKit Go.Maps Go.WideMaps


/-- Four cells of one block. -/
theorem cells4 {v : World} {b : Nat} {a0 a1 a2 a3 : Value} {t : TypeId} (h : v.heap[b]? = some (.cells #[a0, a1, a2, a3] t (0, 0))) :
    v.cell? ⟨b, 0, none⟩ = some a0 ∧ v.cell? ⟨b, 1, none⟩ = some a1 ∧ v.cell? ⟨b, 2, none⟩ = some a2 ∧ v.cell? ⟨b, 3, none⟩ = some a3 ∧ v.frozen? ⟨b, 0, none⟩ = false ∧ v.frozen? ⟨b, 1, none⟩ = false ∧ v.frozen? ⟨b, 2, none⟩ = false ∧ v.frozen? ⟨b, 3, none⟩ = false :=
  ⟨by unfold World.cell?; rw [h]; rfl, by unfold World.cell?; rw [h]; rfl, by unfold World.cell?; rw [h]; rfl, by unfold World.cell?; rw [h]; rfl, Joins.unfrozen_of_block h 0, Joins.unfrozen_of_block h 1, Joins.unfrozen_of_block h 2, Joins.unfrozen_of_block h 3⟩

theorem four_set {w : World} {b : Nat} {c0 c1 c2 c3 : Value} {t : TypeId} (h : w.heap[b]? = some (.cells #[c0, c1, c2, c3] t (0, 0))) (v0 v1 v2 v3 : Value) :
    (w.setCell ⟨b, 0, none⟩ v0).cell? ⟨b, 0, none⟩ = some v0 ∧ ((w.setCell ⟨b, 0, none⟩ v0).setCell ⟨b, 1, none⟩ v1).cell? ⟨b, 1, none⟩ = some v1 ∧ (((w.setCell ⟨b, 0, none⟩ v0).setCell ⟨b, 1, none⟩ v1).setCell ⟨b, 2, none⟩ v2).cell? ⟨b, 2, none⟩ = some v2 ∧
      ((((w.setCell ⟨b, 0, none⟩ v0).setCell ⟨b, 1, none⟩ v1).setCell ⟨b, 2, none⟩ v2).setCell ⟨b, 3, none⟩ v3).cell? ⟨b, 3, none⟩ = some v3 := by
  have h1 : (w.setCell ⟨b, 0, none⟩ v0).heap[b]? = some (.cells #[v0, c1, c2, c3] t (0, 0)) := by
    have := Joins.block_setCell (i := 0) h v0
    simpa using this
  have h2 : ((w.setCell ⟨b, 0, none⟩ v0).setCell ⟨b, 1, none⟩ v1).heap[b]? = some (.cells #[v0, v1, c2, c3] t (0, 0)) := by
    have := Joins.block_setCell (i := 1) h1 v1
    simpa using this
  have h3 : (((w.setCell ⟨b, 0, none⟩ v0).setCell ⟨b, 1, none⟩ v1).setCell ⟨b, 2, none⟩ v2).heap[b]? = some (.cells #[v0, v1, v2, c3] t (0, 0)) := by
    have := Joins.block_setCell (i := 2) h2 v2
    simpa using this
  have h4 : ((((w.setCell ⟨b, 0, none⟩ v0).setCell ⟨b, 1, none⟩ v1).setCell ⟨b, 2, none⟩ v2).setCell ⟨b, 3, none⟩ v3).heap[b]? = some (.cells #[v0, v1, v2, v3] t (0, 0)) := by
    have := Joins.block_setCell (i := 3) h3 v3
    simpa using this
  exact ⟨by unfold World.cell?; rw [h1]; rfl, by unfold World.cell?; rw [h2]; rfl, by unfold World.cell?; rw [h3]; rfl, by unfold World.cell?; rw [h4]; rfl⟩

end Go.Proofs.YtohhdeecdikopaaGreatDoor

namespace Go.Proofs.YtohhdeecdikopaaGreatDoor
open Go.RowKit Go.Maps

theorem Tryz.infoRef : (Tryz.prog.info? 67).map (fun i => (i.zero, i.size, i.bytes)) = some (some (.agg #[.int .i64 0, .int .i64 0]), 2, 16) := by kernel_rfl

theorem eqRef_any (a b : Int) (w : World) : Calls Tryz.prog 49 #[.agg #[.int .i64 a, .int .i64 b], .agg #[.int .i64 a, .int .i64 b]] w fun e w' => e = .returned (.bool true) ∧ Below w.heap.size w w' := by
  go_enter Tryz.func49, Tryz.ntmps49
  go_wp2
  go_ret
  exact ⟨rfl, ((Below.refl _ _).alloc (Nat.le_refl _) _).alloc (by simp) _⟩

set_option maxHeartbeats 400000 in
theorem eqRf_any (a b : Option Addr) (n c1 c2 : Nat) (gs : List (Int × Int)) (w : World) (hl : n ≤ 1048576) (ha : GAt w a n gs) (hb : GAt w b n gs) :
    Calls Tryz.prog 25 #[.slice a n c1, .slice b n c2] w fun e w' => e = .returned (.bool true) ∧ Below w.heap.size w w' := by
  have HA : Hid (GAt w a n gs) := ha
  have HB : Hid (GAt w b n gs) := hb
  clear ha hb
  go_enter Tryz.func25, Tryz.ntmps25
  go_wp2
  go_loopw [5] (fun i wr => ∃ k : Nat, k ≤ n ∧ i = .int .i64 k ∧ Below w.heap.size w wr) (fun i _ => n - (intOf i).toNat)
  case atStart => exact ⟨0, Nat.zero_le _, rfl, Below.refl _ _⟩
  case round =>
    obtain ⟨k, hk, rfl, hbel⟩ := hrel
    by_cases hlt : k < n
    · rcases HA.out.2 with h0 | ⟨b0, o0, e0, l0, d0⟩
      · omega
      subst e0
      rcases HB.out.2 with h0 | ⟨b1, o1, e1, l1, d1⟩
      · omega
      subst e1
      obtain ⟨g, hg⟩ : ∃ g, g = gs.getD k G0 := ⟨_, rfl⟩
      have y0 := d0 k hlt
      have y1 := d1 k hlt
      rw [← hg] at y0 y1
      obtain ⟨g1, g2⟩ := g
      have x0 := (hbel.cell (p := ⟨b0, o0 + k * 2, none⟩) l0).trans y0.1
      have x1 := (hbel.cell (p := ⟨b0, o0 + k * 2 + 1, none⟩) l0).trans y0.2
      have x2 := (hbel.cell (p := ⟨b1, o1 + k * 2, none⟩) l1).trans y1.1
      have x3 := (hbel.cell (p := ⟨b1, o1 + k * 2 + 1, none⟩) l1).trans y1.2
      clear hg d0 d1 y0 y1
      have hki : (k : Int) < (n : Int) := by omega
      have hw0 : b0 < wr.heap.size := Nat.lt_of_lt_of_le l0 hbel.size
      have hw1 : b1 < wr.heap.size := Nat.lt_of_lt_of_le l1 hbel.size
      have hcall : ∀ j, Calls Tryz.prog 49 #[.agg #[.int .i64 g1, .int .i64 g2], .agg #[.int .i64 g1, .int .i64 g2]] (wr.drewN j) fun e w' => e = .returned (.bool true) ∧ Below wr.heap.size wr w' := fun j => (eqRef_any g1 g2 _).mono fun e w' h => ⟨h.1, (Joins.below_draws _ wr j).trans h.2⟩
      go_wp2
      go_region_held3 (fun w' => w'.cell? ⟨b0, o0 + k * 2, none⟩ = some (.int .i64 g1) ∧ w'.cell? ⟨b0, o0 + k * 2 + 1, none⟩ = some (.int .i64 g2) ∧ w'.cell? ⟨b1, o1 + k * 2, none⟩ = some (.int .i64 g1) ∧ w'.cell? ⟨b1, o1 + k * 2 + 1, none⟩ = some (.int .i64 g2)) (go_keep)
        (first | (go_at_call 49; refine (hcall 1).mono ?_; rintro e w3 ⟨rfl, hb3⟩; have z0 := (hb3.cell (p := ⟨b0, o0 + k * 2, none⟩) hw0).trans x0; have z1 := (hb3.cell (p := ⟨b0, o0 + k * 2 + 1, none⟩) hw0).trans x1; have z2 := (hb3.cell (p := ⟨b1, o1 + k * 2, none⟩) hw1).trans x2; have z3 := (hb3.cell (p := ⟨b1, o1 + k * 2 + 1, none⟩) hw1).trans x3))
      go_wp2
      go_roundw
      case rel => exact ⟨k + 1, by omega, by go_num, hbel.trans (hb3.mono hbel.size)⟩
      case measure => simp [intOf]; omega
    · go_wp2
      go_ret
      exact ⟨rfl, hbel⟩

end Go.Proofs.YtohhdeecdikopaaGreatDoor

namespace Go.Proofs.YtohhdeecdikopaaGreatDoor
open Go.RowKit Go.Maps

structure Ou where
  v : Int
  l : List Int
  x : Int
  y : Int
def O0 : Ou := ⟨0, [], 0, 0⟩

/-- What a slice of outs leads to: four cells each, the keys behind the second. -/
def OAt (w : World) (a : Option Addr) (n : Nat) (os : List Ou) : Prop :=
  os.length = n ∧ (n = 0 ∨ ∃ b off, a = some ⟨b, off, none⟩ ∧ b < w.heap.size ∧ ∀ j, j < n → ∃ ka kn kc, w.cell? ⟨b, off + j * 4, none⟩ = some (.int .i64 (os.getD j O0).v) ∧ w.cell? ⟨b, off + j * 4 + 1, none⟩ = some (.slice ka kn kc) ∧
    w.cell? ⟨b, off + j * 4 + 2, none⟩ = some (.int .i64 (os.getD j O0).x) ∧ w.cell? ⟨b, off + j * 4 + 3, none⟩ = some (.int .i64 (os.getD j O0).y) ∧ kn ≤ maxLen ∧ IAt w ka kn (os.getD j O0).l)

theorem OAt.below {w w' : World} {a : Option Addr} {n : Nat} {os : List Ou} (h : OAt w a n os) {B : Nat} (hb : Below B w w') (hB : w.heap.size ≤ B) : OAt w' a n os := by
  obtain ⟨hn, h | ⟨b, off, rfl, hlt, hc⟩⟩ := h
  · exact ⟨hn, .inl h⟩
  · refine ⟨hn, .inr ⟨b, off, rfl, Nat.lt_of_lt_of_le hlt hb.size, fun j hj => ?_⟩⟩
    obtain ⟨ka, kn, kc, h0, h1, h2, h3, h4, h5⟩ := hc j hj
    have hl := Nat.lt_of_lt_of_le hlt hB
    exact ⟨ka, kn, kc, (hb.cell (p := ⟨b, off + j * 4, none⟩) hl).trans h0, (hb.cell (p := ⟨b, off + j * 4 + 1, none⟩) hl).trans h1, (hb.cell (p := ⟨b, off + j * 4 + 2, none⟩) hl).trans h2, (hb.cell (p := ⟨b, off + j * 4 + 3, none⟩) hl).trans h3, h4, h5.below hb hB⟩

end Go.Proofs.YtohhdeecdikopaaGreatDoor

namespace Go.Proofs.YtohhdeecdikopaaGreatDoor
open Go.RowKit Go.Maps Go.WideMaps

theorem Tryz.infoOut : (Tryz.prog.info? 50).map (fun i => (i.zero, i.size, i.bytes)) = some (some (.agg #[.int .i64 0, .slice none 0 0, .int .i64 0, .int .i64 0]), 4, 48) := by kernel_rfl

theorem res4 {w w2 : World} {b B : Nat} {c0 c1 c2 c3 : Value} {t : TypeId} (h : w.heap[b]? = some (.cells #[c0, c1, c2, c3] t (0, 0))) (hb : Below B w w2) (hB : b < B) :
    (w2.cell? ⟨b, 0, none⟩ = some c0 ∧ w2.cell? ⟨b, 1, none⟩ = some c1 ∧ w2.cell? ⟨b, 2, none⟩ = some c2 ∧ w2.cell? ⟨b, 3, none⟩ = some c3 ∧ w2.frozen? ⟨b, 0, none⟩ = false ∧ w2.frozen? ⟨b, 1, none⟩ = false ∧ w2.frozen? ⟨b, 2, none⟩ = false ∧ w2.frozen? ⟨b, 3, none⟩ = false) ∧ Hid (w2.heap[b]? = some (.cells #[c0, c1, c2, c3] t (0, 0))) := by
  have h2 := (hb.block b hB).trans h
  exact ⟨cells4 h2, h2⟩

end Go.Proofs.YtohhdeecdikopaaGreatDoor

namespace Go.Proofs.YtohhdeecdikopaaGreatDoor
open Go.RowKit Go.Maps Go.WideMaps

end Go.Proofs.YtohhdeecdikopaaGreatDoor

namespace Go.Proofs.YtohhdeecdikopaaGreatDoor
open Go.RowKit Go.Maps Go.WideMaps

set_option maxHeartbeats 400000 in
theorem eqOut_any (v : Int) (a b : Option Addr) (n c1 c2 : Nat) (l : List Int) (x y : Int) (w : World) (hl : n ≤ 1048576) (ha : IAt w a n l) (hb : IAt w b n l) :
    Calls Tryz.prog 50 #[.agg #[.int .i64 v, .slice a n c1, .int .i64 x, .int .i64 y], .agg #[.int .i64 v, .slice b n c2, .int .i64 x, .int .i64 y]] w fun e w' => e = .returned (.bool true) ∧ Below w.heap.size w w' := by
  have hbx : Below w.heap.size w ((w.alloc (.cells #[.int .i64 v, .slice a n c1, .int .i64 x, .int .i64 y] 50)).alloc (.cells #[.int .i64 v, .slice b n c2, .int .i64 x, .int .i64 y] 50)) := below_box2 _ _
  have hS := eqRu_any a b n c1 c2 l x y _ hl (ha.below hbx (Nat.le_refl _)) (hb.below hbx (Nat.le_refl _))
  have HBX : Hid (Below w.heap.size w ((w.alloc (.cells #[.int .i64 v, .slice a n c1, .int .i64 x, .int .i64 y] 50)).alloc (.cells #[.int .i64 v, .slice b n c2, .int .i64 x, .int .i64 y] 50))) := hbx
  clear hbx ha hb
  go_enter Tryz.func50, Tryz.ntmps50
  go_wp2_with (first
    | (go_at_call 72; refine hS.mono ?_; rintro e w2 ⟨rfl, hb2⟩; have HBW : Hid (Below w.heap.size w w2) := HBX.out.trans (hb2.mono (by simp; omega)); clear hb2))
  go_ret
  exact ⟨rfl, HBW.out⟩

set_option maxHeartbeats 1000000 in
theorem eqOs_any (a b : Option Addr) (n c1 c2 : Nat) (os : List Ou) (w : World) (hl : n ≤ 1048576) (hk : ∀ j, j < n → (os.getD j O0).l.length ≤ 1048576) (ha : OAt w a n os) (hb : OAt w b n os) :
    Calls Tryz.prog 26 #[.slice a n c1, .slice b n c2] w fun e w' => e = .returned (.bool true) ∧ Below w.heap.size w w' := by
  have HA : Hid (OAt w a n os) := ha
  have HB : Hid (OAt w b n os) := hb
  have HKL : Hid (∀ j, j < n → (os.getD j O0).l.length ≤ 1048576) := hk
  clear ha hb hk
  go_enter Tryz.func26, Tryz.ntmps26
  go_wp2
  go_loopw [5] (fun i wr => ∃ k : Nat, k ≤ n ∧ i = .int .i64 k ∧ Below w.heap.size w wr) (fun i _ => n - (intOf i).toNat)
  case atStart => exact ⟨0, Nat.zero_le _, rfl, Below.refl _ _⟩
  case round =>
    obtain ⟨k, hk, rfl, hbel⟩ := hrel
    by_cases hlt : k < n
    · rcases HA.out.2 with h0 | ⟨b0, o0, e0, l0, d0⟩
      · omega
      subst e0
      rcases HB.out.2 with h0 | ⟨b1, o1, e1, l1, d1⟩
      · omega
      subst e1
      obtain ⟨o, ho⟩ : ∃ o, o = os.getD k O0 := ⟨_, rfl⟩
      obtain ⟨ka, kn, kc, p0, p1, p2, p3, p4, p5⟩ := d0 k hlt
      obtain ⟨ja, jn, jc, q0, q1, q2, q3, q4, q5⟩ := d1 k hlt
      have hol := HKL.out k hlt
      rw [← ho] at p0 p2 p3 p5 q0 q2 q3 q5 hol
      obtain ⟨ov, ol, ox, oy⟩ := o
      obtain rfl := p5.1
      obtain rfl := q5.1
      simp only at p0 p1 p2 p3 q0 q1 q2 q3 hol p5 q5
      have x0 := (hbel.cell (p := ⟨b0, o0 + k * 4, none⟩) l0).trans p0
      have x1 := (hbel.cell (p := ⟨b0, o0 + k * 4 + 1, none⟩) l0).trans p1
      have x2 := (hbel.cell (p := ⟨b0, o0 + k * 4 + 2, none⟩) l0).trans p2
      have x3 := (hbel.cell (p := ⟨b0, o0 + k * 4 + 3, none⟩) l0).trans p3
      have y0 := (hbel.cell (p := ⟨b1, o1 + k * 4, none⟩) l1).trans q0
      have y1 := (hbel.cell (p := ⟨b1, o1 + k * 4 + 1, none⟩) l1).trans q1
      have y2 := (hbel.cell (p := ⟨b1, o1 + k * 4 + 2, none⟩) l1).trans q2
      have y3 := (hbel.cell (p := ⟨b1, o1 + k * 4 + 3, none⟩) l1).trans q3
      have hki : (k : Int) < (n : Int) := by omega
      have hw0 : b0 < wr.heap.size := Nat.lt_of_lt_of_le l0 hbel.size
      have hw1 : b1 < wr.heap.size := Nat.lt_of_lt_of_le l1 hbel.size
      have hcall : Calls Tryz.prog 50 #[.agg #[.int .i64 ov, .slice ka ol.length kc, .int .i64 ox, .int .i64 oy], .agg #[.int .i64 ov, .slice ja ol.length jc, .int .i64 ox, .int .i64 oy]] wr.drew fun e w' => e = .returned (.bool true) ∧ Below wr.heap.size wr w' :=
        (eqOut_any ov ka ja ol.length kc jc ol ox oy _ hol ((p5.below hbel (Nat.le_refl _)).below (Below.refl _ _).drew (Nat.le_refl _)) ((q5.below hbel (Nat.le_refl _)).below (Below.refl _ _).drew (Nat.le_refl _))).mono fun e w' h => ⟨h.1, (Below.refl _ _).drew.trans h.2⟩
      clear ho d0 d1 p0 p1 p2 p3 p4 p5 q0 q1 q2 q3 q4 q5 hol
      go_wp2
      go_region_held3 (fun w' => (w'.cell? ⟨b0, o0 + k * 4, none⟩ = some (.int .i64 ov) ∧ w'.cell? ⟨b0, o0 + k * 4 + 1, none⟩ = some (.slice ka ol.length kc) ∧ w'.cell? ⟨b0, o0 + k * 4 + 2, none⟩ = some (.int .i64 ox) ∧ w'.cell? ⟨b0, o0 + k * 4 + 3, none⟩ = some (.int .i64 oy)) ∧ w'.cell? ⟨b1, o1 + k * 4, none⟩ = some (.int .i64 ov) ∧ w'.cell? ⟨b1, o1 + k * 4 + 1, none⟩ = some (.slice ja ol.length jc) ∧ w'.cell? ⟨b1, o1 + k * 4 + 2, none⟩ = some (.int .i64 ox) ∧ w'.cell? ⟨b1, o1 + k * 4 + 3, none⟩ = some (.int .i64 oy)) (go_keep)
        (first | (go_at_call 50; refine hcall.mono ?_; rintro e w3 ⟨rfl, hb3⟩; have z0 := (hb3.cell (p := ⟨b0, o0 + k * 4, none⟩) hw0).trans x0; have z1 := (hb3.cell (p := ⟨b0, o0 + k * 4 + 1, none⟩) hw0).trans x1; have z2 := (hb3.cell (p := ⟨b0, o0 + k * 4 + 2, none⟩) hw0).trans x2; have z3 := (hb3.cell (p := ⟨b0, o0 + k * 4 + 3, none⟩) hw0).trans x3; have z4 := (hb3.cell (p := ⟨b1, o1 + k * 4, none⟩) hw1).trans y0; have z5 := (hb3.cell (p := ⟨b1, o1 + k * 4 + 1, none⟩) hw1).trans y1; have z6 := (hb3.cell (p := ⟨b1, o1 + k * 4 + 2, none⟩) hw1).trans y2; have z7 := (hb3.cell (p := ⟨b1, o1 + k * 4 + 3, none⟩) hw1).trans y3))
      go_wp2
      go_roundw
      case rel => exact ⟨k + 1, by omega, by go_num, hbel.trans (hb3.mono hbel.size)⟩
      case measure => simp [intOf]; omega
    · go_wp2
      go_ret
      exact ⟨rfl, hbel⟩

/-- What is known of a transaction: its refs and its outs. -/
structure TxAt (w : World) (ia : Option Addr) (n : Nat) (oa : Option Addr) (m : Nat) (rs : List (Int × Int)) (os : List Ou) : Prop where
  r : GAt w ia n rs
  o : OAt w oa m os
theorem TxAt.below {w w' : World} {ia oa : Option Addr} {n m : Nat} {rs : List (Int × Int)} {os : List Ou} (h : TxAt w ia n oa m rs os) {B : Nat} (hb : Below B w w') (hB : w.heap.size ≤ B) : TxAt w' ia n oa m rs os := ⟨h.r.below hb hB, h.o.below hb hB⟩

set_option maxHeartbeats 400000 in
theorem eqTx_any (k f : Int) (ia ib oa ob : Option Addr) (n m c0 c1 d0 d1 : Nat) (rs : List (Int × Int)) (os : List Ou) (w : World) (hn : n ≤ 1048576) (hm : m ≤ 1048576) (hk : ∀ j, j < m → (os.getD j O0).l.length ≤ 1048576) (ha : TxAt w ia n oa m rs os) (hb : TxAt w ib n ob m rs os) :
    Calls Tryz.prog 12 #[.agg #[.int .i64 k, .int .i64 f, .slice ia n c0, .slice oa m d0], .agg #[.int .i64 k, .int .i64 f, .slice ib n c1, .slice ob m d1]] w fun e w' => e = .returned (.bool true) ∧ Below w.heap.size w w' := by
  have hbx : Below w.heap.size w ((w.alloc (.cells #[.int .i64 k, .int .i64 f, .slice ia n c0, .slice oa m d0] 25)).alloc (.cells #[.int .i64 k, .int .i64 f, .slice ib n c1, .slice ob m d1] 25)) := below_box2 _ _
  have hS := eqRf_any ia ib n c0 c1 rs _ hn (ha.r.below hbx (Nat.le_refl _)) (hb.r.below hbx (Nat.le_refl _))
  have T0 := show Hid (((w.alloc (.cells #[.int .i64 k, .int .i64 f, .slice ia n c0, .slice oa m d0] 25)).alloc (.cells #[.int .i64 k, .int .i64 f, .slice ib n c1, .slice ob m d1] 25)).heap[w.heap.size]? = some (.cells #[.int .i64 k, .int .i64 f, .slice ia n c0, .slice oa m d0] 25 (0, 0))) from block_at2
  have T1 := show Hid (((w.alloc (.cells #[.int .i64 k, .int .i64 f, .slice ia n c0, .slice oa m d0] 25)).alloc (.cells #[.int .i64 k, .int .i64 f, .slice ib n c1, .slice ob m d1] 25)).heap[w.heap.size + 1]? = some (.cells #[.int .i64 k, .int .i64 f, .slice ib n c1, .slice ob m d1] 25 (0, 0))) from heap_alloc_at _ _ _ (by simp)
  have HBX : Hid (Below w.heap.size w ((w.alloc (.cells #[.int .i64 k, .int .i64 f, .slice ia n c0, .slice oa m d0] 25)).alloc (.cells #[.int .i64 k, .int .i64 f, .slice ib n c1, .slice ob m d1] 25))) := hbx
  have HA : Hid (OAt w oa m os) := ha.o
  have HB : Hid (OAt w ob m os) := hb.o
  have HK : Hid (∀ j, j < m → (os.getD j O0).l.length ≤ 1048576) := hk
  clear hbx ha hb hk
  go_enter Tryz.func12, Tryz.ntmps12
  go_wp2_with (first
    | (go_at_call 25; refine hS.mono ?_; rintro e w2 ⟨rfl, hb2⟩; obtain ⟨⟨p0, p1, p2, p3, _⟩, _⟩ := res4 T0.out hb2 (by simp; omega); obtain ⟨⟨q0, q1, q2, q3, _⟩, _⟩ := res4 T1.out hb2 (by simp); have hbw : Below w.heap.size w w2 := HBX.out.trans (hb2.mono (by simp; omega)); have hO := eqOs_any oa ob m d0 d1 os w2 hm HK.out (HA.out.below hbw (Nat.le_refl _)) (HB.out.below hbw (Nat.le_refl _)); clear hb2)
    | (go_at_call 26; refine hO.mono ?_; rintro e w3 ⟨rfl, hb3⟩))
  go_ret
  exact ⟨rfl, hbw.trans (hb3.mono hbw.size)⟩

end Go.Proofs.YtohhdeecdikopaaGreatDoor

namespace Go.Proofs.YtohhdeecdikopaaGreatDoor
open Go.RowKit Go.Maps Go.WideMaps


end Go.Proofs.YtohhdeecdikopaaGreatDoor

namespace Go.Proofs.YtohhdeecdikopaaGreatDoor
open Go.RowKit Go.Maps Go.WideMaps

set_option maxHeartbeats 400000 in
theorem markK_any (v : Value) (n base k : Nat) (xs : List Value) (w : World) (hkn : k + n ≤ 4611686018427387904) (ho : w.ownsRow base 2 1 v n xs) :
    Calls Tryz.prog 51 #[v, .int .i64 k] w fun e w' => e = .returned (.int .i64 (k + n : Nat)) ∧ w'.ownsRow base 2 1 v n (mkI k n) ∧ w.grownBy w' v.ownBlock := by
  rcases id ho.2 with ⟨rfl, rfl⟩ | ⟨g, cap, cur, rfl, hbg, hgg, hnc, hcm, _⟩
  · go_enter Tryz.func51, Tryz.ntmps51
    go_wp2
    refine wp_loop_rounds 1 ?_
    rw [rounds_succ]
    go_wp2
    go_ret
    exact ⟨rfl, World.ownsRow_nil _ _ _ _, World.grownBy.refl _ _⟩
  · have HO : Hid (w.ownsRow base 2 1 (.slice (some ⟨g, 0, none⟩) n cap) n xs) := ho
    clear ho hbg hgg hnc hcm
    go_enter Tryz.func51, Tryz.ntmps51
    go_wp2
    go_loopw [1, 5] (fun a i wr => ∃ j : Nat, j ≤ n ∧ i = .int .i64 j ∧ a = .int .i64 (k + j : Nat) ∧ Hid (w.grownBy wr (some g)) ∧ Hid (∃ xs, wr.ownsRow base 2 1 (.slice (some ⟨g, 0, none⟩) n cap) n xs ∧ ∀ t, t < j → xs[t]? = some (.int .i64 (k + t : Nat)))) (fun _ i _ => n - (intOf i).toNat)
    case atStart => exact ⟨0, Nat.zero_le _, rfl, rfl, World.grownBy.refl _ _, xs, HO.out, fun t ht => by omega⟩
    case round =>
      obtain ⟨j, hj, rfl, rfl, HG, HX⟩ := hrel
      by_cases hlt : j < n
      · obtain ⟨u, c0, f0, HR⟩ := markI_round hlt HG.out HX.out (a := (k : Int) + (j : Int)) (by omega)
        go_wp2
        go_roundw
        case rel => exact ⟨j + 1, by omega, by go_num, by go_num, HR.out.1, HR.out.2⟩
        case measure => simp [intOf]; omega
      · go_wp2
        go_ret
        obtain ⟨ys, h1, h2⟩ := HX.out
        have hjn : j = n := by omega
        subst hjn
        refine ⟨rfl, ?_, HG.out⟩
        rw [← mkI_of h1.1 h2]
        exact h1

set_option maxHeartbeats 400000 in
theorem heldK_any (v : Value) (n base k : Nat) (w : World) (hkn : k + n ≤ 4611686018427387904) (ho : w.ownsRow base 2 1 v n (mkI k n)) :
    Calls Tryz.prog 52 #[v, .int .i64 k] w fun e w' => e = .returned (.int .i64 (k + n : Nat)) ∧ w' = w := by
  rcases id ho.2 with ⟨rfl, rfl⟩ | ⟨g, cap, cur, rfl, hbg, hgg, hnc, hcm, _⟩
  · go_enter Tryz.func52, Tryz.ntmps52
    go_wp2
    refine wp_loop_rounds 1 ?_
    rw [rounds_succ]
    go_wp2
    go_ret
    exact ⟨rfl, rfl⟩
  · have HO : Hid (w.ownsRow base 2 1 (.slice (some ⟨g, 0, none⟩) n cap) n (mkI k n)) := ho
    clear ho hbg hgg hnc hcm
    go_enter Tryz.func52, Tryz.ntmps52
    go_wp2
    go_loop [1, 5] (fun a i => ∃ j : Nat, j ≤ n ∧ i = .int .i64 j ∧ a = .int .i64 (k + j : Nat)) (fun _ i => n - (intOf i).toNat)
    case atStart => exact ⟨0, Nat.zero_le _, rfl, rfl⟩
    case round =>
      obtain ⟨j, hj, rfl, rfl⟩ := hrel
      by_cases hlt : j < n
      · have c0 : w.cell? ⟨g, j, none⟩ = some (.int .i64 ((k : Int) + (j : Int))) := (HO.out.cellAt j (by omega)).trans (by rw [mkI_at hlt]; simp)
        go_wp2
        go_round
        case rel => exact ⟨j + 1, by omega, by go_num, by go_num⟩
        case measure => simp [intOf]; omega
      · go_wp2
        go_ret
        have hjn : j = n := by omega
        subst hjn
        exact ⟨rfl, rfl⟩

theorem Chg.refl (w : World) (lo hi : Nat) : Chg w w lo hi := ⟨rfl, rfl, rfl, Nat.le_refl _, fun _ _ _ => rfl⟩
theorem Chg.setCell {w W : World} {lo hi g t : Nat} (h : Chg w W lo hi) (hg : lo ≤ g ∧ g < hi) (u : Value) : Chg w (W.setCell ⟨g, t, none⟩ u) lo hi :=
  ⟨h.os, h.tape, h.output, by simpa using h.size, fun b hb ho => (Below.heap_setCell _ ⟨g, t, none⟩ u b (show b ≠ g by omega)).trans (h.block b hb ho)⟩

def mkKs (k n : Nat) : List Int := (List.range n).map fun t => ((k + t : Nat) : Int)
theorem ints_mkKs (k n : Nat) : ints (mkKs k n) = mkI k n := by simp [ints, mkKs, mkI]
theorem mkKs_length (k n : Nat) : (mkKs k n).length = n := by simp [mkKs]
end Go.Proofs.YtohhdeecdikopaaGreatDoor

namespace Go.Proofs.YtohhdeecdikopaaGreatDoor
open Go.RowKit Go.Maps Go.WideMaps

def CellsO (xs : List Value) (j : Nat) (o : Ou) (u : Value) : Prop :=
  xs[j * 4]? = some (.int .i64 o.v) ∧ xs[j * 4 + 1]? = some u ∧ xs[j * 4 + 2]? = some (.int .i64 o.x) ∧ xs[j * 4 + 3]? = some (.int .i64 o.y)
structure OOwn (w : World) (lo hi : Nat) (v : Value) (n : Nat) (f : Nat → Ou) (kv : Nat → Value) : Prop where
  row : ∃ xs, w.ownsRow lo 50 4 v n xs ∧ ∀ j, j < n → CellsO xs j (f j) (kv j)
  top : ∀ b, v.ownBlock = some b → b < hi
  keys : ∀ j, j < n → w.ownsRow lo 2 1 (kv j) (f j).l.length (ints (f j).l) ∧ ∀ b, (kv j).ownBlock = some b → b < hi
  apart : ∀ i j, i < j → j < n → ∀ b, (kv i).ownBlock = some b → (kv j).ownBlock ≠ some b
theorem OOwn.below {w w' : World} {lo hi n : Nat} {v : Value} {f : Nat → Ou} {kv : Nat → Value} (h : OOwn w lo hi v n f kv) (hb : Below w.heap.size w w') : OOwn w' lo hi v n f kv := by
  obtain ⟨xs, h1, h2⟩ := h.row
  exact ⟨⟨xs, h1.kept (grown_of_below hb) (by cases Value.ownBlock v <;> simp), h2⟩, h.top, fun j hj => ⟨(h.keys j hj).1.kept (grown_of_below hb) (by cases Value.ownBlock (kv j) <;> simp), (h.keys j hj).2⟩, h.apart⟩
theorem OOwn.chg {w w' : World} {lo hi n lo' hi' : Nat} {v : Value} {f : Nat → Ou} {kv : Nat → Value} (h : OOwn w lo hi v n f kv) (hc : Chg w w' lo' hi') (hd : hi ≤ lo' ∨ hi' ≤ lo) : OOwn w' lo hi v n f kv := by
  obtain ⟨xs, h1, h2⟩ := h.row
  refine ⟨⟨xs, hc.row h1 fun k hk => ?_, h2⟩, h.top, fun j hj => ⟨hc.row (h.keys j hj).1 fun k hk => ?_, (h.keys j hj).2⟩, h.apart⟩
  · have a := h.top k hk
    have b := (h1.lt k hk).1
    omega
  · have a := (h.keys j hj).2 k hk
    have b := ((h.keys j hj).1.lt k hk).1
    omega
theorem OOwn.at {w : World} {lo hi n g c : Nat} {os : List Ou} {kv : Nat → Value} (h : OOwn w lo hi (.slice (some ⟨g, 0, none⟩) n c) n (fun j => os.getD j O0) kv) (hn : os.length = n) (hl : ∀ j, j < n → (os.getD j O0).l.length ≤ 1048576) : OAt w (some ⟨g, 0, none⟩) n os := by
  obtain ⟨xs, h1, h2⟩ := h.row
  have hxl := h1.1
  refine ⟨hn, .inr ⟨g, 0, rfl, (h1.lt g rfl).2, fun j hj => ?_⟩⟩
  obtain ⟨e0, e1, e2, e3⟩ := h2 j hj
  have hk := (h.keys j hj).1
  obtain ⟨ka, kc, hkv⟩ : ∃ ka kc, kv j = .slice ka (os.getD j O0).l.length kc := by
    rcases hk.2 with ⟨q, q0⟩ | ⟨gg, cap, cur, q, _⟩
    · exact ⟨none, 0, by rw [q, q0]⟩
    · exact ⟨_, cap, q⟩
  rw [hkv] at e1 hk
  refine ⟨ka, (os.getD j O0).l.length, kc, ?_, ?_, ?_, ?_, by have := hl j hj; unfold maxLen; omega, IAt.owned hk rfl⟩
  · rw [Nat.zero_add, h1.cellAt (j * 4) (by omega), e0]
  · rw [Nat.zero_add, h1.cellAt (j * 4 + 1) (by omega), e1]
  · rw [Nat.zero_add, h1.cellAt (j * 4 + 2) (by omega), e2]
  · rw [Nat.zero_add, h1.cellAt (j * 4 + 3) (by omega), e3]

end Go.Proofs.YtohhdeecdikopaaGreatDoor
