/- Plain mathematics of the ledger: what a list of texts and a list of signatures answer when they are asked for faults, element by element, and the number of an element in a list. No program is named here. Closed facts of the translation, and what it says that a slice value leads to a list of texts or of signatures. The program's two-way tables: a slice of what is noted and a map from it to its number, behind a pointer; what their methods do. What the program's own reading of a ledger comes to: the tables of its texts, or the first fault. The program's table of signatures, as the one of texts. A new signature is put into the table: the slice one longer, the map one more. What the program's own reading of the signatures comes to. What the program's own reading of a whole ledger comes to: the two tables, or its fault. What the specification's own functions of chapter 1 answer, and that they write nothing that was there. The specification's fault of a ledger: two loops, one over the texts, one over the signatures. What the laws' own helpers do with a ledger that came in: its size is told, it is copied into new memory, two are compared. The laws' own copies and comparisons of ledgers. The laws' own copies and comparisons of signatures and of whole ledgers. The laws' own copies, sizes and comparisons of whole ledgers. What IdOf and TextOf and HasSign answer: the specification's and the program's. The law on IdOf answers true, whatever ledger and text come in, and writes nothing that was there. The marks that the laws write into lists, and the looks that they are there. The marks of signatures and numbers, and of whole ledgers. The marks of whole ledgers and of results that hold one; results compared. What SignsOf answers: the specification's and the program's. What the specification's SignsOf answers. The marks of lists of numbers, and results that hold one compared. The specification's copy of a ledger; the program's tables handed out as a ledger. The specification's copy of a ledger: two rows of new memory. What a result with a ledger is, and what the specification's NoteText answers. A new text in the table, and what of other memory stays. What the program's NoteText answers. The draws: numbers that the bytes of a code make. Rules that come in: their size is told, they are copied into new memory, two are compared. The program's iterator over a rule's keys, and those who range over it. Are all of them keys, and do they rise: the program's loops over its iterator. What keeps a rule from being one: the specification's code and the program's. The program's RuleFault. Refs that come in: their size is told, they are copied, two lists are compared. Outs that come in: their size is told, they are copied, two lists are compared. Outs and transactions that come in are copied into new memory. Lists of outs that come in are copied into new memory. Transactions that come in: two are compared, their size is told, they are copied. Transactions that come in are copied into new memory. -/
import Derived.Maps.OwnSet
import Derived.Test.YtciefdphjkjikaaGreatDoorProg
import Derived.WalkKit
import Derived.WalkSpells
import Derived.WalkLawsBesides
import Derived.Maps.Own
import Derived.Maps.OwnOps
import Derived.Lib.SmallJoins
import Derived.Deep.QuietTactic
import Derived.BigQuiet
import Derived.Deep.RegionHeld3
import Derived.Deep.AppendLies
import Derived.DeepKeys4
import Derived.Deep.DrawnRows
import Derived.Deep.RegionLaw
import Derived.RangeFuncFrom
import Derived.RangeFuncBox
import Derived.RangeFuncCalls
import Derived.RangeFuncLeaves
import Derived.Shelf.Abstract
import Derived.OwnWalkIn
import Derived.TacticsInMore
import Derived.LoopNIn
import Derived.LoopIn
namespace Go.Proofs.YtciefdphjkjikaaGreatDoor

/-- The number of x in l: its first place and 1; 0: it is not there. -/
def num {A : Type} [DecidableEq A] : List A → A → Nat
  | [], _ => 0
  | y :: l, x => if y = x then 1 else if num l x = 0 then 0 else num l x + 1

section
variable {A : Type} [DecidableEq A]

theorem num_zero (l : List A) (x : A) : num l x = 0 ↔ x ∉ l := by
  induction l with
  | nil => simp [num]
  | cons y l ih =>
    unfold num
    by_cases h : y = x
    · simp [h]
    · by_cases h2 : num l x = 0
      · have := ih.1 h2
        simp [h, h2]
        exact ⟨fun e => h e.symm, this⟩
      · have h3 : x ∈ l := Classical.byContradiction fun hn => h2 (ih.2 hn)
        simp [h, h2, h3]

theorem num_hit (l : List A) (x : A) (d : A) (k : Nat) (hk : k < l.length) (he : l.getD k d = x) (hn : x ∉ l.take k) : num l x = k + 1 := by
  induction l generalizing k with
  | nil => simp at hk
  | cons y l ih =>
    cases k with
    | zero => simp at he; simp [num, he]
    | succ k =>
      simp at hk he hn
      have := ih k hk (by simpa using he) hn.2
      have hyx : ¬ y = x := fun e => hn.1 e.symm
      simp [num, hyx, this]

omit [DecidableEq A] in
theorem take_snoc (l : List A) (d : A) (k : Nat) (hk : k < l.length) : l.take (k + 1) = l.take k ++ [l.getD k d] := by
  rw [List.take_succ_eq_append_getElem hk]
  simp [List.getD, hk]

end

instance : DecidableEq ByteArray := fun a b => decidable_of_iff (a.data = b.data) ⟨fun h => by cases a; cases b; simp_all, fun h => by rw [h]⟩

def G0 : Int × Int := (0, 0)

end Go.Proofs.YtciefdphjkjikaaGreatDoor

namespace Go.Proofs.YtciefdphjkjikaaGreatDoor
open Go.RowKit Go.Maps

theorem Tryz.infoStr : (Tryz.prog.info? 9).map (fun i => (i.zero, i.size, i.bytes)) = some (some (.string ByteArray.empty), 1, 16) := by kernel_rfl
/-- The slice value '.slice a n _' leads to the signatures gs, two cells each. -/
def GAt (w : World) (a : Option Addr) (n : Nat) (gs : List (Int × Int)) : Prop :=
  gs.length = n ∧ (n = 0 ∨ ∃ b off, a = some ⟨b, off, none⟩ ∧ b < w.heap.size ∧
    ∀ j, j < n → w.cell? ⟨b, off + j * 2, none⟩ = some (.int .i64 (gs.getD j G0).1) ∧ w.cell? ⟨b, off + j * 2 + 1, none⟩ = some (.int .i64 (gs.getD j G0).2))

theorem GAt.below {w w' : World} {a : Option Addr} {n : Nat} {gs : List (Int × Int)} (h : GAt w a n gs) {B : Nat} (hb : Below B w w') (hB : w.heap.size ≤ B) : GAt w' a n gs := by
  obtain ⟨hn, h | ⟨b, off, rfl, hlt, hc⟩⟩ := h
  · exact ⟨hn, .inl h⟩
  · exact ⟨hn, .inr ⟨b, off, rfl, Nat.lt_of_lt_of_le hlt hb.size, fun j hj =>
      ⟨(hb.cell (p := ⟨b, off + j * 2, none⟩) (Nat.lt_of_lt_of_le hlt hB)).trans (hc j hj).1, (hb.cell (p := ⟨b, off + j * 2 + 1, none⟩) (Nat.lt_of_lt_of_le hlt hB)).trans (hc j hj).2⟩⟩⟩

def gcells (gs : List (Int × Int)) : List Value := gs.flatMap fun g => [.int .i64 g.1, .int .i64 g.2]

theorem gcells_at (gs : List (Int × Int)) (j : Nat) (hj : j < gs.length) : (gcells gs)[j * 2]? = some (.int .i64 (gs.getD j G0).1) ∧ (gcells gs)[j * 2 + 1]? = some (.int .i64 (gs.getD j G0).2) := by
  induction gs generalizing j with
  | nil => simp at hj
  | cons g r ih =>
    cases j with
    | zero => simp [gcells]
    | succ j =>
      have := ih j (by simpa using hj)
      have e : gcells (g :: r) = .int .i64 g.1 :: .int .i64 g.2 :: gcells r := by simp [gcells]
      rw [e, show (j + 1) * 2 = j * 2 + 1 + 1 by omega]
      simpa using this

theorem GAt.owned {w : World} {base n cap g : Nat} {gs : List (Int × Int)} {e : TypeId} (h : w.ownsRow base e 2 (.slice (some ⟨g, 0, none⟩) n cap) n (gcells gs)) (hn : gs.length = n) : GAt w (some ⟨g, 0, none⟩) n gs := by
  refine ⟨hn, .inr ⟨g, 0, rfl, (h.lt g rfl).2, fun j hj => ?_⟩⟩
  have := gcells_at gs j (by omega)
  rw [Nat.zero_add, h.cellAt (j * 2) (by omega), h.cellAt (j * 2 + 1) (by omega)]
  exact this

theorem str_yes {s x : ByteArray} (h : s = x) : (s.toList == x.toList) = true := by rw [h]; simp
theorem str_no {s x : ByteArray} (h : ¬ s = x) : (s.toList == x.toList) = false := by
  rw [ByteArray.toList_eq, ByteArray.toList_eq]
  refine Bool.eq_false_iff.2 fun e => h ?_
  have e' : s.data.toList = x.data.toList := by simpa using e
  cases s; cases x
  simpa using e'

def inB (v lo hi : Int) : Bool := decide (lo ≤ v ∧ v ≤ hi)

theorem inB_true {v lo hi : Int} : inB v lo hi = true ↔ lo ≤ v ∧ v ≤ hi := by simp [inB]
theorem GAt.take {w : World} {a : Option Addr} {n k : Nat} {gs : List (Int × Int)} (h : GAt w a n gs) (hk : k ≤ n) : GAt w a k (gs.take k) := by
  obtain ⟨hn, h⟩ := h
  refine ⟨by simp; omega, ?_⟩
  rcases h with h | ⟨b, off, rfl, hb, hc⟩
  · exact .inl (by omega)
  · refine .inr ⟨b, off, rfl, hb, fun j hj => ?_⟩
    rw [(hc j (by omega)).1, (hc j (by omega)).2]
    simp [List.getD, hj]

theorem two_set {w : World} {b : Nat} {c0 c1 : Value} {t : TypeId} (h : w.heap[b]? = some (.cells #[c0, c1] t (0, 0))) (v0 v1 : Value) :
    (w.setCell ⟨b, 0, none⟩ v0).cell? ⟨b, 0, none⟩ = some v0 ∧ ((w.setCell ⟨b, 0, none⟩ v0).setCell ⟨b, 1, none⟩ v1).cell? ⟨b, 1, none⟩ = some v1 ∧ ((w.setCell ⟨b, 0, none⟩ v0).setCell ⟨b, 1, none⟩ v1).cell? ⟨b, 0, none⟩ = some v0 := by
  have h1 : (w.setCell ⟨b, 0, none⟩ v0).heap[b]? = some (.cells #[v0, c1] t (0, 0)) := by
    have := Joins.block_setCell (i := 0) h v0
    simpa using this
  have h2 : ((w.setCell ⟨b, 0, none⟩ v0).setCell ⟨b, 1, none⟩ v1).heap[b]? = some (.cells #[v0, v1] t (0, 0)) := by
    have := Joins.block_setCell (i := 1) h1 v1
    simpa using this
  exact ⟨by unfold World.cell?; rw [h1]; rfl, by unfold World.cell?; rw [h2]; rfl, by unfold World.cell?; rw [h2]; rfl⟩

/-- What is known of the block of the result behind a call. -/
theorem res_cells {w w2 : World} {b : Nat} {c0 c1 : Value} {t : TypeId} {B : Nat} (h : w.heap[b]? = some (.cells #[c0, c1] t (0, 0))) (hb : Below B w w2) (hB : b < B) :
    w2.cell? ⟨b, 0, none⟩ = some c0 ∧ w2.cell? ⟨b, 1, none⟩ = some c1 ∧ w2.frozen? ⟨b, 0, none⟩ = false ∧ w2.frozen? ⟨b, 1, none⟩ = false ∧ Hid (w2.heap[b]? = some (.cells #[c0, c1] t (0, 0))) := by
  have h2 := (hb.block b hB).trans h
  exact ⟨by unfold World.cell?; rw [h2]; rfl, by unfold World.cell?; rw [h2]; rfl, Joins.unfrozen_of_block h2 0, Joins.unfrozen_of_block h2 1, h2⟩

end Go.Proofs.YtciefdphjkjikaaGreatDoor

namespace Go.Proofs.YtciefdphjkjikaaGreatDoor
open Go.RowKit Go.Maps Go.WideMaps

theorem Tryz.laidOut : laidOutB Tryz.prog = true := by kernel_rfl

end Go.Proofs.YtciefdphjkjikaaGreatDoor

namespace Go.Proofs.YtciefdphjkjikaaGreatDoor
open Go.RowKit Go.Maps Go.WideMaps

theorem isWithin_any (v lo hi : Int) (w : World) : Calls Tryz.prog 61 #[.int .i64 v, .int .i64 lo, .int .i64 hi] w fun e w' => e = .returned (.bool (inB v lo hi)) ∧ w' = w := by
  by_cases h1 : lo ≤ v
  · by_cases h2 : v ≤ hi
    · have hb : inB v lo hi = true := by simp [inB, h1, h2]
      rw [hb]
      go_enter Tryz.func61, Tryz.ntmps61
      go_wp2
      go_ret
      exact ⟨rfl, rfl⟩
    · have hb : inB v lo hi = false := by simp [inB, h2]
      rw [hb]
      go_enter Tryz.func61, Tryz.ntmps61
      go_wp2
      go_ret
      exact ⟨rfl, rfl⟩
  · have hb : inB v lo hi = false := by simp [inB, h1]
    rw [hb]
    go_enter Tryz.func61, Tryz.ntmps61
    go_wp2
    go_ret
    exact ⟨rfl, rfl⟩

theorem isKey_any (v : Int) (w : World) : Calls Tryz.prog 60 #[.int .i64 v] w fun e w' => e = .returned (.bool (inB v 1 999)) ∧ w' = w := by
  go_enter Tryz.func60, Tryz.ntmps60
  go_wp2_with (go_at_call 61; refine (isWithin_any _ _ _ _).mono ?_; rintro e w' ⟨rfl, rfl⟩)
  go_ret
  exact ⟨rfl, rfl⟩

end Go.Proofs.YtciefdphjkjikaaGreatDoor

namespace Go.Proofs.YtciefdphjkjikaaGreatDoor
open Go.RowKit Go.Maps Go.WideMaps

theorem grown_of_below {w w' : World} (h : Below w.heap.size w w') : w.grownBy w' none := ⟨h.os, h.tape, h.output, h.size, fun k hk _ => h.block k hk⟩

end Go.Proofs.YtciefdphjkjikaaGreatDoor

namespace Go.Proofs.YtciefdphjkjikaaGreatDoor
open Go.RowKit Go.Maps Go.WideMaps
attribute [local go_sem ↓] Go.wp_at_zero Go.wp_at_succ

end Go.Proofs.YtciefdphjkjikaaGreatDoor

namespace Go.Proofs.YtciefdphjkjikaaGreatDoor
open Go.RowKit Go.Maps Go.WideMaps

end Go.Proofs.YtciefdphjkjikaaGreatDoor

namespace Go.Proofs.YtciefdphjkjikaaGreatDoor
open Go.RowKit Go.Maps Go.WideMaps

end Go.Proofs.YtciefdphjkjikaaGreatDoor

namespace Go.Proofs.YtciefdphjkjikaaGreatDoor
open Go.RowKit Go.Maps

theorem l1In_any (v lo hi : Int) (w : World) : Calls Tryz.prog 55 #[.int .i64 v, .int .i64 lo, .int .i64 hi] w fun e w' => e = .returned (.bool (inB v lo hi)) ∧ w' = w := by
  by_cases h1 : lo ≤ v
  · by_cases h2 : v ≤ hi
    · have hb : inB v lo hi = true := by simp [inB, h1, h2]
      rw [hb]
      go_enter Tryz.func55, Tryz.ntmps55
      go_wp2
      go_ret
      exact ⟨rfl, rfl⟩
    · have hb : inB v lo hi = false := by simp [inB, h2]
      rw [hb]
      go_enter Tryz.func55, Tryz.ntmps55
      go_wp2
      go_ret
      exact ⟨rfl, rfl⟩
  · have hb : inB v lo hi = false := by simp [inB, h1]
    rw [hb]
    go_enter Tryz.func55, Tryz.ntmps55
    go_wp2
    go_ret
    exact ⟨rfl, rfl⟩

theorem l1Key_any (v : Int) (w : World) : Calls Tryz.prog 56 #[.int .i64 v] w fun e w' => e = .returned (.bool (inB v 1 999)) ∧ w' = w := by
  go_enter Tryz.func56, Tryz.ntmps56
  go_wp2_with (go_at_call 55; refine (l1In_any _ _ _ _).mono ?_; rintro e w' ⟨rfl, rfl⟩)
  go_ret
  exact ⟨rfl, rfl⟩

theorem signed_more {gs : List (Int × Int)} {n k : Nat} {x g : Int × Int} (hn : gs.length = n) (hlt : k < n) (hj : x ∉ gs.take k) (hg : g = gs.getD k G0) (hne : ¬ g = x) : Hid (x ∉ gs.take (k + 1)) := by
  show x ∉ _
  rw [take_snoc gs G0 k (by omega), ← hg]
  simp only [List.mem_append, List.mem_singleton, not_or]
  exact ⟨hj, fun e => hne e.symm⟩

def memB (gs : List (Int × Int)) (x : Int × Int) : Bool := num gs x != 0

end Go.Proofs.YtciefdphjkjikaaGreatDoor

namespace Go.Proofs.YtciefdphjkjikaaGreatDoor
open Go.RowKit Go.Maps

end Go.Proofs.YtciefdphjkjikaaGreatDoor

namespace Go.Proofs.YtciefdphjkjikaaGreatDoor
open Go.RowKit Go.Maps

end Go.Proofs.YtciefdphjkjikaaGreatDoor

namespace Go.Proofs.YtciefdphjkjikaaGreatDoor
open Go.RowKit Go.Maps

end Go.Proofs.YtciefdphjkjikaaGreatDoor

namespace Go.Proofs.YtciefdphjkjikaaGreatDoor
open Go.RowKit Go.Maps

end Go.Proofs.YtciefdphjkjikaaGreatDoor

namespace Go.Proofs.YtciefdphjkjikaaGreatDoor
open Go.RowKit Go.Maps

theorem below_box {w : World} (o : Obj) : Below w.heap.size w (w.alloc o) := (Below.refl _ _).alloc (Nat.le_refl _) _
theorem below_box2 {w : World} (o o' : Obj) : Below w.heap.size w ((w.alloc o).alloc o') := (below_box o).alloc (by simp) _
theorem block_at2 {w : World} {o o' : Obj} : ((w.alloc o).alloc o').heap[w.heap.size]? = some o := (Below.heap_alloc _ _ _ (by simp)).trans (heap_alloc_new w o)

end Go.Proofs.YtciefdphjkjikaaGreatDoor

namespace Go.Proofs.YtciefdphjkjikaaGreatDoor
open Go.RowKit Go.Maps Go.WideMaps

/-- Below, behind the result's two stores. -/
theorem below_res {w w2 : World} (h : Below w.heap.size w w2) (v0 v1 : Value) : Below w.heap.size w ((w2.setCell ⟨w.heap.size + 1, 0, none⟩ v0).setCell ⟨w.heap.size + 1, 1, none⟩ v1) :=
  (h.setCell (p := ⟨w.heap.size + 1, 0, none⟩) (show w.heap.size ≤ w.heap.size + 1 by omega) _).setCell (p := ⟨w.heap.size + 1, 1, none⟩) (show w.heap.size ≤ w.heap.size + 1 by omega) _

end Go.Proofs.YtciefdphjkjikaaGreatDoor

namespace Go.Proofs.YtciefdphjkjikaaGreatDoor
open Go.RowKit Go.Maps Go.WideMaps

theorem keepb {v v' : World} {b : Nat} {o : Obj} (h : v.heap[b]? = some o) (hb : Below v.heap.size v v') : Hid (v'.heap[b]? = some o) := (hb.block b (lt_of_block h)).trans h
theorem cells2 {v : World} {b : Nat} {a0 a1 : Value} {t : TypeId} (h : v.heap[b]? = some (.cells #[a0, a1] t (0, 0))) : v.cell? ⟨b, 0, none⟩ = some a0 ∧ v.cell? ⟨b, 1, none⟩ = some a1 := ⟨by unfold World.cell?; rw [h]; rfl, by unfold World.cell?; rw [h]; rfl⟩

end Go.Proofs.YtciefdphjkjikaaGreatDoor

namespace Go.Proofs.YtciefdphjkjikaaGreatDoor
open Go.RowKit Go.Maps Go.WideMaps

/-- Only blocks from 'lo' to 'hi' may have turned. -/
structure Chg (w w' : World) (lo hi : Nat) : Prop where
  os : w'.os = w.os
  tape : w'.tape = w.tape
  output : w'.output = w.output
  size : w.heap.size ≤ w'.heap.size
  block : ∀ b, b < w.heap.size → (b < lo ∨ hi ≤ b) → w'.heap[b]? = w.heap[b]?

theorem Chg.of_below {w w' : World} (h : Below w.heap.size w w') (lo hi : Nat) : Chg w w' lo hi := ⟨h.os, h.tape, h.output, h.size, fun b hb _ => h.block b hb⟩
theorem Chg.trans {w w' w2 : World} {lo hi : Nat} (h : Chg w w' lo hi) (k : Chg w' w2 lo hi) : Chg w w2 lo hi :=
  ⟨k.os.trans h.os, k.tape.trans h.tape, k.output.trans h.output, Nat.le_trans h.size k.size, fun b hb ho => (k.block b (Nat.lt_of_lt_of_le hb h.size) ho).trans (h.block b hb ho)⟩
theorem Chg.below {w w' : World} {lo hi B : Nat} (h : Chg w w' lo hi) (hB : B ≤ lo) (hs : B ≤ w.heap.size) : Below B w w' := ⟨h.os, h.tape, h.output, h.size, fun k hk => h.block k (by omega) (by omega)⟩
theorem Chg.keep {w w' : World} {lo hi b : Nat} {o : Obj} (h : Chg w w' lo hi) (hb : w.heap[b]? = some o) (ho : b < lo ∨ hi ≤ b) : w'.heap[b]? = some o := (h.block b (lt_of_block hb) ho).trans hb
theorem Chg.row {w w' : World} {lo hi : Nat} (h : Chg w w' lo hi) {base : Nat} {e : TypeId} {size : Nat} {v : Value} {n : Nat} {xs : List Value} (ho : w.ownsRow base e size v n xs) (hv : ∀ k, v.ownBlock = some k → k < lo ∨ hi ≤ k) : w'.ownsRow base e size v n xs := by
  refine ⟨ho.1, ?_⟩
  rcases ho.2 with hn | ⟨g, cap, cur, rfl, hb, hgg, rest⟩
  · exact .inl hn
  · exact .inr ⟨g, cap, cur, rfl, hb, h.keep hgg (hv g rfl), rest⟩

end Go.Proofs.YtciefdphjkjikaaGreatDoor

namespace Go.Proofs.YtciefdphjkjikaaGreatDoor
open Go.RowKit Go.Maps Go.WideMaps

end Go.Proofs.YtciefdphjkjikaaGreatDoor

namespace Go.Proofs.YtciefdphjkjikaaGreatDoor
open Go.RowKit Go.Maps Go.WideMaps

section
variable {w w' : World} {lo hi n c0 m c1 : Nat} {a0 a1 : Option Addr} {xs ys : List Value}
theorem rows_apart {e e' : TypeId} {s s' n' : Nat} {v v' : Value} {zs zs' : List Value} (hne : e ≠ e') (h : w.ownsRow lo e s v n zs) (h' : w.ownsRow lo e' s' v' n' zs') : ∀ b, v.ownBlock = some b → v'.ownBlock ≠ some b := by
  intro b hb hb'
  rcases h.2 with ⟨rfl, _⟩ | ⟨g, c, cur, rfl, _, hh, _⟩
  · simp [Value.ownBlock] at hb
  rcases h'.2 with ⟨rfl, _⟩ | ⟨g', c', cur', rfl, _, hh', _⟩
  · simp [Value.ownBlock] at hb'
  simp [Value.ownBlock] at hb hb'
  subst hb hb'
  rw [hh] at hh'
  simp at hh'
  exact hne hh'.2
end

end Go.Proofs.YtciefdphjkjikaaGreatDoor

namespace Go.Proofs.YtciefdphjkjikaaGreatDoor
open Go.RowKit Go.Maps Go.WideMaps
attribute [local go_sem ↓] Go.wp_at_zero Go.wp_at_succ

theorem Tryz.infoI64 : (Tryz.prog.info? 2).map (fun i => (i.zero, i.size, i.bytes)) = some (some (.int .i64 0), 1, 8) := by kernel_rfl

def ints (l : List Int) : List Value := l.map (Value.int .i64)

theorem heap_alloc_at (w : World) (o : Obj) (n : Nat) (h : n = w.heap.size) : (w.alloc o).heap[n]? = some o := by rw [h]; exact heap_alloc_new w o

end Go.Proofs.YtciefdphjkjikaaGreatDoor

namespace Go.Proofs.YtciefdphjkjikaaGreatDoor
open Go.RowKit Go.Maps Go.WideMaps
attribute [local go_sem ↓] Go.wp_at_zero Go.wp_at_succ

end Go.Proofs.YtciefdphjkjikaaGreatDoor

namespace Go.Proofs.YtciefdphjkjikaaGreatDoor
open Go.RowKit Go.Maps Go.WideMaps

def IAt (w : World) (a : Option Addr) (n : Nat) (l : List Int) : Prop :=
  l.length = n ∧ (n = 0 ∨ ∃ b off, a = some ⟨b, off, none⟩ ∧ b < w.heap.size ∧ ∀ j, j < n → w.cell? ⟨b, off + j, none⟩ = some (.int .i64 (l.getD j 0)))

theorem IAt.below {w w' : World} {a : Option Addr} {n : Nat} {l : List Int} (h : IAt w a n l) {B : Nat} (hb : Below B w w') (hB : w.heap.size ≤ B) : IAt w' a n l := by
  obtain ⟨hn, h | ⟨b, off, rfl, hlt, hc⟩⟩ := h
  · exact ⟨hn, .inl h⟩
  · exact ⟨hn, .inr ⟨b, off, rfl, Nat.lt_of_lt_of_le hlt hb.size, fun j hj => (hb.cell (p := ⟨b, off + j, none⟩) (Nat.lt_of_lt_of_le hlt hB)).trans (hc j hj)⟩⟩

theorem IAt.owned {w : World} {base n c : Nat} {a : Option Addr} {l : List Int} (h : w.ownsRow base 2 1 (.slice a n c) n (ints l)) (hn : l.length = n) : IAt w a n l := by
  refine ⟨hn, ?_⟩
  rcases id h.2 with ⟨_, h0⟩ | ⟨g, cap, cur, e, _⟩
  · exact .inl h0
  · simp at e
    obtain ⟨rfl, rfl⟩ := e
    refine .inr ⟨g, 0, rfl, (h.lt g rfl).2, fun j hj => ?_⟩
    rw [Nat.zero_add, h.cellAt j (by omega)]
    simp [ints, List.getD, show j < l.length by omega]

end Go.Proofs.YtciefdphjkjikaaGreatDoor

namespace Go.Proofs.YtciefdphjkjikaaGreatDoor
open Go.RowKit Go.Maps Go.WideMaps
attribute [local go_sem ↓] Go.wp_at_zero Go.wp_at_succ

end Go.Proofs.YtciefdphjkjikaaGreatDoor

namespace Go.Proofs.YtciefdphjkjikaaGreatDoor
open Go.RowKit Go.Maps Go.WideMaps
attribute [local go_sem ↓] Go.wp_at_zero Go.wp_at_succ

end Go.Proofs.YtciefdphjkjikaaGreatDoor

namespace Go.Proofs.YtciefdphjkjikaaGreatDoor
open Go.RowKit Go.Maps Go.WideMaps


/-- Four cells of one block. -/
theorem cells4 {v : World} {b : Nat} {a0 a1 a2 a3 : Value} {t : TypeId} (h : v.heap[b]? = some (.cells #[a0, a1, a2, a3] t (0, 0))) :
    v.cell? ⟨b, 0, none⟩ = some a0 ∧ v.cell? ⟨b, 1, none⟩ = some a1 ∧ v.cell? ⟨b, 2, none⟩ = some a2 ∧ v.cell? ⟨b, 3, none⟩ = some a3 ∧ v.frozen? ⟨b, 0, none⟩ = false ∧ v.frozen? ⟨b, 1, none⟩ = false ∧ v.frozen? ⟨b, 2, none⟩ = false ∧ v.frozen? ⟨b, 3, none⟩ = false :=
  ⟨by unfold World.cell?; rw [h]; rfl, by unfold World.cell?; rw [h]; rfl, by unfold World.cell?; rw [h]; rfl, by unfold World.cell?; rw [h]; rfl, Joins.unfrozen_of_block h 0, Joins.unfrozen_of_block h 1, Joins.unfrozen_of_block h 2, Joins.unfrozen_of_block h 3⟩

theorem four_set {w : World} {b : Nat} {c0 c1 c2 c3 : Value} {t : TypeId} (h : w.heap[b]? = some (.cells #[c0, c1, c2, c3] t (0, 0))) (v0 v1 v2 v3 : Value) :
    (w.setCell ⟨b, 0, none⟩ v0).cell? ⟨b, 0, none⟩ = some v0 ∧ ((w.setCell ⟨b, 0, none⟩ v0).setCell ⟨b, 1, none⟩ v1).cell? ⟨b, 1, none⟩ = some v1 ∧ (((w.setCell ⟨b, 0, none⟩ v0).setCell ⟨b, 1, none⟩ v1).setCell ⟨b, 2, none⟩ v2).cell? ⟨b, 2, none⟩ = some v2 ∧
      ((((w.setCell ⟨b, 0, none⟩ v0).setCell ⟨b, 1, none⟩ v1).setCell ⟨b, 2, none⟩ v2).setCell ⟨b, 3, none⟩ v3).cell? ⟨b, 3, none⟩ = some v3 := by
  have h1 : (w.setCell ⟨b, 0, none⟩ v0).heap[b]? = some (.cells #[v0, c1, c2, c3] t (0, 0)) := by
    have := Joins.block_setCell (i := 0) h v0
    simpa using this
  have h2 : ((w.setCell ⟨b, 0, none⟩ v0).setCell ⟨b, 1, none⟩ v1).heap[b]? = some (.cells #[v0, v1, c2, c3] t (0, 0)) := by
    have := Joins.block_setCell (i := 1) h1 v1
    simpa using this
  have h3 : (((w.setCell ⟨b, 0, none⟩ v0).setCell ⟨b, 1, none⟩ v1).setCell ⟨b, 2, none⟩ v2).heap[b]? = some (.cells #[v0, v1, v2, c3] t (0, 0)) := by
    have := Joins.block_setCell (i := 2) h2 v2
    simpa using this
  have h4 : ((((w.setCell ⟨b, 0, none⟩ v0).setCell ⟨b, 1, none⟩ v1).setCell ⟨b, 2, none⟩ v2).setCell ⟨b, 3, none⟩ v3).heap[b]? = some (.cells #[v0, v1, v2, v3] t (0, 0)) := by
    have := Joins.block_setCell (i := 3) h3 v3
    simpa using this
  exact ⟨by unfold World.cell?; rw [h1]; rfl, by unfold World.cell?; rw [h2]; rfl, by unfold World.cell?; rw [h3]; rfl, by unfold World.cell?; rw [h4]; rfl⟩

end Go.Proofs.YtciefdphjkjikaaGreatDoor

namespace Go.Proofs.YtciefdphjkjikaaGreatDoor
open Go.RowKit Go.Maps Go.WideMaps

theorem Chg.of_set {w : World} {lo hi b : Nat} (h1 : lo ≤ b) (h2 : b < hi) (i : Nat) (v : Value) : Chg w (w.setCell ⟨b, i, none⟩ v) lo hi :=
  ⟨rfl, rfl, rfl, by simp, fun k _ ho => Below.heap_setCell w ⟨b, i, none⟩ v k (show k ≠ b by omega)⟩

end Go.Proofs.YtciefdphjkjikaaGreatDoor

namespace Go.Proofs.YtciefdphjkjikaaGreatDoor
open Go.RowKit Go.Maps Go.WideMaps

theorem k4 {W : World} {b c : Nat} {v0 v1 v2 v3 : Value} (h : c ≠ b) : ((((W.setCell ⟨b, 0, none⟩ v0).setCell ⟨b, 1, none⟩ v1).setCell ⟨b, 2, none⟩ v2).setCell ⟨b, 3, none⟩ v3).heap[c]? = W.heap[c]? :=
  (Below.heap_setCell _ ⟨b, 3, none⟩ _ c h).trans ((Below.heap_setCell _ ⟨b, 2, none⟩ _ c h).trans ((Below.heap_setCell _ ⟨b, 1, none⟩ _ c h).trans (Below.heap_setCell _ ⟨b, 0, none⟩ _ c h)))

end Go.Proofs.YtciefdphjkjikaaGreatDoor

namespace Go.Proofs.YtciefdphjkjikaaGreatDoor
open Go.RowKit Go.Maps Go.WideMaps

/-- Bytes that came in. -/
def BAt (w : World) (a : Option Addr) (n : Nat) (l : List Int) : Prop :=
  (∀ j, 0 ≤ l.getD j 0 ∧ l.getD j 0 ≤ 255) ∧ (n = 0 ∨ ∃ b off, a = some ⟨b, off, none⟩ ∧ b < w.heap.size ∧ ∀ j, j < n → w.cell? ⟨b, off + j, none⟩ = some (.int .u8 (l.getD j 0)))

/-- The source of draws in block SB, behind all that came in. -/
structure Src (w v : World) (SB : Nat) (ca : Option Addr) (cn cc t : Nat) : Prop where
  box : v.heap[SB]? = some (.cells #[.slice ca cn cc, .int .i64 t] 70 (0, 0))
  bel : Below w.heap.size w v
  sb : w.heap.size ≤ SB

section
variable {w v v' : World} {SB : Nat} {ca : Option Addr} {cn cc t : Nat}
theorem Src.step (h : Src w v SB ca cn cc t) (hb : Below v.heap.size v v') : Src w v' SB ca cn cc t := ⟨(keepb h.box hb).out, h.bel.trans (hb.mono h.bel.size), h.sb⟩
theorem Src.lt (h : Src w v SB ca cn cc t) : SB < v.heap.size := lt_of_block h.box
theorem Src.next (h : Src w v SB ca cn cc t) : Src w (v.setCell ⟨SB, 1, none⟩ (.int .i64 ((t : Int) + 1))) SB ca cn cc (t + 1) := by
  refine ⟨?_, h.bel.setCell (p := ⟨SB, 1, none⟩) h.sb _, h.sb⟩
  have := Joins.block_setCell (i := 1) h.box (.int .i64 ((t : Int) + 1))
  simpa using this
end

set_option maxHeartbeats 1000000 in
theorem l1Next_any (SB cn cc t : Nat) (ca : Option Addr) (l : List Int) (k : Int) (w v : World) (hk : k ≤ 200) (ht : t ≤ 1000) (hcn : cn ≤ 1048576) (hB : BAt w ca cn l) (h : Src w v SB ca cn cc t) :
    Calls Tryz.prog 19 #[.pointer (some ⟨SB, 0, none⟩), .int .i64 k] v fun e v' => ∃ r : Int, e = .returned (.int .i64 r) ∧ (0 ≤ r ∧ (1 ≤ k → r < k)) ∧ Src w v' SB ca cn cc (t + 1) ∧ Chg v v' SB (SB + 1) := by
  obtain ⟨c0, c1⟩ := cells2 h.box
  have hn := h.next
  have hc1 : Chg v (v.setCell ⟨SB, 1, none⟩ (.int .i64 ((t : Int) + 1))) SB (SB + 1) := Chg.of_set (Nat.le_refl _) (Nat.lt_succ_self _) _ _
  have f1 : v.frozen? ⟨SB, 1, none⟩ = false := Joins.unfrozen_of_block h.box 1
  obtain ⟨d0, d1⟩ := cells2 hn.box
  have HN : Hid (Src w (v.setCell ⟨SB, 1, none⟩ (.int .i64 ((t : Int) + 1))) SB ca cn cc (t + 1)) := hn
  have HC : Hid (Chg v (v.setCell ⟨SB, 1, none⟩ (.int .i64 ((t : Int) + 1))) SB (SB + 1)) := hc1
  clear hn hc1
  have hti : ((t + 1 : Nat) : Int) = (t : Int) + 1 := by omega
  rw [hti] at d1
  by_cases hk1 : k < 1
  · clear d0 d1 hB
    go_enter Tryz.func19, Tryz.ntmps19
    go_wp2
    go_ret
    exact ⟨0, rfl, ⟨by omega, by omega⟩, HN.out, HC.out⟩
  · by_cases hc0 : cn = 0
    · subst hc0
      clear hB
      go_enter Tryz.func19, Tryz.ntmps19
      go_wp2
      go_ret
      exact ⟨_, rfl, ⟨Int.emod_nonneg _ (by omega), by intros; exact Int.emod_lt_of_pos _ (by omega)⟩, HN.out, HC.out⟩
    · rcases hB.2 with h0 | ⟨b, off, rfl, hbl, hcell⟩
      · exact absurd h0 hc0
      obtain ⟨j, hj, hjl⟩ : ∃ j : Nat, (t : Int).tmod (cn : Int) = (j : Int) ∧ j < cn := ⟨t % cn, by rw [Int.tmod_eq_emod_of_nonneg (by omega)]; omega, Nat.mod_lt _ (by omega)⟩
      obtain ⟨q, hq, hql⟩ : ∃ q : Nat, (t : Int).tdiv (cn : Int) = (q : Int) ∧ q ≤ t := ⟨t / cn, by rw [Int.tdiv_eq_ediv_of_nonneg (by omega)]; omega, Nat.div_le_self _ _⟩
      have hx := (HN.out.bel.cell (p := ⟨b, off + j, none⟩) hbl).trans (hcell j hjl)
      have hrange := hB.1 j
      obtain ⟨x, hxe⟩ : ∃ x, x = l.getD j 0 := ⟨_, rfl⟩
      rw [← hxe] at hx hrange
      have hji : (j : Int) < (cn : Int) := by omega
      have hcz : (cn : Int) ≠ 0 := by omega
      clear hcell hxe hB
      go_enter Tryz.func19, Tryz.ntmps19
      go_wp2
      go_quiet (fail)
      go_wp2
      go_ret
      exact ⟨_, rfl, ⟨Int.emod_nonneg _ (by omega), by intros; exact Int.emod_lt_of_pos _ (by omega)⟩, HN.out.step (Joins.below_draws _ _ _), HC.out.trans (Chg.of_below (Joins.below_draws _ _ _) _ _)⟩

/-- A block below the source's is not turned by a draw. -/
theorem Chg.keep1 {v v' : World} {SB b : Nat} {o : Obj} (hc : Chg v v' SB (SB + 1)) (h : v.heap[b]? = some o) (hne : b ≠ SB) : v'.heap[b]? = some o := hc.keep h (by omega)
theorem Chg.row1 {v v' : World} {SB : Nat} (hc : Chg v v' SB (SB + 1)) {base : Nat} {e : TypeId} {size : Nat} {u : Value} {n : Nat} {xs : List Value} (ho : v.ownsRow base e size u n xs) (hb : SB < base) : v'.ownsRow base e size u n xs :=
  hc.row ho (fun k hk => by have := (ho.lt k hk).1; omega)

theorem l1Source_any (a : Option Addr) (n cap : Nat) (w : World) :
    Calls Tryz.prog 16 #[.slice a n cap] w fun e w' => e = .returned (.pointer (some ⟨w.heap.size, 0, none⟩)) ∧ Src w w' w.heap.size a n cap 0 := by
  go_enter Tryz.func16, Tryz.ntmps16
  go_wp2
  go_ret
  exact ⟨rfl, heap_alloc_new _ _, below_box _, Nat.le_refl _⟩

/-- The words that are drawn. -/
def words : List ByteArray := [⟨#[97]⟩, ⟨#[98]⟩, ⟨#[99, 99]⟩, ⟨#[120, 32, 121]⟩, ⟨#[112, 97, 121, 32, 49]⟩]

set_option maxHeartbeats 400000 in
theorem l1Pick_any (SB cn cc t n cap : Nat) (ca la : Option Addr) (l zs : List Int) (w v : World) (hn1 : 1 ≤ n) (hn2 : n ≤ 9) (ht : t ≤ 1000) (hcn : cn ≤ 1048576) (hB : BAt w ca cn l) (h : Src w v SB ca cn cc t) (hI : IAt v la n zs) (hne : ∀ b off, la = some ⟨b, off, none⟩ → b ≠ SB) :
    Calls Tryz.prog 20 #[.pointer (some ⟨SB, 0, none⟩), .slice la n cap] v fun e v' => ∃ z : Int, e = .returned (.int .i64 z) ∧ z ∈ zs ∧ Src w v' SB ca cn cc (t + 1) ∧ Chg v v' SB (SB + 1) := by
  have hnx := l1Next_any SB cn cc t ca l n w v (by omega) ht hcn hB h
  have hzl := hI.1
  rcases hI.2 with h0 | ⟨b, off, rfl, hbl, hc⟩
  · omega
  have hbs := hne b off rfl
  have HC0 : Hid (∀ j, j < n → v.cell? ⟨b, off + j, none⟩ = some (.int .i64 (zs.getD j 0))) := hc
  clear hB h hI hc hne
  go_enter Tryz.func20, Tryz.ntmps20
  go_wp2_with (go_at_call 19; refine hnx.mono ?_; rintro e v2 ⟨r, rfl, ⟨hr0, hr1⟩, hS2, hc2⟩; have hr2 : r < n := hr1 (by omega); obtain ⟨i, rfl⟩ := Int.eq_ofNat_of_zero_le hr0; have hx : v2.cell? ⟨b, off + i, none⟩ = some (.int .i64 (zs.getD i 0)) := (World.cell?_of_block (hc2.block b hbl (by omega))).trans (HC0.out i (by omega)); obtain ⟨z, hz⟩ : ∃ z, z = zs.getD i 0 := ⟨_, rfl⟩; rw [← hz] at hx; have HZ : Hid (z = zs.getD i 0) := hz; have HC : Hid (Chg v v2 SB (SB + 1)) := hc2; have HS : Hid (Src w v2 SB ca cn cc (t + 1)) := hS2; clear hc2 hS2 hr1 hz)
  go_ret
  refine ⟨z, rfl, ?_, HS.out, HC.out⟩
  rw [HZ.out, List.getD, List.getElem?_eq_getElem (by omega)]
  exact List.getElem_mem _

end Go.Proofs.YtciefdphjkjikaaGreatDoor

namespace Go.Proofs.YtciefdphjkjikaaGreatDoor
open Go.RowKit Go.Maps Go.WideMaps

section
variable {w w2 W v : World} {b B : Nat} {c0 c1 c2 : Value} {t : TypeId}
theorem cells3 (h : v.heap[b]? = some (.cells #[c0, c1, c2] t (0, 0))) : v.cell? ⟨b, 0, none⟩ = some c0 ∧ v.cell? ⟨b, 1, none⟩ = some c1 ∧ v.cell? ⟨b, 2, none⟩ = some c2 :=
  ⟨by unfold World.cell?; rw [h]; rfl, by unfold World.cell?; rw [h]; rfl, by unfold World.cell?; rw [h]; rfl⟩
theorem res3 (h : w.heap[b]? = some (.cells #[c0, c1, c2] t (0, 0))) (hb : Below B w w2) (hB : b < B) :
    (w2.cell? ⟨b, 0, none⟩ = some c0 ∧ w2.cell? ⟨b, 1, none⟩ = some c1 ∧ w2.cell? ⟨b, 2, none⟩ = some c2) ∧ (w2.frozen? ⟨b, 0, none⟩ = false ∧ w2.frozen? ⟨b, 1, none⟩ = false ∧ w2.frozen? ⟨b, 2, none⟩ = false) ∧ Hid (w2.heap[b]? = some (.cells #[c0, c1, c2] t (0, 0))) := by
  have h2 := (hb.block b hB).trans h
  exact ⟨cells3 h2, ⟨Joins.unfrozen_of_block h2 0, Joins.unfrozen_of_block h2 1, Joins.unfrozen_of_block h2 2⟩, h2⟩
theorem set3 (h : W.heap[b]? = some (.cells #[c0, c1, c2] t (0, 0))) (v0 v1 v2 : Value) :
    (((W.setCell ⟨b, 0, none⟩ v0).setCell ⟨b, 1, none⟩ v1).setCell ⟨b, 2, none⟩ v2).heap[b]? = some (.cells #[v0, v1, v2] t (0, 0)) := by
  have h1 : (W.setCell ⟨b, 0, none⟩ v0).heap[b]? = some (.cells #[v0, c1, c2] t (0, 0)) := by
    have := Joins.block_setCell (i := 0) h v0
    simpa using this
  have h2 : ((W.setCell ⟨b, 0, none⟩ v0).setCell ⟨b, 1, none⟩ v1).heap[b]? = some (.cells #[v0, v1, c2] t (0, 0)) := by
    have := Joins.block_setCell (i := 1) h1 v1
    simpa using this
  have := Joins.block_setCell (i := 2) h2 v2
  simpa using this
theorem three_set (h : W.heap[b]? = some (.cells #[c0, c1, c2] t (0, 0))) (v0 v1 v2 : Value) :
    (W.setCell ⟨b, 0, none⟩ v0).cell? ⟨b, 0, none⟩ = some v0 ∧ ((W.setCell ⟨b, 0, none⟩ v0).setCell ⟨b, 1, none⟩ v1).cell? ⟨b, 1, none⟩ = some v1 ∧ (((W.setCell ⟨b, 0, none⟩ v0).setCell ⟨b, 1, none⟩ v1).setCell ⟨b, 2, none⟩ v2).cell? ⟨b, 2, none⟩ = some v2 := by
  have h1 : (W.setCell ⟨b, 0, none⟩ v0).heap[b]? = some (.cells #[v0, c1, c2] t (0, 0)) := by
    have := Joins.block_setCell (i := 0) h v0
    simpa using this
  have h2 : ((W.setCell ⟨b, 0, none⟩ v0).setCell ⟨b, 1, none⟩ v1).heap[b]? = some (.cells #[v0, v1, c2] t (0, 0)) := by
    have := Joins.block_setCell (i := 1) h1 v1
    simpa using this
  exact ⟨(cells3 h1).1, (cells3 h2).2.1, (cells3 (set3 h v0 v1 v2)).2.2⟩
end

end Go.Proofs.YtciefdphjkjikaaGreatDoor

namespace Go.Proofs.YtciefdphjkjikaaGreatDoor
open Go.RowKit Go.Shelf Go.Maps Go.WideMaps
attribute [local go_sem] Oper.semAt_some

theorem take_more {α : Type} {zs : List α} {k : Nat} {x : α} (h : zs[k]? = some x) : zs.take (k + 1) = zs.take k ++ [x] := by rw [List.take_add_one, h]; rfl

set_option maxRecDepth 100000 in
set_option maxHeartbeats 2000000 in
/-- The keys come one by one, in their order; the round is asked to keep what lay ahead. -/
theorem each1_in {α : Type} (enc : α → Int) (F : Fence) (n : Nat) (hf : F.fn 99) (hro : F.round = none) (hn : 1 ≤ n) (lp Bs len cap : Nat) (a : Option Addr) (zs : List α) (w0 : World) (hlen : len ≤ 1048576) (hI : IAt w0 a len (zs.map enc)) (J Jx : List α → World → Prop)
    (hY : ∀ pre x W, J pre W → pre.length < len → YieldAt F (n - 1) Tryz.prog lp #[.int .i64 (enc x)] W fun e W' =>
      (e = .returned (.bool true) ∧ J (pre ++ [x]) W' ∧ Below w0.heap.size W W') ∨ (e = .returned (.bool false) ∧ Jx (pre ++ [x]) W'))
    (W : World) (hB : Below w0.heap.size w0 W) (hBs : W.cell? ⟨Bs, 0, none⟩ = some (.slice a len cap)) (h0 : J [] W) :
    CallsIn F n Tryz.prog 99 #[.func (.yield lp) #[] #[], .pointer (some ⟨Bs, 0, none⟩)] W fun e W' => (∃ v, e = .returned v) ∧
      ((∃ ys, ys = zs ∧ J ys W') ∨ (∃ pre, pre <+: zs ∧ Jx pre W')) := by
  have HI : Hid (IAt w0 a len (zs.map enc)) := hI
  have hzl : zs.length = len := by have := hI.1; simpa using this
  have HZ : Hid (zs.length = len) := hzl
  have HY : Hid (∀ pre x W, J pre W → pre.length < len → YieldAt F (n - 1) Tryz.prog lp #[.int .i64 (enc x)] W fun e W' =>
      (e = .returned (.bool true) ∧ J (pre ++ [x]) W' ∧ Below w0.heap.size W W') ∨ (e = .returned (.bool false) ∧ Jx (pre ++ [x]) W')) := hY
  clear hI hY hzl
  refine callsIn_of_wp Tryz.func99 rfl hf ?_ hro
  simp only [Tryz.ntmps99, List.size_toArray, List.length_cons, List.length_nil, Nat.reduceAdd, Nat.reduceSub, Array.replicate_succ, Array.replicate_zero, List.push_toArray, List.append_toArray, List.nil_append, List.cons_append]
  gi_wp2
  gi_loopw [8] (fun i wr => ∃ k : Nat, k ≤ len ∧ i = .int .i64 k ∧ J (zs.take k) wr ∧ Below w0.heap.size w0 wr)
    (fun i _ => len - (intOf i).toNat)
  case atStart => exact ⟨0, Nat.zero_le _, rfl, by simpa using h0, hB⟩
  case round =>
    obtain ⟨k, hk, rfl, hJs, hnx⟩ := hrel
    by_cases hlt : k < len
    · rcases HI.out.2 with h00 | ⟨b, off, ha, hb, hc⟩
      · omega
      subst ha
      obtain ⟨x, hx⟩ : ∃ x, zs[k]? = some x := ⟨_, List.getElem?_eq_getElem (by rw [HZ.out]; exact hlt)⟩
      have hcx : wr.cell? ⟨b, off + k, none⟩ = some (.int .i64 (enc x)) := by
        rw [(hnx.cell (p := ⟨b, off + k, none⟩) hb).trans (hc k hlt)]
        simp [List.getD, hx]
      obtain ⟨fn, tmps, assign, body, hy, hR⟩ := HY.out _ x wr hJs (by rw [List.length_take, HZ.out]; omega)
      have hki : (k : Int) < (len : Int) := by omega
      clear hc
      gi_wp2
      refine hR.mono ?_
      rintro e W3 (⟨rfl, hJ3, hk3⟩ | ⟨rfl, hJx3⟩)
      · gi_wp2
        go_roundw
        case rel => exact ⟨k + 1, by omega, by go_num, by rw [take_more hx]; exact hJ3, hnx.trans hk3⟩
        case measure => simp [intOf]; omega
      · gi_wp2
        refine bodyPost_ret (results_none rfl _ _ _) rfl ?_
        exact ⟨⟨_, rfl⟩, .inr ⟨_, by rw [← take_more hx]; exact List.take_prefix _ _, hJx3⟩⟩
    · obtain rfl : k = len := by omega
      gi_wp2
      go_end0
      exact ⟨⟨_, rfl⟩, .inl ⟨_, List.take_of_length_le (by rw [HZ.out]; exact Nat.le_refl _), hJs⟩⟩

/-- The iterator's contract. -/
theorem each_stops {α : Type} (enc : α → Int) (F : Fence) (n : Nat) (hf : F.fn 99) (hro : F.round = none) (hn : 1 ≤ n) (Bs len cap : Nat) (a : Option Addr) (zs : List α) (w0 w : World) (hlen : len ≤ 1048576) (hI : IAt w0 a len (zs.map enc)) (hB : Below w0.heap.size w0 w) (hBl : Bs < w.heap.size) (hBs : w.cell? ⟨Bs, 0, none⟩ = some (.slice a len cap)) :
    SeqStopsK F n Tryz.prog 99 #[.pointer (some ⟨Bs, 0, none⟩)] (fun x : α => #[Value.int .i64 (enc x)]) (Below w0.heap.size) (fun ys => ys = zs) (fun pre => pre <+: zs) len w := fun l J Jx W hW _ _ hY h0 =>
  each1_in enc F n hf hro hn l Bs len cap a zs w0 hlen hI J Jx hY W (hB.trans (hW.mono hB.size)) ((hW.cell (p := ⟨Bs, 0, none⟩) hBl).trans hBs) h0

theorem eachKey_any (a : Option Addr) (n cap : Nat) (x y : Int) (w : World) :
    Calls Tryz.prog 82 #[.agg #[.slice a n cap, .int .i64 x, .int .i64 y]] w fun e w' => e = .returned (.func (.func 99) #[] #[.pointer (some ⟨w.heap.size, 0, none⟩)]) ∧ w' = w.alloc (.cells #[.slice a n cap, .int .i64 x, .int .i64 y] 42) := by
  have hmf : ∀ (fn : Fn) (first cap : Array Value) (w : World), (Instr.makeFunc fn first cap).run Tryz.prog w = .ok (.func fn first cap) w := fun _ _ _ _ => rfl
  go_enter Tryz.func82, Tryz.ntmps82
  go_wp2
  go_ret
  exact ⟨rfl, rfl⟩

end Go.Proofs.YtciefdphjkjikaaGreatDoor

namespace Go.Proofs.YtciefdphjkjikaaGreatDoor
open Go.RowKit Go.Shelf Go.Maps Go.WideMaps
attribute [local go_sem] Oper.semAt_some

theorem new1 (W : World) (v : Value) (t : TypeId) : (W.alloc (.cells #[v] t)).cell? ⟨W.heap.size, 0, none⟩ = some v ∧ (W.alloc (.cells #[v] t)).frozen? ⟨W.heap.size, 0, none⟩ = false :=
  ⟨by unfold World.cell?; rw [heap_alloc_new]; rfl, Joins.unfrozen_of_block (heap_alloc_new _ _) 0⟩
theorem kept1 {W : World} {a : Addr} {v : Value} (o : Obj) (h : W.cell? a = some v) : (W.alloc o).cell? a = some v := cell_kept h (World.grownBy_alloc W o none) (fun r e => by cases e)
theorem kept1f {W : World} {a : Addr} {v : Value} (o : Obj) (h : W.cell? a = some v) (hf : W.frozen? a = false) : (W.alloc o).frozen? a = false := (frozen_kept h (World.grownBy_alloc W o none) (fun r e => by cases e)).trans hf

def allK (l : List Int) : Bool := l.all fun k => inB k 1 999
theorem allK_snoc {pre : List Int} {x : Int} (h : allK pre = true) (hx : inB x 1 999 = true) : allK (pre ++ [x]) = true := by simp [allK] at *; exact ⟨h, hx⟩
theorem allK_bad {pre : List Int} {x : Int} (hx : inB x 1 999 = false) : allK (pre ++ [x]) = false := by simp [allK, hx]
theorem allK_pre {pre l : List Int} (h : pre <+: l) (hb : allK pre = false) : allK l = false := by
  obtain ⟨t, rfl⟩ := h
  unfold allK at *
  rw [List.all_append, hb]; rfl

def riseB : Int → List Int → Bool
  | _, [] => true
  | p, k :: t => decide (p < k) && riseB k t
def lastK : Int → List Int → Int
  | p, [] => p
  | _, k :: t => lastK k t
theorem lastK_snoc (p : Int) (l : List Int) (x : Int) : lastK p (l ++ [x]) = x := by
  induction l generalizing p with
  | nil => rfl
  | cons k t ih => exact ih k
theorem riseB_snoc (p : Int) (l : List Int) (x : Int) : riseB p (l ++ [x]) = (riseB p l && decide (lastK p l < x)) := by
  induction l generalizing p with
  | nil => simp only [List.nil_append, riseB, lastK, Bool.and_true, Bool.true_and]; rfl
  | cons k t ih => simp only [List.cons_append, riseB, lastK, ih, Bool.and_assoc]; rfl
theorem riseB_pre {pre l : List Int} (h : pre <+: l) {p : Int} (hb : riseB p pre = false) : riseB p l = false := by
  obtain ⟨t, rfl⟩ := h
  induction pre generalizing p with
  | nil => cases hb
  | cons k r ih =>
    simp only [List.cons_append, riseB] at *
    cases hd : decide (p < k)
    · rfl
    · rw [hd, Bool.true_and] at hb
      rw [Bool.true_and]
      exact ih hb

set_option maxRecDepth 100000 in
set_option maxHeartbeats 2000000 in
theorem areKeys_any (Bs len cap : Nat) (a : Option Addr) (l : List Int) (w0 w : World) (hlen : len ≤ 1048576) (hI : IAt w0 a len l) (hB : Below w0.heap.size w0 w) (hBl : Bs < w.heap.size) (hBs : w.cell? ⟨Bs, 0, none⟩ = some (.slice a len cap)) :
    Calls Tryz.prog 81 #[.func (.func 99) #[] #[.pointer (some ⟨Bs, 0, none⟩)]] w fun e w' => e = .returned (.bool (allK l)) ∧ Below w.heap.size w w' := by
  obtain ⟨r, hr⟩ : ∃ r, r = allK l := ⟨_, rfl⟩
  rw [← hr]
  refine (callsIn_wide (n := 3)).1 ?_
  refine callsIn_of_wp_marks Tryz.func81 rfl trivial ?_ rfl
  simp only [Tryz.ntmps81, List.size_toArray, List.length_cons, List.length_nil, Nat.reduceAdd, Nat.reduceSub, Array.replicate_succ, Array.replicate_zero, List.push_toArray, List.append_toArray, List.nil_append, List.cons_append]
  gi_wp2
  have c0 := new1 w (.bool false) 4
  have hB0 : Below w.heap.size w (w.alloc (.cells #[.bool false] 4)) := below_box _
  have hsz := hB.size
  refine wpIn_rangeFunc_ownF rfl (by omega) (gf := 99) (lb := #[.pointer (some ⟨Bs, 0, none⟩)]) rfl trivial (enters_of Tryz.func99 (by kernel_rfl) rfl)
    (each_stops (fun x : Int => x) Fence.wide (3 - 1) trivial rfl (by omega) Bs len cap a l w0 _ hlen (by simpa using hI) (hB.trans (hB0.mono hsz)) (by simp; omega) ((hB0.cell (p := ⟨Bs, 0, none⟩) hBl).trans hBs)) belowK_t (belowK_b (by simp; omega)) (Below.refl _ _) (fun _ => rfl)
    (fun pre W => (allK pre = true ∧ W.cell? ⟨w.heap.size, 0, none⟩ = some (.bool false) ∧ W.frozen? ⟨w.heap.size, 0, none⟩ = false) ∧ Below w.heap.size w W)
    (fun c pre W => (c = .ret ∧ allK pre = false ∧ W.cell? ⟨w.heap.size, 0, none⟩ = some (.bool false)) ∧ Below w.heap.size w W)
    (OwnFrom.and (Own.from (fun s A B row hs hg hr => ⟨hs.1, cell_kept hs.2.1 hg hr, (frozen_kept hs.2.1 hg hr).trans hs.2.2⟩) _) (ownFrom_below (Nat.le_refl _) (by simp)))
    (fun c => OwnFrom.and (Own.from (fun s A B row hs hg hr => ⟨hs.1, hs.2.1, cell_kept hs.2.2 hg hr⟩) _) (ownFrom_below (Nat.le_refl _) (by simp)))
    ⟨⟨rfl, c0.1, c0.2⟩, hB0⟩
    (fun x => { tmps := #[.func (.func 99) #[] #[.pointer (some ⟨Bs, 0, none⟩)], undef, .pointer (some ⟨w.heap.size, 0, none⟩), .int .i64 x, .func (.func 99) #[] #[.pointer (some ⟨Bs, 0, none⟩)], .int .i64 x, undef, undef, undef], defers := [] }) ?assign ?body ?done ?stop
  case assign =>
    intro l x W K hK
    gi_wp2
    exact hK
  case body =>
    rintro l pre x W ⟨⟨hp, hcr, hfr⟩, hBB⟩ _
    obtain ⟨kb, hkb⟩ : ∃ kb, kb = inB x 1 999 := ⟨_, rfl⟩
    have hkey : ∀ v, Calls Tryz.prog 60 #[.int .i64 x] v fun e w' => e = .returned (.bool kb) ∧ w' = v := fun v => by rw [hkb]; exact isKey_any x v
    have HKB : Hid (kb = inB x 1 999) := hkb
    clear hkb
    cases kb
    · gi_wp2_with (refine ⟨trivial, ?_⟩; gi_at_call 60; refine (CallsIn.inRound l (callsIn_wide.2 (hkey _))).mono ?_; rintro e w' ⟨rfl, hw⟩; have hw2 := hw.symm; subst hw2)
      exact ⟨KeepsOthers.setCell _ _ _, ⟨rfl, allK_bad HKB.out.symm, World.cell?_setCell_same' _ _ _ (by rw [hcr]; rfl)⟩, hBB.setCell (p := ⟨w.heap.size, 0, none⟩) (Nat.le_refl _) _⟩
    · gi_wp2_with (refine ⟨trivial, ?_⟩; gi_at_call 60; refine (CallsIn.inRound l (callsIn_wide.2 (hkey _))).mono ?_; rintro e w' ⟨rfl, hw⟩; have hw2 := hw.symm; subst hw2)
      exact ⟨KeepsOthers.refl _, Below.refl _ _, ⟨allK_snoc hp HKB.out.symm, hcr, hfr⟩, hBB⟩
  case done =>
    rintro D ys W hD rfl ⟨⟨hne, hcr, hfr⟩, hBB⟩ hK
    gi_wp2
    have hK' := (KeepsOthers.setCell W ⟨w.heap.size, 0, none⟩ (.bool true)).same D _ hK rfl
    refine ⟨by simp, .inl ⟨_, _, rfl, run_takeDeferred hK', ?_⟩⟩
    have hc5 := cell_kept (World.cell?_setCell_same' W ⟨w.heap.size, 0, none⟩ (.bool true) (by rw [hcr]; rfl)) (grownBy_putObj' _ D (.deferred none)) (fun r e => by cases e; exact ⟨_, hK', rfl⟩)
    refine ⟨.bool true, ?_, by rw [hr, hne], (hBB.setCell (p := ⟨w.heap.size, 0, none⟩) (Nat.le_refl _) _).trans (belowK_b (w := w) (Nat.le_refl _) _ D _ _ (by simp at hD; omega) hK' rfl rfl)⟩
    simp [results, Tryz.results81, go_sem, hc5]
  case stop =>
    rintro D c pre W hD hpre ⟨⟨rfl, hin, hcr⟩, hBB⟩ hK
    gi_wp2
    refine ⟨by simp, .inl ⟨_, _, rfl, run_takeDeferred hK, ?_⟩⟩
    have hc5 := cell_kept hcr (grownBy_putObj' _ D (.deferred none)) (fun r e => by cases e; exact ⟨_, hK, rfl⟩)
    refine ⟨.bool false, ?_, by rw [hr, allK_pre hpre hin], hBB.trans (belowK_b (w := w) (Nat.le_refl _) W D _ _ (by simp at hD; omega) hK rfl rfl)⟩
    simp [results, Tryz.results81, go_sem, hc5]

set_option maxRecDepth 100000 in
set_option maxHeartbeats 2000000 in
theorem keysRise_any (Bs len cap : Nat) (a : Option Addr) (l : List Int) (w0 w : World) (hlen : len ≤ 1048576) (hI : IAt w0 a len l) (hB : Below w0.heap.size w0 w) (hBl : Bs < w.heap.size) (hBs : w.cell? ⟨Bs, 0, none⟩ = some (.slice a len cap)) :
    Calls Tryz.prog 84 #[.func (.func 99) #[] #[.pointer (some ⟨Bs, 0, none⟩)]] w fun e w' => e = .returned (.bool (riseB 0 l)) ∧ Below w.heap.size w w' := by
  obtain ⟨r, hr⟩ : ∃ r, r = riseB 0 l := ⟨_, rfl⟩
  rw [← hr]
  refine (callsIn_wide (n := 3)).1 ?_
  refine callsIn_of_wp_marks Tryz.func84 rfl trivial ?_ rfl
  simp only [Tryz.ntmps84, List.size_toArray, List.length_cons, List.length_nil, Nat.reduceAdd, Nat.reduceSub, Array.replicate_succ, Array.replicate_zero, List.push_toArray, List.append_toArray, List.nil_append, List.cons_append]
  gi_wp2
  have c0 := new1 w (.bool false) 4
  have c1 := new1 (w.alloc (.cells #[.bool false] 4)) (.int .i64 0) 2
  simp only [World.size_alloc] at c1
  have hB0 : Below w.heap.size w ((w.alloc (.cells #[.bool false] 4)).alloc (.cells #[.int .i64 0] 2)) := below_box2 _ _
  have hsz := hB.size
  refine wpIn_rangeFunc_ownF rfl (by omega) (gf := 99) (lb := #[.pointer (some ⟨Bs, 0, none⟩)]) rfl trivial (enters_of Tryz.func99 (by kernel_rfl) rfl)
    (each_stops (fun x : Int => x) Fence.wide (3 - 1) trivial rfl (by omega) Bs len cap a l w0 _ hlen (by simpa using hI) (hB.trans (hB0.mono hsz)) (by simp; omega) ((hB0.cell (p := ⟨Bs, 0, none⟩) hBl).trans hBs)) belowK_t (belowK_b (by simp; omega)) (Below.refl _ _) (fun _ => rfl)
    (fun pre W => (riseB 0 pre = true ∧ (W.cell? ⟨w.heap.size, 0, none⟩ = some (.bool false) ∧ W.frozen? ⟨w.heap.size, 0, none⟩ = false) ∧ W.cell? ⟨w.heap.size + 1, 0, none⟩ = some (.int .i64 (lastK 0 pre)) ∧ W.frozen? ⟨w.heap.size + 1, 0, none⟩ = false) ∧ Below w.heap.size w W)
    (fun c pre W => (c = .ret ∧ riseB 0 pre = false ∧ W.cell? ⟨w.heap.size, 0, none⟩ = some (.bool false)) ∧ Below w.heap.size w W)
    (OwnFrom.and (Own.from (fun s A B row hs hg hr => ⟨hs.1, ⟨cell_kept hs.2.1.1 hg hr, (frozen_kept hs.2.1.1 hg hr).trans hs.2.1.2⟩, cell_kept hs.2.2.1 hg hr, (frozen_kept hs.2.2.1 hg hr).trans hs.2.2.2⟩) _) (ownFrom_below (Nat.le_refl _) (by simp; omega)))
    (fun c => OwnFrom.and (Own.from (fun s A B row hs hg hr => ⟨hs.1, hs.2.1, cell_kept hs.2.2 hg hr⟩) _) (ownFrom_below (Nat.le_refl _) (by simp; omega)))
    ⟨⟨rfl, ⟨kept1 _ c0.1, kept1f _ c0.1 c0.2⟩, c1.1, c1.2⟩, hB0⟩
    (fun x => { tmps := #[.func (.func 99) #[] #[.pointer (some ⟨Bs, 0, none⟩)], undef, .pointer (some ⟨w.heap.size, 0, none⟩), .pointer (some ⟨w.heap.size + 1, 0, none⟩), .int .i64 x, .func (.func 99) #[] #[.pointer (some ⟨Bs, 0, none⟩)], .int .i64 x, undef, undef, undef, undef], defers := [] }) ?assign ?body ?done ?stop
  case assign =>
    intro l x W K hK
    gi_wp2
    exact hK
  case body =>
    rintro l pre x W ⟨⟨hp, ⟨hcr, hfr⟩, hcl, hfl⟩, hBB⟩ _
    obtain ⟨q, hq⟩ : ∃ q, q = lastK 0 pre := ⟨_, rfl⟩
    rw [← hq] at hcl
    by_cases hx : x ≤ q
    · gi_wp2
      exact ⟨KeepsOthers.setCell _ _ _, ⟨rfl, by rw [riseB_snoc, ← hq, decide_eq_false (by omega), Bool.and_false], World.cell?_setCell_same' _ _ _ (by rw [hcr]; rfl)⟩, hBB.setCell (p := ⟨w.heap.size, 0, none⟩) (Nat.le_refl _) _⟩
    · gi_wp2
      exact ⟨KeepsOthers.setCell _ _ _, (Below.refl _ _).setCell (p := ⟨w.heap.size + 1, 0, none⟩) (show _ ≤ w.heap.size + 1 by omega) _, ⟨by rw [riseB_snoc, ← hq, hp, decide_eq_true (by omega)]; rfl, ⟨(World.cell?_of_block (Below.heap_setCell _ ⟨w.heap.size + 1, 0, none⟩ _ w.heap.size (show w.heap.size ≠ w.heap.size + 1 by omega))).trans hcr, by rw [World.frozen?_setCell]; exact hfr⟩, by rw [lastK_snoc]; exact World.cell?_setCell_same' _ _ _ (by rw [hcl]; rfl), by rw [World.frozen?_setCell]; exact hfl⟩, hBB.setCell (p := ⟨w.heap.size + 1, 0, none⟩) (show _ ≤ w.heap.size + 1 by omega) _⟩
  case done =>
    rintro D ys W hD rfl ⟨⟨hne, ⟨hcr, hfr⟩, _⟩, hBB⟩ hK
    gi_wp2
    have hK' := (KeepsOthers.setCell W ⟨w.heap.size, 0, none⟩ (.bool true)).same D _ hK rfl
    refine ⟨by simp, .inl ⟨_, _, rfl, run_takeDeferred hK', ?_⟩⟩
    have hc5 := cell_kept (World.cell?_setCell_same' W ⟨w.heap.size, 0, none⟩ (.bool true) (by rw [hcr]; rfl)) (grownBy_putObj' _ D (.deferred none)) (fun r e => by cases e; exact ⟨_, hK', rfl⟩)
    refine ⟨.bool true, ?_, by rw [hr, hne], (hBB.setCell (p := ⟨w.heap.size, 0, none⟩) (Nat.le_refl _) _).trans (belowK_b (w := w) (Nat.le_refl _) _ D _ _ (by simp at hD; omega) hK' rfl rfl)⟩
    simp [results, Tryz.results84, go_sem, hc5]
  case stop =>
    rintro D c pre W hD hpre ⟨⟨rfl, hin, hcr⟩, hBB⟩ hK
    gi_wp2
    refine ⟨by simp, .inl ⟨_, _, rfl, run_takeDeferred hK, ?_⟩⟩
    have hc5 := cell_kept hcr (grownBy_putObj' _ D (.deferred none)) (fun r e => by cases e; exact ⟨_, hK, rfl⟩)
    refine ⟨.bool false, ?_, by rw [hr, riseB_pre hpre hin], hBB.trans (belowK_b (w := w) (Nat.le_refl _) W D _ _ (by simp at hD; omega) hK rfl rfl)⟩
    simp [results, Tryz.results84, go_sem, hc5]

end Go.Proofs.YtciefdphjkjikaaGreatDoor

namespace Go.Proofs.YtciefdphjkjikaaGreatDoor
open Go.RowKit Go.Shelf Go.Maps Go.WideMaps

def ruleR (l : List Int) (x y : Int) : Int :=
  if inB l.length 1 3 = false then 2 else if allK l = false ∨ inB x 1 l.length = false ∨ inB y 0 999 = false then 3 else if riseB 0 l = false then 1 else 0

section
variable {l : List Int} {x y : Int} {n : Nat}
theorem ruleR_many (hn : l.length = n) (h : inB n 1 3 = false) : ruleR l x y = 2 := by unfold ruleR; rw [hn, if_pos h]
theorem ruleR_range (hn : l.length = n) (h : inB n 1 3 = true) (h2 : allK l = false ∨ inB x 1 n = false ∨ inB y 0 999 = false) : ruleR l x y = 3 := by unfold ruleR; rw [hn, if_neg (by simp [h]), if_pos h2]
theorem ruleR_form (hn : l.length = n) (h : inB n 1 3 = true) (h1 : allK l = true) (h2 : inB x 1 n = true) (h3 : inB y 0 999 = true) (h4 : riseB 0 l = false) : ruleR l x y = 1 := by unfold ruleR; rw [hn, if_neg (by simp [h]), if_neg (by simp [h1, h2, h3]), if_pos h4]
theorem ruleR_ok (hn : l.length = n) (h : inB n 1 3 = true) (h1 : allK l = true) (h2 : inB x 1 n = true) (h3 : inB y 0 999 = true) (h4 : riseB 0 l = true) : ruleR l x y = 0 := by unfold ruleR; rw [hn, if_neg (by simp [h]), if_neg (by simp [h1, h2, h3]), if_neg (by simp [h4])]
end

theorem take_next {l : List Int} {n k : Nat} (hn : l.length = n) (hlt : k < n) {s : Int} (hs : s = l.getD k 0) : l.take (k + 1) = l.take k ++ [s] :=
  take_more (by rw [hs]; simp [List.getD, show k < l.length by omega])
theorem take_all {l : List Int} {n k : Nat} (hn : l.length = n) (h : ¬ k < n) : l.take k = l := List.take_of_length_le (by omega)
theorem lastK_take {l : List Int} {n k : Nat} (hn : l.length = n) (hk : k < n) {s : Int} (hs : s = l.getD k 0) : lastK 0 (l.take (k + 1)) = s := by rw [take_next hn hk hs, lastK_snoc]
theorem riseB_one {l : List Int} {n : Nat} (hn : l.length = n) (h : inB n 1 3 = true) (ha : allK l = true) : riseB 0 (l.take 1) = true := by
  have := inB_true.1 h
  match l, hn with
  | [], hn => simp at hn; omega
  | k :: t, _ =>
    simp [allK] at ha
    have := inB_true.1 ha.1
    simp [riseB]
    omega

theorem l2Height_any (v : Int) (w : World) : Calls Tryz.prog 98 #[.int .i64 v] w fun e w' => e = .returned (.bool (inB v 0 999)) ∧ w' = w := by
  go_enter Tryz.func98, Tryz.ntmps98
  go_wp2_with (go_at_call 55; refine (l1In_any _ _ _ _).mono ?_; rintro e w' ⟨rfl, hw⟩; have hw2 := hw.symm; subst hw2)
  go_ret
  exact ⟨rfl, rfl⟩
theorem isHeight_any (v : Int) (w : World) : Calls Tryz.prog 83 #[.int .i64 v] w fun e w' => e = .returned (.bool (inB v 0 999)) ∧ w' = w := by
  go_enter Tryz.func83, Tryz.ntmps83
  go_wp2_with (go_at_call 61; refine (isWithin_any _ _ _ _).mono ?_; rintro e w' ⟨rfl, hw⟩; have hw2 := hw.symm; subst hw2)
  go_ret
  exact ⟨rfl, rfl⟩

set_option maxRecDepth 20000 in
set_option maxHeartbeats 2000000 in
theorem l2Fault_any (P n cap : Nat) (a : Option Addr) (l : List Int) (x y : Int) (w : World) (hl : n ≤ 1048576) (hI : IAt w a n l) (hP : w.heap[P]? = some (.cells #[.slice a n cap, .int .i64 x, .int .i64 y] 42 (0, 0))) :
    Calls Tryz.prog 79 #[.pointer (some ⟨P, 0, none⟩)] w fun e w' => e = .returned (.int .i64 (ruleR l x y)) ∧ Below w.heap.size w w' := by
  have HI : Hid (IAt w a n l) := hI
  have HN : Hid (l.length = n) := hI.1
  obtain ⟨p0, p1, p2⟩ := cells3 hP
  have hPl := lt_of_block hP
  obtain ⟨b1, hb1⟩ : ∃ b, b = inB n 1 3 := ⟨_, rfl⟩
  obtain ⟨kb, hkb⟩ : ∃ b, b = inB x 1 n := ⟨_, rfl⟩
  obtain ⟨kc, hkc⟩ : ∃ b, b = inB y 0 999 := ⟨_, rfl⟩
  have hW1 : ∀ v, Calls Tryz.prog 55 #[.int .i64 n, .int .i64 1, .int .i64 3] v fun e w' => e = .returned (.bool b1) ∧ w' = v := fun v => by rw [hb1]; exact l1In_any _ _ _ v
  have hW2 : ∀ v, Calls Tryz.prog 55 #[.int .i64 x, .int .i64 1, .int .i64 n] v fun e w' => e = .returned (.bool kb) ∧ w' = v := fun v => by rw [hkb]; exact l1In_any _ _ _ v
  have hW3 : ∀ v, Calls Tryz.prog 98 #[.int .i64 y] v fun e w' => e = .returned (.bool kc) ∧ w' = v := fun v => by rw [hkc]; exact l2Height_any _ v
  have HB1 : Hid (b1 = inB n 1 3) := hb1
  have HKB : Hid (kb = inB x 1 n) := hkb
  have HKC : Hid (kc = inB y 0 999) := hkc
  obtain ⟨r, hr⟩ : ∃ r, r = ruleR l x y := ⟨_, rfl⟩
  rw [← hr]
  have HR : Hid (r = ruleR l x y) := hr
  clear hI hP hb1 hkb hkc hr
  cases b1
  · obtain rfl : r = 2 := by rw [HR.out]; exact ruleR_many HN.out HB1.out.symm
    go_enter Tryz.func79, Tryz.ntmps79
    go_wp2_with (go_at_call 55; refine (hW1 _).mono ?_; rintro e w' ⟨rfl, hw⟩; have hw2 := hw.symm; subst hw2)
    go_ret
    exact ⟨rfl, Below.refl _ _⟩
  · go_enter Tryz.func79, Tryz.ntmps79
    go_wp2_with (go_at_call 55; refine (hW1 _).mono ?_; rintro e w' ⟨rfl, hw⟩; have hw2 := hw.symm; subst hw2)
    go_loop [4] (fun i => ∃ k : Nat, k ≤ n ∧ i = .int .i64 k ∧ Hid (allK (l.take k) = true)) (fun i => n - (intOf i).toNat)
    case atStart => exact ⟨0, Nat.zero_le _, rfl, by show _ = _; simp [allK]⟩
    case round =>
      obtain ⟨k, hk, rfl, HT⟩ := hrel
      by_cases hlt : k < n
      · rcases HI.out.2 with h0 | ⟨b0, o0, e0, l0, d0⟩
        · omega
        subst e0
        obtain ⟨s, hs⟩ : ∃ s, s = l.getD k 0 := ⟨_, rfl⟩
        have x0 := d0 k hlt
        rw [← hs] at x0
        have HS : Hid (s = l.getD k 0) := hs
        obtain ⟨ks, hks⟩ : ∃ b, b = inB s 1 999 := ⟨_, rfl⟩
        have hkey : ∀ v, Calls Tryz.prog 56 #[.int .i64 s] v fun e w' => e = .returned (.bool ks) ∧ w' = v := fun v => by rw [hks]; exact l1Key_any s v
        have HKS : Hid (ks = inB s 1 999) := hks
        clear hs d0 hks
        have hki : (k : Int) < (n : Int) := by omega
        cases ks
        · obtain rfl : r = 3 := by
            rw [HR.out]
            refine ruleR_range HN.out HB1.out.symm (.inl (allK_pre (pre := l.take (k + 1)) (List.take_prefix _ _) ?_))
            rw [take_next HN.out hlt HS.out]; exact allK_bad HKS.out.symm
          go_wp2_with (go_at_call 56; refine (hkey _).mono ?_; rintro e w' ⟨rfl, hw⟩; have hw2 := hw.symm; subst hw2)
          go_ret
          exact ⟨rfl, Below.refl _ _⟩
        · go_wp2_with (go_at_call 56; refine (hkey _).mono ?_; rintro e w' ⟨rfl, hw⟩; have hw2 := hw.symm; subst hw2)
          go_round
          case rel => exact ⟨k + 1, by omega, by go_num, by show _ = _; rw [take_next HN.out hlt HS.out]; exact allK_snoc HT.out HKS.out.symm⟩
          case measure => simp [intOf]; omega
      · have HALL : Hid (allK l = true) := by have := HT.out; rw [take_all HN.out hlt] at this; exact this
        clear HT
        cases kb
        · obtain rfl : r = 3 := by rw [HR.out]; exact ruleR_range HN.out HB1.out.symm (.inr (.inl HKB.out.symm))
          go_wp2_with (go_at_call 55; refine (hW2 _).mono ?_; rintro e w' ⟨rfl, hw⟩; have hw2 := hw.symm; subst hw2)
          go_ret
          exact ⟨rfl, Below.refl _ _⟩
        · cases kc
          · obtain rfl : r = 3 := by rw [HR.out]; exact ruleR_range HN.out HB1.out.symm (.inr (.inr HKC.out.symm))
            go_wp2_with (first | (go_at_call 55; refine (hW2 _).mono ?_; rintro e w' ⟨rfl, hw⟩; have hw2 := hw.symm; subst hw2) | (go_at_call 98; refine (hW3 _).mono ?_; rintro e w' ⟨rfl, hw⟩; have hw2 := hw.symm; subst hw2))
            go_ret
            exact ⟨rfl, Below.refl _ _⟩
          · go_wp2_with (first | (go_at_call 55; refine (hW2 _).mono ?_; rintro e w' ⟨rfl, hw⟩; have hw2 := hw.symm; subst hw2) | (go_at_call 98; refine (hW3 _).mono ?_; rintro e w' ⟨rfl, hw⟩; have hw2 := hw.symm; subst hw2))
            go_loopw [5] (fun i wr => ∃ j : Nat, j + 1 ≤ n ∧ i = .int .i64 ((j : Int) + 1) ∧ Hid (riseB 0 (l.take (j + 1)) = true) ∧ Below w.heap.size w wr) (fun i _ => n - (intOf i).toNat)
            case atStart => exact ⟨0, by have := inB_true.1 HB1.out.symm; omega, by go_num, riseB_one HN.out HB1.out.symm HALL.out, Below.refl _ _⟩
            case round =>
              obtain ⟨j, hj, rfl, HT, hbel⟩ := hrel
              by_cases hlt2 : j + 1 < n
              · rcases HI.out.2 with h0 | ⟨b0, o0, e0, l0, d0⟩
                · omega
                subst e0
                obtain ⟨s, hs⟩ : ∃ s, s = l.getD (j + 1) 0 := ⟨_, rfl⟩
                obtain ⟨t, ht⟩ : ∃ t, t = l.getD j 0 := ⟨_, rfl⟩
                have x0 := (hbel.cell (p := ⟨b0, o0 + (j + 1), none⟩) l0).trans (d0 (j + 1) hlt2)
                have x1 := (hbel.cell (p := ⟨b0, o0 + j, none⟩) l0).trans (d0 j (by omega))
                rw [← hs] at x0
                rw [← ht] at x1
                have HS : Hid (s = l.getD (j + 1) 0) := hs
                have HTT : Hid (t = l.getD j 0) := ht
                clear hs ht d0
                have y0 := (hbel.cell (p := ⟨P, 0, none⟩) hPl).trans p0
                have hki : (j : Int) + 1 < (n : Int) := by omega
                have hkj : (j : Int) < (n : Int) := by omega
                by_cases hst : s ≤ t
                · obtain rfl : r = 1 := by
                    rw [HR.out]
                    refine ruleR_form HN.out HB1.out.symm HALL.out HKB.out.symm HKC.out.symm (riseB_pre (pre := l.take (j + 1 + 1)) (List.take_prefix _ _) ?_)
                    rw [take_next HN.out hlt2 HS.out, riseB_snoc, lastK_take HN.out (by omega) HTT.out, decide_eq_false (by omega), Bool.and_false]
                  go_wp2
                  go_quiet (fail)
                  go_wp2
                  go_ret
                  exact ⟨rfl, hbel.trans (Joins.below_draws _ _ _)⟩
                · go_wp2
                  go_quiet (fail)
                  go_wp2
                  go_roundw
                  case rel => exact ⟨j + 1, by omega, by go_num, by show _ = _; rw [take_next HN.out hlt2 HS.out, riseB_snoc, lastK_take HN.out (by omega) HTT.out, HT.out, decide_eq_true (by omega)]; rfl, hbel.trans (Joins.below_draws _ _ _)⟩
                  case measure => simp [intOf]; omega
              · have y0 := (hbel.cell (p := ⟨P, 0, none⟩) hPl).trans p0
                obtain rfl : r = 0 := by
                  have := HT.out
                  rw [take_all HN.out hlt2] at this
                  rw [HR.out]; exact ruleR_ok HN.out HB1.out.symm HALL.out HKB.out.symm HKC.out.symm this
                have hki : ¬ (j : Int) + 1 < (n : Int) := by omega
                go_wp2
                go_ret
                exact ⟨rfl, hbel⟩

end Go.Proofs.YtciefdphjkjikaaGreatDoor

namespace Go.Proofs.YtciefdphjkjikaaGreatDoor
open Go.RowKit Go.Shelf Go.Maps Go.WideMaps

/-- A rule in a block of its own, all old memory below as it was. -/
structure RBx (w v : World) (a : Option Addr) (n cap : Nat) (x y : Int) (t : TypeId) : Prop where
  box : v.heap[w.heap.size]? = some (.cells #[.slice a n cap, .int .i64 x, .int .i64 y] t (0, 0))
  bel : Below w.heap.size w v
section
variable {w v v' : World} {a : Option Addr} {n cap : Nat} {x y : Int} {t : TypeId} {l : List Int}
theorem RBx.start : RBx w (w.alloc (.cells #[.slice a n cap, .int .i64 x, .int .i64 y] t)) a n cap x y t := ⟨heap_alloc_new _ _, below_box _⟩
theorem RBx.step (h : RBx w v a n cap x y t) (hb : Below v.heap.size v v') : RBx w v' a n cap x y t := ⟨(keepb h.box hb).out, h.bel.trans (hb.mono h.bel.size)⟩
theorem RBx.lt (h : RBx w v a n cap x y t) : w.heap.size < v.heap.size := lt_of_block h.box
end

/-- The iterator over the rule's keys, and what ranges over it, whatever world it is. -/
theorem keys_go {w v : World} {a : Option Addr} {n cap : Nat} {x y : Int} {l : List Int} (h : RBx w v a n cap x y 42) (hl : n ≤ 1048576) (hI : IAt w a n l) :
    Hid (Calls Tryz.prog 81 #[.func (.func 99) #[] #[.pointer (some ⟨v.heap.size, 0, none⟩)]] (v.alloc (.cells #[.slice a n cap, .int .i64 x, .int .i64 y] 42)) fun e w' => e = .returned (.bool (allK l)) ∧ Hid (RBx w w' a n cap x y 42)) ∧
    Hid (Calls Tryz.prog 84 #[.func (.func 99) #[] #[.pointer (some ⟨v.heap.size, 0, none⟩)]] (v.alloc (.cells #[.slice a n cap, .int .i64 x, .int .i64 y] 42)) fun e w' => e = .returned (.bool (riseB 0 l)) ∧ Hid (RBx w w' a n cap x y 42)) := by
  have hb : Below v.heap.size v (v.alloc (.cells #[.slice a n cap, .int .i64 x, .int .i64 y] 42)) := below_box _
  have h2 := h.step hb
  have hc := (cells3 (heap_alloc_new v (.cells #[.slice a n cap, .int .i64 x, .int .i64 y] 42))).1
  exact ⟨(areKeys_any v.heap.size n cap a l w _ hl hI h2.bel (by simp) hc).mono fun e w' ⟨e1, e2⟩ => ⟨e1, h2.step e2⟩, (keysRise_any v.heap.size n cap a l w _ hl hI h2.bel (by simp) hc).mono fun e w' ⟨e1, e2⟩ => ⟨e1, h2.step e2⟩⟩

set_option maxRecDepth 20000 in
set_option maxHeartbeats 2000000 in
theorem iRuleFault_any (n cap : Nat) (a : Option Addr) (l : List Int) (x y : Int) (w : World) (hl : n ≤ 1048576) (hI : IAt w a n l) :
    Calls Tryz.prog 64 #[.agg #[.slice a n cap, .int .i64 x, .int .i64 y]] w fun e w' => e = .returned (.int .i64 (ruleR l x y)) ∧ Below w.heap.size w w' := by
  have HI : Hid (IAt w a n l) := hI
  have HN : Hid (l.length = n) := hI.1
  have B0 : RBx w (w.alloc (.cells #[.slice a n cap, .int .i64 x, .int .i64 y] 42)) a n cap x y 42 := RBx.start
  obtain ⟨HG, _⟩ := keys_go B0 hl hI
  have HB0 : Hid (Below w.heap.size w (w.alloc (.cells #[.slice a n cap, .int .i64 x, .int .i64 y] 42))) := B0.bel
  obtain ⟨b1, hb1⟩ : ∃ b, b = inB n 1 3 := ⟨_, rfl⟩
  obtain ⟨ka, hka⟩ : ∃ b, b = allK l := ⟨_, rfl⟩
  obtain ⟨kr, hkr⟩ : ∃ b, b = riseB 0 l := ⟨_, rfl⟩
  obtain ⟨kb, hkb⟩ : ∃ b, b = inB x 1 n := ⟨_, rfl⟩
  obtain ⟨kc, hkc⟩ : ∃ b, b = inB y 0 999 := ⟨_, rfl⟩
  have hW1 : ∀ v, Calls Tryz.prog 61 #[.int .i64 n, .int .i64 1, .int .i64 3] v fun e w' => e = .returned (.bool b1) ∧ w' = v := fun v => by rw [hb1]; exact isWithin_any _ _ _ v
  have hW2 : ∀ v, Calls Tryz.prog 61 #[.int .i64 x, .int .i64 1, .int .i64 n] v fun e w' => e = .returned (.bool kb) ∧ w' = v := fun v => by rw [hkb]; exact isWithin_any _ _ _ v
  have hW3 : ∀ v, Calls Tryz.prog 83 #[.int .i64 y] v fun e w' => e = .returned (.bool kc) ∧ w' = v := fun v => by rw [hkc]; exact isHeight_any _ v
  have hak := HG.out
  rw [World.size_alloc, ← hka] at hak
  have hrise : ∀ v, RBx w v a n cap x y 42 → Hid (Calls Tryz.prog 84 #[.func (.func 99) #[] #[.pointer (some ⟨v.heap.size, 0, none⟩)]] (v.alloc (.cells #[.slice a n cap, .int .i64 x, .int .i64 y] 42)) fun e w' => e = .returned (.bool kr) ∧ Hid (RBx w w' a n cap x y 42)) := fun v hv => by rw [hkr]; exact (keys_go hv hl HI.out).2
  have HRS : Hid (∀ v, RBx w v a n cap x y 42 → Hid (Calls Tryz.prog 84 #[.func (.func 99) #[] #[.pointer (some ⟨v.heap.size, 0, none⟩)]] (v.alloc (.cells #[.slice a n cap, .int .i64 x, .int .i64 y] 42)) fun e w' => e = .returned (.bool kr) ∧ Hid (RBx w w' a n cap x y 42))) := hrise
  have HB1 : Hid (b1 = inB n 1 3) := hb1
  have HKA : Hid (ka = allK l) := hka
  have HKR : Hid (kr = riseB 0 l) := hkr
  have HKB : Hid (kb = inB x 1 n) := hkb
  have HKC : Hid (kc = inB y 0 999) := hkc
  obtain ⟨r, hr⟩ : ∃ r, r = ruleR l x y := ⟨_, rfl⟩
  rw [← hr]
  have HR : Hid (r = ruleR l x y) := hr
  clear hI hb1 hka hkr hkb hkc hr hrise HG B0
  cases b1
  · obtain rfl : r = 2 := by rw [HR.out]; exact ruleR_many HN.out HB1.out.symm
    go_enter Tryz.func64, Tryz.ntmps64
    go_wp2_with (go_at_call 61; refine (hW1 _).mono ?_; rintro e w' ⟨rfl, hw⟩; have hw2 := hw.symm; subst hw2)
    go_ret
    exact ⟨rfl, HB0.out⟩
  cases ka
  · obtain rfl : r = 3 := by rw [HR.out]; exact ruleR_range HN.out HB1.out.symm (.inl HKA.out.symm)
    go_enter Tryz.func64, Tryz.ntmps64
    go_wp2_with (first
      | (go_at_call 61; refine (hW1 _).mono ?_; rintro e w' ⟨rfl, hw⟩; have hw2 := hw.symm; subst hw2)
      | (go_at_call 82; refine (eachKey_any _ _ _ _ _ _).mono ?_; rintro e w' ⟨rfl, hw⟩; subst hw)
      | (go_at_call 81; refine hak.mono ?_; rintro e w2 ⟨rfl, HB2⟩; obtain ⟨p0, p1, p2⟩ := cells3 HB2.out.box))
    go_ret
    exact ⟨rfl, HB2.out.bel⟩
  cases kb
  · obtain rfl : r = 3 := by rw [HR.out]; exact ruleR_range HN.out HB1.out.symm (.inr (.inl HKB.out.symm))
    go_enter Tryz.func64, Tryz.ntmps64
    go_wp2_with (first
      | (go_at_call 61; (first | (refine (hW1 _).mono ?_; clear hW1) | refine (hW2 _).mono ?_); rintro e w' ⟨rfl, hw⟩; have hw2 := hw.symm; subst hw2)
      | (go_at_call 82; refine (eachKey_any _ _ _ _ _ _).mono ?_; rintro e w' ⟨rfl, hw⟩; subst hw)
      | (go_at_call 81; refine hak.mono ?_; rintro e w2 ⟨rfl, HB2⟩; obtain ⟨p0, p1, p2⟩ := cells3 HB2.out.box))
    go_ret
    exact ⟨rfl, HB2.out.bel⟩
  cases kc
  · obtain rfl : r = 3 := by rw [HR.out]; exact ruleR_range HN.out HB1.out.symm (.inr (.inr HKC.out.symm))
    go_enter Tryz.func64, Tryz.ntmps64
    go_wp2_with (first
      | (go_at_call 61; (first | (refine (hW1 _).mono ?_; clear hW1) | refine (hW2 _).mono ?_); rintro e w' ⟨rfl, hw⟩; have hw2 := hw.symm; subst hw2)
      | (go_at_call 82; refine (eachKey_any _ _ _ _ _ _).mono ?_; rintro e w' ⟨rfl, hw⟩; subst hw)
      | (go_at_call 83; refine (hW3 _).mono ?_; rintro e w' ⟨rfl, hw⟩; have hw2 := hw.symm; subst hw2)
      | (go_at_call 81; refine hak.mono ?_; rintro e w2 ⟨rfl, HB2⟩; obtain ⟨p0, p1, p2⟩ := cells3 HB2.out.box))
    go_ret
    exact ⟨rfl, HB2.out.bel⟩
  cases kr
  · obtain rfl : r = 1 := by rw [HR.out]; exact ruleR_form HN.out HB1.out.symm HKA.out.symm HKB.out.symm HKC.out.symm HKR.out.symm
    go_enter Tryz.func64, Tryz.ntmps64
    go_wp2_with (first
      | (go_at_call 61; (first | (refine (hW1 _).mono ?_; clear hW1) | refine (hW2 _).mono ?_); rintro e w' ⟨rfl, hw⟩; have hw2 := hw.symm; subst hw2)
      | (go_at_call 82; refine (eachKey_any _ _ _ _ _ _).mono ?_; rintro e w' ⟨rfl, hw⟩; subst hw)
      | (go_at_call 83; refine (hW3 _).mono ?_; rintro e w' ⟨rfl, hw⟩; have hw2 := hw.symm; subst hw2)
      | (go_at_call 81; refine hak.mono ?_; rintro e w2 ⟨rfl, HB2⟩; obtain ⟨p0, p1, p2⟩ := cells3 HB2.out.box; have hri := HRS.out _ HB2.out)
      | (go_at_call 84; refine hri.out.mono ?_; rintro e w4 ⟨rfl, HB4⟩))
    go_ret
    exact ⟨rfl, HB4.out.bel⟩
  · obtain rfl : r = 0 := by rw [HR.out]; exact ruleR_ok HN.out HB1.out.symm HKA.out.symm HKB.out.symm HKC.out.symm HKR.out.symm
    go_enter Tryz.func64, Tryz.ntmps64
    go_wp2_with (first
      | (go_at_call 61; (first | (refine (hW1 _).mono ?_; clear hW1) | refine (hW2 _).mono ?_); rintro e w' ⟨rfl, hw⟩; have hw2 := hw.symm; subst hw2)
      | (go_at_call 82; refine (eachKey_any _ _ _ _ _ _).mono ?_; rintro e w' ⟨rfl, hw⟩; subst hw)
      | (go_at_call 83; refine (hW3 _).mono ?_; rintro e w' ⟨rfl, hw⟩; have hw2 := hw.symm; subst hw2)
      | (go_at_call 81; refine hak.mono ?_; rintro e w2 ⟨rfl, HB2⟩; obtain ⟨p0, p1, p2⟩ := cells3 HB2.out.box; have hri := HRS.out _ HB2.out)
      | (go_at_call 84; refine hri.out.mono ?_; rintro e w4 ⟨rfl, HB4⟩))
    go_ret
    exact ⟨rfl, HB4.out.bel⟩

end Go.Proofs.YtciefdphjkjikaaGreatDoor

namespace Go.Proofs.YtciefdphjkjikaaGreatDoor
open Go.RowKit Go.Maps

theorem Tryz.infoRef : (Tryz.prog.info? 65).map (fun i => (i.zero, i.size, i.bytes)) = some (some (.agg #[.int .i64 0, .int .i64 0]), 2, 16) := by kernel_rfl

end Go.Proofs.YtciefdphjkjikaaGreatDoor

namespace Go.Proofs.YtciefdphjkjikaaGreatDoor
open Go.RowKit Go.Maps

structure Ou where
  v : Int
  l : List Int
  x : Int
  y : Int
def O0 : Ou := ⟨0, [], 0, 0⟩

/-- What a slice of outs leads to: four cells each, the keys behind the second. -/
def OAt (w : World) (a : Option Addr) (n : Nat) (os : List Ou) : Prop :=
  os.length = n ∧ (n = 0 ∨ ∃ b off, a = some ⟨b, off, none⟩ ∧ b < w.heap.size ∧ ∀ j, j < n → ∃ ka kn kc, w.cell? ⟨b, off + j * 4, none⟩ = some (.int .i64 (os.getD j O0).v) ∧ w.cell? ⟨b, off + j * 4 + 1, none⟩ = some (.slice ka kn kc) ∧
    w.cell? ⟨b, off + j * 4 + 2, none⟩ = some (.int .i64 (os.getD j O0).x) ∧ w.cell? ⟨b, off + j * 4 + 3, none⟩ = some (.int .i64 (os.getD j O0).y) ∧ kn ≤ maxLen ∧ IAt w ka kn (os.getD j O0).l)

theorem OAt.below {w w' : World} {a : Option Addr} {n : Nat} {os : List Ou} (h : OAt w a n os) {B : Nat} (hb : Below B w w') (hB : w.heap.size ≤ B) : OAt w' a n os := by
  obtain ⟨hn, h | ⟨b, off, rfl, hlt, hc⟩⟩ := h
  · exact ⟨hn, .inl h⟩
  · refine ⟨hn, .inr ⟨b, off, rfl, Nat.lt_of_lt_of_le hlt hb.size, fun j hj => ?_⟩⟩
    obtain ⟨ka, kn, kc, h0, h1, h2, h3, h4, h5⟩ := hc j hj
    have hl := Nat.lt_of_lt_of_le hlt hB
    exact ⟨ka, kn, kc, (hb.cell (p := ⟨b, off + j * 4, none⟩) hl).trans h0, (hb.cell (p := ⟨b, off + j * 4 + 1, none⟩) hl).trans h1, (hb.cell (p := ⟨b, off + j * 4 + 2, none⟩) hl).trans h2, (hb.cell (p := ⟨b, off + j * 4 + 3, none⟩) hl).trans h3, h4, h5.below hb hB⟩

end Go.Proofs.YtciefdphjkjikaaGreatDoor

namespace Go.Proofs.YtciefdphjkjikaaGreatDoor
open Go.RowKit Go.Maps Go.WideMaps

theorem Tryz.infoOut : (Tryz.prog.info? 44).map (fun i => (i.zero, i.size, i.bytes)) = some (some (.agg #[.int .i64 0, .slice none 0 0, .int .i64 0, .int .i64 0]), 4, 48) := by kernel_rfl

theorem res4 {w w2 : World} {b B : Nat} {c0 c1 c2 c3 : Value} {t : TypeId} (h : w.heap[b]? = some (.cells #[c0, c1, c2, c3] t (0, 0))) (hb : Below B w w2) (hB : b < B) :
    (w2.cell? ⟨b, 0, none⟩ = some c0 ∧ w2.cell? ⟨b, 1, none⟩ = some c1 ∧ w2.cell? ⟨b, 2, none⟩ = some c2 ∧ w2.cell? ⟨b, 3, none⟩ = some c3 ∧ w2.frozen? ⟨b, 0, none⟩ = false ∧ w2.frozen? ⟨b, 1, none⟩ = false ∧ w2.frozen? ⟨b, 2, none⟩ = false ∧ w2.frozen? ⟨b, 3, none⟩ = false) ∧ Hid (w2.heap[b]? = some (.cells #[c0, c1, c2, c3] t (0, 0))) := by
  have h2 := (hb.block b hB).trans h
  exact ⟨cells4 h2, h2⟩

end Go.Proofs.YtciefdphjkjikaaGreatDoor

namespace Go.Proofs.YtciefdphjkjikaaGreatDoor
open Go.RowKit Go.Maps Go.WideMaps

end Go.Proofs.YtciefdphjkjikaaGreatDoor

namespace Go.Proofs.YtciefdphjkjikaaGreatDoor
open Go.RowKit Go.Maps Go.WideMaps

/-- What is known of a transaction: its refs and its outs. -/
structure TxAt (w : World) (ia : Option Addr) (n : Nat) (oa : Option Addr) (m : Nat) (rs : List (Int × Int)) (os : List Ou) : Prop where
  r : GAt w ia n rs
  o : OAt w oa m os
theorem TxAt.below {w w' : World} {ia oa : Option Addr} {n m : Nat} {rs : List (Int × Int)} {os : List Ou} (h : TxAt w ia n oa m rs os) {B : Nat} (hb : Below B w w') (hB : w.heap.size ≤ B) : TxAt w' ia n oa m rs os := ⟨h.r.below hb hB, h.o.below hb hB⟩

end Go.Proofs.YtciefdphjkjikaaGreatDoor

namespace Go.Proofs.YtciefdphjkjikaaGreatDoor
open Go.RowKit Go.Maps Go.WideMaps


end Go.Proofs.YtciefdphjkjikaaGreatDoor
