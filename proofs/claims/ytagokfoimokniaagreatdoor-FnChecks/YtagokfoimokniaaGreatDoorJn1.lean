/- Plain mathematics of the ledger: what a list of texts and a list of signatures answer when they are asked for faults, element by element, and the number of an element in a list. No program is named here. Closed facts of the translation, and what it says that a slice value leads to a list of texts or of signatures. The program's two-way tables: a slice of what is noted and a map from it to its number, behind a pointer; what their methods do. What the program's own reading of a ledger comes to: the tables of its texts, or the first fault. The program's table of signatures, as the one of texts. A new signature is put into the table: the slice one longer, the map one more. What the program's own reading of the signatures comes to. What the program's own reading of a whole ledger comes to: the two tables, or its fault. What the specification's own functions of chapter 1 answer, and that they write nothing that was there. The specification's fault of a ledger: two loops, one over the texts, one over the signatures. What the laws' own helpers do with a ledger that came in: its size is told, it is copied into new memory, two are compared. The laws' own copies and comparisons of ledgers. The laws' own copies and comparisons of signatures and of whole ledgers. The laws' own copies, sizes and comparisons of whole ledgers. The program's fault of a ledger is the specification's, and the law that asks it answers true. What IdOf and TextOf and HasSign answer: the specification's and the program's. The law on IdOf answers true, whatever ledger and text come in, and writes nothing that was there. What TextOf and HasSign answer: the specification's and the program's. The marks that the laws write into lists, and the looks that they are there. The marks of signatures and numbers, and of whole ledgers. The marks of whole ledgers and of results that hold one; results compared. What SignsOf answers: the specification's and the program's. What the specification's SignsOf answers. The marks of lists of numbers, and results that hold one compared. The specification's copy of a ledger; the program's tables handed out as a ledger. The specification's copy of a ledger: two rows of new memory. What a result with a ledger is, and what the specification's NoteText answers. A new text in the table, and what of other memory stays. What the program's NoteText answers. The draws: numbers that the bytes of a code make. -/
import Derived.Maps.OwnSet
import Derived.Test.YtagokfoimokniaaGreatDoorProg
import Derived.WalkKit
import Derived.WalkSpells
import Derived.WalkLawsBesides
import Derived.Maps.Own
import Derived.Maps.OwnOps
import Derived.Lib.SmallJoins
import Derived.Deep.QuietTactic
import Derived.BigQuiet
import Derived.Deep.RegionHeld3
import Derived.Deep.AppendLies
import Derived.DeepKeys4
import Derived.Deep.DrawnRows
import Derived.Deep.RegionLaw
namespace Go.Proofs.YtagokfoimokniaaGreatDoor

/-- The number of x in l: its first place and 1; 0: it is not there. -/
def num {A : Type} [DecidableEq A] : List A → A → Nat
  | [], _ => 0
  | y :: l, x => if y = x then 1 else if num l x = 0 then 0 else num l x + 1

section
variable {A : Type} [DecidableEq A]

theorem num_zero (l : List A) (x : A) : num l x = 0 ↔ x ∉ l := by
  induction l with
  | nil => simp [num]
  | cons y l ih =>
    unfold num
    by_cases h : y = x
    · simp [h]
    · by_cases h2 : num l x = 0
      · have := ih.1 h2
        simp [h, h2]
        exact ⟨fun e => h e.symm, this⟩
      · have h3 : x ∈ l := Classical.byContradiction fun hn => h2 (ih.2 hn)
        simp [h, h2, h3]

theorem num_le (l : List A) (x : A) : num l x ≤ l.length := by
  induction l with
  | nil => simp [num]
  | cons y l ih =>
    unfold num; simp only [List.length_cons]
    split
    · omega
    · split <;> omega

theorem num_snoc (l : List A) (x y : A) (hx : x ∉ l) : num (l ++ [x]) y = if y = x then l.length + 1 else num l y := by
  induction l with
  | nil =>
    simp only [List.nil_append, num, List.length_nil]
    by_cases h : x = y
    · simp [h]
    · simp [fun e : x = y => h e, show ¬ y = x from fun e => h e.symm]
  | cons z l ih =>
    have hxz : ¬ z = x := fun e => hx (by simp [e])
    have ih' := ih (fun h => hx (List.mem_cons_of_mem _ h))
    simp only [List.cons_append, num, ih', List.length_cons]
    by_cases hyx : y = x
    · subst hyx
      simp [hxz]
    · simp [hyx]

theorem num_hit (l : List A) (x : A) (d : A) (k : Nat) (hk : k < l.length) (he : l.getD k d = x) (hn : x ∉ l.take k) : num l x = k + 1 := by
  induction l generalizing k with
  | nil => simp at hk
  | cons y l ih =>
    cases k with
    | zero => simp at he; simp [num, he]
    | succ k =>
      simp at hk he hn
      have := ih k hk (by simpa using he) hn.2
      have hyx : ¬ y = x := fun e => hn.1 e.symm
      simp [num, hyx, this]

omit [DecidableEq A] in
theorem take_snoc (l : List A) (d : A) (k : Nat) (hk : k < l.length) : l.take (k + 1) = l.take k ++ [l.getD k d] := by
  rw [List.take_succ_eq_append_getElem hk]
  simp [List.getD, hk]

omit [DecidableEq A] in
theorem drop_cons (l : List A) (d : A) (k : Nat) (hk : k < l.length) : l.drop k = l.getD k d :: l.drop (k + 1) := by
  rw [List.drop_eq_getElem_cons hk]
  simp [List.getD, hk]

end

instance : DecidableEq ByteArray := fun a b => decidable_of_iff (a.data = b.data) ⟨fun h => by cases a; cases b; simp_all, fun h => by rw [h]⟩

/-- What the texts answer from one on, 'seen' those ahead of it. -/
def tgo (seen : List ByteArray) : List ByteArray → Int
  | [] => 0
  | s :: r => if s.size < 1 ∨ 300 < s.size then 2 else if num seen s ≠ 0 then 7 else tgo (seen ++ [s]) r

/-- What the signatures answer from one on. -/
def sgo (n : Int) (seen : List (Int × Int)) : List (Int × Int) → Int
  | [] => 0
  | g :: r => if ¬ (1 ≤ g.1 ∧ g.1 ≤ 999 ∧ 1 ≤ g.2 ∧ g.2 ≤ n) then 3 else if num seen g ≠ 0 then 7 else sgo n (seen ++ [g]) r

/-- The ledger's fault. -/
def flt (ss : List ByteArray) (gs : List (Int × Int)) : Int :=
  if 60 < ss.length ∨ 120 < gs.length then 2 else if tgo [] ss ≠ 0 then tgo [] ss else sgo ss.length [] gs

def E0 : ByteArray := ByteArray.empty
def G0 : Int × Int := (0, 0)

def tAt (ss : List ByteArray) (k : Nat) : Int := tgo (ss.take k) (ss.drop k)
def gAt (n : Int) (gs : List (Int × Int)) (k : Nat) : Int := sgo n (gs.take k) (gs.drop k)

theorem tAt_zero (ss : List ByteArray) : tAt ss 0 = tgo [] ss := rfl
theorem gAt_zero (n : Int) (gs : List (Int × Int)) : gAt n gs 0 = sgo n [] gs := rfl
theorem tAt_end (ss : List ByteArray) : tAt ss ss.length = 0 := by simp [tAt, tgo]
theorem gAt_end (n : Int) (gs : List (Int × Int)) : gAt n gs gs.length = 0 := by simp [gAt, sgo]

theorem tAt_step (ss : List ByteArray) (k : Nat) (hk : k < ss.length) : tAt ss k = if (ss.getD k E0).size < 1 ∨ 300 < (ss.getD k E0).size then 2 else if num (ss.take k) (ss.getD k E0) ≠ 0 then 7 else tAt ss (k + 1) := by
  unfold tAt
  rw [drop_cons ss E0 k hk, tgo, take_snoc ss E0 k hk]

theorem gAt_step (n : Int) (gs : List (Int × Int)) (k : Nat) (hk : k < gs.length) : gAt n gs k =
    if ¬ (1 ≤ (gs.getD k G0).1 ∧ (gs.getD k G0).1 ≤ 999 ∧ 1 ≤ (gs.getD k G0).2 ∧ (gs.getD k G0).2 ≤ n) then 3 else if num (gs.take k) (gs.getD k G0) ≠ 0 then 7 else gAt n gs (k + 1) := by
  unfold gAt
  rw [drop_cons gs G0 k hk, sgo, take_snoc gs G0 k hk]

end Go.Proofs.YtagokfoimokniaaGreatDoor

namespace Go.Proofs.YtagokfoimokniaaGreatDoor
open Go.RowKit Go.Maps

theorem Tryz.infoStr : (Tryz.prog.info? 9).map (fun i => (i.zero, i.size, i.bytes)) = some (some (.string ByteArray.empty), 1, 16) := by kernel_rfl
theorem Tryz.infoSig : (Tryz.prog.info? 111).map (fun i => (i.zero, i.size, i.bytes)) = some (some (.agg #[.int .i64 0, .int .i64 0]), 2, 16) := by kernel_rfl

/-- The slice value '.slice a n _' leads to the texts ss. -/
def SAt (w : World) (a : Option Addr) (n : Nat) (ss : List ByteArray) : Prop :=
  ss.length = n ∧ (n = 0 ∨ ∃ b off, a = some ⟨b, off, none⟩ ∧ b < w.heap.size ∧ ∀ j, j < n → w.cell? ⟨b, off + j, none⟩ = some (.string (ss.getD j E0)))

/-- The slice value '.slice a n _' leads to the signatures gs, two cells each. -/
def GAt (w : World) (a : Option Addr) (n : Nat) (gs : List (Int × Int)) : Prop :=
  gs.length = n ∧ (n = 0 ∨ ∃ b off, a = some ⟨b, off, none⟩ ∧ b < w.heap.size ∧
    ∀ j, j < n → w.cell? ⟨b, off + j * 2, none⟩ = some (.int .i64 (gs.getD j G0).1) ∧ w.cell? ⟨b, off + j * 2 + 1, none⟩ = some (.int .i64 (gs.getD j G0).2))

theorem SAt.below {w w' : World} {a : Option Addr} {n : Nat} {ss : List ByteArray} (h : SAt w a n ss) {B : Nat} (hb : Below B w w') (hB : w.heap.size ≤ B) : SAt w' a n ss := by
  obtain ⟨hn, h | ⟨b, off, rfl, hlt, hc⟩⟩ := h
  · exact ⟨hn, .inl h⟩
  · exact ⟨hn, .inr ⟨b, off, rfl, Nat.lt_of_lt_of_le hlt hb.size, fun j hj => (hb.cell (p := ⟨b, off + j, none⟩) (Nat.lt_of_lt_of_le hlt hB)).trans (hc j hj)⟩⟩

theorem GAt.below {w w' : World} {a : Option Addr} {n : Nat} {gs : List (Int × Int)} (h : GAt w a n gs) {B : Nat} (hb : Below B w w') (hB : w.heap.size ≤ B) : GAt w' a n gs := by
  obtain ⟨hn, h | ⟨b, off, rfl, hlt, hc⟩⟩ := h
  · exact ⟨hn, .inl h⟩
  · exact ⟨hn, .inr ⟨b, off, rfl, Nat.lt_of_lt_of_le hlt hb.size, fun j hj =>
      ⟨(hb.cell (p := ⟨b, off + j * 2, none⟩) (Nat.lt_of_lt_of_le hlt hB)).trans (hc j hj).1, (hb.cell (p := ⟨b, off + j * 2 + 1, none⟩) (Nat.lt_of_lt_of_le hlt hB)).trans (hc j hj).2⟩⟩⟩

/-- Of a row that the call owns. -/
theorem SAt.owned {w : World} {base n cap g : Nat} {ss : List ByteArray} {e : TypeId} (h : w.ownsRow base e 1 (.slice (some ⟨g, 0, none⟩) n cap) n (ss.map Value.string)) (hn : ss.length = n) : SAt w (some ⟨g, 0, none⟩) n ss := by
  refine ⟨hn, .inr ⟨g, 0, rfl, (h.lt g rfl).2, fun j hj => ?_⟩⟩
  rw [Nat.zero_add, h.cellAt j (by omega)]
  simp [List.getD, show j < ss.length by omega]

def gcells (gs : List (Int × Int)) : List Value := gs.flatMap fun g => [.int .i64 g.1, .int .i64 g.2]

theorem gcells_length (gs : List (Int × Int)) : (gcells gs).length = gs.length * 2 := by
  induction gs with
  | nil => rfl
  | cons g r ih => simp [gcells] at ih ⊢; omega

theorem gcells_at (gs : List (Int × Int)) (j : Nat) (hj : j < gs.length) : (gcells gs)[j * 2]? = some (.int .i64 (gs.getD j G0).1) ∧ (gcells gs)[j * 2 + 1]? = some (.int .i64 (gs.getD j G0).2) := by
  induction gs generalizing j with
  | nil => simp at hj
  | cons g r ih =>
    cases j with
    | zero => simp [gcells]
    | succ j =>
      have := ih j (by simpa using hj)
      have e : gcells (g :: r) = .int .i64 g.1 :: .int .i64 g.2 :: gcells r := by simp [gcells]
      rw [e, show (j + 1) * 2 = j * 2 + 1 + 1 by omega]
      simpa using this

theorem GAt.owned {w : World} {base n cap g : Nat} {gs : List (Int × Int)} {e : TypeId} (h : w.ownsRow base e 2 (.slice (some ⟨g, 0, none⟩) n cap) n (gcells gs)) (hn : gs.length = n) : GAt w (some ⟨g, 0, none⟩) n gs := by
  refine ⟨hn, .inr ⟨g, 0, rfl, (h.lt g rfl).2, fun j hj => ?_⟩⟩
  have := gcells_at gs j (by omega)
  rw [Nat.zero_add, h.cellAt (j * 2) (by omega), h.cellAt (j * 2 + 1) (by omega)]
  exact this

theorem str_yes {s x : ByteArray} (h : s = x) : (s.toList == x.toList) = true := by rw [h]; simp
theorem str_no {s x : ByteArray} (h : ¬ s = x) : (s.toList == x.toList) = false := by
  rw [ByteArray.toList_eq, ByteArray.toList_eq]
  refine Bool.eq_false_iff.2 fun e => h ?_
  have e' : s.data.toList = x.data.toList := by simpa using e
  cases s; cases x
  simpa using e'

theorem ret_bool {a b : Bool} (h : a = b) : Ending.returned (.bool a) = .returned (.bool b) := by rw [h]
theorem ret_int {k : IntKind} {a b : Int} (h : a = b) : Ending.returned (.int k a) = .returned (.int k b) := by rw [h]

def inB (v lo hi : Int) : Bool := decide (lo ≤ v ∧ v ≤ hi)

theorem inB_true {v lo hi : Int} : inB v lo hi = true ↔ lo ≤ v ∧ v ≤ hi := by simp [inB]
theorem inB_false {v lo hi : Int} : inB v lo hi = false ↔ ¬ (lo ≤ v ∧ v ≤ hi) := by simp [inB]

theorem SAt.take {w : World} {a : Option Addr} {n k : Nat} {ss : List ByteArray} (h : SAt w a n ss) (hk : k ≤ n) : SAt w a k (ss.take k) := by
  obtain ⟨hn, h⟩ := h
  refine ⟨by simp; omega, ?_⟩
  rcases h with h | ⟨b, off, rfl, hb, hc⟩
  · exact .inl (by omega)
  · refine .inr ⟨b, off, rfl, hb, fun j hj => ?_⟩
    rw [hc j (by omega)]
    simp [List.getD, hj]

theorem GAt.take {w : World} {a : Option Addr} {n k : Nat} {gs : List (Int × Int)} (h : GAt w a n gs) (hk : k ≤ n) : GAt w a k (gs.take k) := by
  obtain ⟨hn, h⟩ := h
  refine ⟨by simp; omega, ?_⟩
  rcases h with h | ⟨b, off, rfl, hb, hc⟩
  · exact .inl (by omega)
  · refine .inr ⟨b, off, rfl, hb, fun j hj => ?_⟩
    rw [(hc j (by omega)).1, (hc j (by omega)).2]
    simp [List.getD, hj]

/-- What a step of the texts' loop comes to. -/
theorem t_short {ss : List ByteArray} {n k : Nat} {s : ByteArray} (hn : ss.length = n) (hlt : k < n) (hs : s = ss.getD k E0) (h : s.size < 1 ∨ 300 < s.size) (hi : tgo [] ss = tAt ss k) : tgo [] ss = 2 := by
  rw [hi, tAt_step ss k (by omega), ← hs, if_pos h]
theorem t_taken {ss : List ByteArray} {n k : Nat} {s : ByteArray} (hn : ss.length = n) (hlt : k < n) (hs : s = ss.getD k E0) (h : ¬ (s.size < 1 ∨ 300 < s.size)) (h2 : num (ss.take k) s ≠ 0) (hi : tgo [] ss = tAt ss k) : tgo [] ss = 7 := by
  rw [hi, tAt_step ss k (by omega), ← hs, if_neg h, if_pos h2]
theorem t_next {ss : List ByteArray} {n k : Nat} {s : ByteArray} (hn : ss.length = n) (hlt : k < n) (hs : s = ss.getD k E0) (h : ¬ (s.size < 1 ∨ 300 < s.size)) (h2 : num (ss.take k) s = 0) (hi : tgo [] ss = tAt ss k) : Hid (tgo [] ss = tAt ss (k + 1)) := by
  show tgo [] ss = _
  rw [hi, tAt_step ss k (by omega), ← hs, if_neg h, if_neg (by omega)]
theorem t_done {ss : List ByteArray} {n k : Nat} (hn : ss.length = n) (hk : k ≤ n) (hlt : ¬ k < n) (hi : tgo [] ss = tAt ss k) : tgo [] ss = 0 := by
  rw [hi, show k = ss.length by omega, tAt_end]

theorem g_range {gs : List (Int × Int)} {n : Int} {m k : Nat} {g : Int × Int} (hn : gs.length = m) (hlt : k < m) (hs : g = gs.getD k G0) (h : ¬ (1 ≤ g.1 ∧ g.1 ≤ 999 ∧ 1 ≤ g.2 ∧ g.2 ≤ n)) (hi : sgo n [] gs = gAt n gs k) : sgo n [] gs = 3 := by
  rw [hi, gAt_step n gs k (by omega), ← hs, if_pos h]
theorem g_taken {gs : List (Int × Int)} {n : Int} {m k : Nat} {g : Int × Int} (hn : gs.length = m) (hlt : k < m) (hs : g = gs.getD k G0) (h : 1 ≤ g.1 ∧ g.1 ≤ 999 ∧ 1 ≤ g.2 ∧ g.2 ≤ n) (h2 : num (gs.take k) g ≠ 0) (hi : sgo n [] gs = gAt n gs k) : sgo n [] gs = 7 := by
  rw [hi, gAt_step n gs k (by omega), ← hs, if_neg (fun e => e h), if_pos h2]
theorem g_next {gs : List (Int × Int)} {n : Int} {m k : Nat} {g : Int × Int} (hn : gs.length = m) (hlt : k < m) (hs : g = gs.getD k G0) (h : 1 ≤ g.1 ∧ g.1 ≤ 999 ∧ 1 ≤ g.2 ∧ g.2 ≤ n) (h2 : num (gs.take k) g = 0) (hi : sgo n [] gs = gAt n gs k) : Hid (sgo n [] gs = gAt n gs (k + 1)) := by
  show sgo n [] gs = _
  rw [hi, gAt_step n gs k (by omega), ← hs, if_neg (fun e => e h), if_neg (by omega)]
theorem g_done {gs : List (Int × Int)} {n : Int} {m k : Nat} (hn : gs.length = m) (hk : k ≤ m) (hlt : ¬ k < m) (hi : sgo n [] gs = gAt n gs k) : sgo n [] gs = 0 := by
  rw [hi, show k = gs.length by omega, gAt_end]

theorem flt_many {ss : List ByteArray} {gs : List (Int × Int)} {n m : Nat} (hn : ss.length = n) (hm : gs.length = m) (h : 60 < n ∨ 120 < m) : flt ss gs = 2 := by
  unfold flt; rw [if_pos (by omega)]
theorem flt_texts {ss : List ByteArray} {gs : List (Int × Int)} {n m : Nat} (hn : ss.length = n) (hm : gs.length = m) (h : ¬ (60 < n ∨ 120 < m)) {c : Int} (hc : tgo [] ss = c) (h0 : c ≠ 0) : flt ss gs = c := by
  unfold flt; rw [if_neg (by omega), if_pos (by rw [hc]; exact h0), hc]
theorem flt_signs {ss : List ByteArray} {gs : List (Int × Int)} {n m : Nat} (hn : ss.length = n) (hm : gs.length = m) (h : ¬ (60 < n ∨ 120 < m)) (hc : tgo [] ss = 0) {c : Int} (h0 : sgo n [] gs = c) : flt ss gs = c := by
  unfold flt; rw [if_neg (by omega), if_neg (by simp [hc]), hn, h0]

theorem two_set {w : World} {b : Nat} {c0 c1 : Value} {t : TypeId} (h : w.heap[b]? = some (.cells #[c0, c1] t (0, 0))) (v0 v1 : Value) :
    (w.setCell ⟨b, 0, none⟩ v0).cell? ⟨b, 0, none⟩ = some v0 ∧ ((w.setCell ⟨b, 0, none⟩ v0).setCell ⟨b, 1, none⟩ v1).cell? ⟨b, 1, none⟩ = some v1 ∧ ((w.setCell ⟨b, 0, none⟩ v0).setCell ⟨b, 1, none⟩ v1).cell? ⟨b, 0, none⟩ = some v0 := by
  have h1 : (w.setCell ⟨b, 0, none⟩ v0).heap[b]? = some (.cells #[v0, c1] t (0, 0)) := by
    have := Joins.block_setCell (i := 0) h v0
    simpa using this
  have h2 : ((w.setCell ⟨b, 0, none⟩ v0).setCell ⟨b, 1, none⟩ v1).heap[b]? = some (.cells #[v0, v1] t (0, 0)) := by
    have := Joins.block_setCell (i := 1) h1 v1
    simpa using this
  exact ⟨by unfold World.cell?; rw [h1]; rfl, by unfold World.cell?; rw [h2]; rfl, by unfold World.cell?; rw [h2]; rfl⟩

/-- What is known of the block of the result behind a call. -/
theorem res_cells {w w2 : World} {b : Nat} {c0 c1 : Value} {t : TypeId} {B : Nat} (h : w.heap[b]? = some (.cells #[c0, c1] t (0, 0))) (hb : Below B w w2) (hB : b < B) :
    w2.cell? ⟨b, 0, none⟩ = some c0 ∧ w2.cell? ⟨b, 1, none⟩ = some c1 ∧ w2.frozen? ⟨b, 0, none⟩ = false ∧ w2.frozen? ⟨b, 1, none⟩ = false ∧ Hid (w2.heap[b]? = some (.cells #[c0, c1] t (0, 0))) := by
  have h2 := (hb.block b hB).trans h
  exact ⟨by unfold World.cell?; rw [h2]; rfl, by unfold World.cell?; rw [h2]; rfl, Joins.unfrozen_of_block h2 0, Joins.unfrozen_of_block h2 1, h2⟩

end Go.Proofs.YtagokfoimokniaaGreatDoor

namespace Go.Proofs.YtagokfoimokniaaGreatDoor
open Go.RowKit Go.Maps Go.WideMaps
theorem kS:Keyed Tryz.prog 9:=string_keyed Tryz.underlying9
theorem Tryz.laidOut:laidOutB Tryz.prog=true:=by kernel_rfl
theorem kG:Keyed Tryz.prog 111:=Keyed.of_law (deep_law_laid Tryz.laidOut (m:=2) (by omega) (of_decide_eq_true (by kernel_rfl)) (by kernel_rfl) (by kernel_rfl))
theorem zeroI (w:World):(zeroValue 2).run Tryz.prog w= .ok (.int .i64 0) w:=by kernel_rfl
def Tab {A:Type} [DecidableEq A] (k:TypeId) (enc:A→Value) (w:World) (B:Nat) (l:List A):Prop:=
 ∃D:DataW Unit,w.ownsMap Tryz.prog k (plainElem Tryz.prog 2) B l.length D∧∀x kl,keyOf Tryz.prog k (enc x)=some kl→D.atKey kl (.lit (.int .i64 0))= .lit (.int .i64 (num l x:Nat))
def encS (s:ByteArray):Value:= .string s
def encG (g:Int×Int):Value:= .agg #[.int .i64 g.1,.int .i64 g.2]
theorem encS_inj {a b:ByteArray} (h:encS a=encS b):a=b:=by simpa [encS] using h
theorem encG_inj {a b:Int×Int} (h:encG a=encG b):a=b:=by
 simp[encG] at h
 exact Prod.ext h.1 h.2
section
variable {A:Type} [DecidableEq A] {k:TypeId} {enc:A→Value} {w:World} {B:Nat} {l:List A}
theorem Tab.made (w:World):Tab k enc (w.alloc (.map #[] 0)) w.heap.size ([]:List A):=
 ⟨.map [],World.ownsMap_made _ _ _ _,fun _ _ _=>rfl⟩
theorem Tab.lt (h:Tab k enc w B l):B<w.heap.size:=by obtain ⟨D,ho,_⟩:=h;exact ho.lt
theorem Tab.kept {w':World} {row:Option Nat} (h:Tab k enc w B l) (hg:w.grownBy w' row) (hne:some B≠row):Tab k enc w' B l:=by
 obtain ⟨D,ho,ha⟩:=h
 exact ⟨D,ho.kept hg hne,ha⟩
theorem Tab.setCell (h:Tab k enc w B l) {a:Addr} (ha:B≠a.block) (u:Value):Tab k enc (w.setCell a u) B l:=by
 obtain ⟨D,ho,hat⟩:=h
 exact ⟨D,ho.setCell ha u,hat⟩
theorem Tab.alloc (h:Tab k enc w B l) (o:Obj):Tab k enc (w.alloc o) B l:=by
 obtain ⟨D,ho,hat⟩:=h
 exact ⟨D,ho.alloc o,hat⟩
theorem Tab.drew (h:Tab k enc w B l):Tab k enc w.drew B l:=by
 obtain ⟨D,ho,hat⟩:=h
 exact ⟨D,ho,hat⟩
theorem Tab.draws (h:Tab k enc w B l) (n:Nat):Tab k enc (w.drewN n) B l:=by
 obtain ⟨D,ho,hat⟩:=h
 exact ⟨D,ho,hat⟩
theorem Tab.look (h:Tab k enc w B l) (K:Keyed Tryz.prog k) {t:TypeId} (ht:Tryz.prog.underlying t=some (.map k 2)) {x:A} {kl:Lit} (hk:keyOf Tryz.prog k (enc x)=some kl):
 (Instr.lookup t (.map (some B)) (enc x) false).run Tryz.prog w= .ok (.int .i64 (num l x:Nat)) w:=by
 obtain ⟨D,ho,hat⟩:=h
 obtain ⟨c,hrun,hc,_⟩:=ho.lookup_int K ht Tryz.underlying2 (zeroI _) hk
 rw[hat x kl hk] at hc
 have:(num l x:Int)=c:=by simpa using hc
 rw[hrun,this]
theorem Tab.store (h:Tab k enc w B l) (K:Keyed Tryz.prog k) (he:∀{a b:A},enc a=enc b→a=b) {t:TypeId} (ht:Tryz.prog.underlying t=some (.map k 2)) {x:A} {kl:Lit} (hk:keyOf Tryz.prog k (enc x)=some kl)
 (hx:num l x=0) (hl:l.length≤1000) {c:Int} (hc:c=l.length+1):
 ∃w',(Instr.mapUpdate t (.map (some B)) (enc x) (.int .i64 c)).run Tryz.prog w= .ok () w'∧Tab k enc w' B (l++[x])∧w.grownBy w' (some B):=by
 obtain ⟨D,ho,hat⟩:=h
 obtain ⟨w',hrun,ho',hg⟩:=ho.update K ht (by unfold maxLen;omega) hk (plainElem_int (q:= .i64) Tryz.underlying2 (WalkArith.wf_i64 (n:=c) (by omega)))
 refine ⟨w',hrun,⟨_,by simpa using ho',fun y kl' hy=> ?_⟩,hg⟩
 rw[num_snoc l x y ((num_zero l x).1 hx)]
 by_cases e:y=x
 ·subst e
  rw[hk] at hy
  cases hy
  rw[atKey_put_same ho.isMap (K.key hk),if_pos rfl,hc]
  simp
 ·rw[if_neg e,atKey_put_other (k:=kl) (k':=kl') (fun e2=>e (he (K.inj hy (by rw[e2];exact hk)))),hat y kl' hy]
end
def TwS (w:World) (base p:Nat) (l:List ByteArray):Prop:=
 ∃iv B,w.heap[p]? =some (.cells #[iv,.map (some B)] 147 (0,0))∧base≤p∧base≤B∧w.ownsRow base 9 1 iv l.length (l.map Value.string)∧Tab 9 encS w B l
theorem numS_any (p B:Nat) (l:List ByteArray) (x:ByteArray) (w:World) (hx:x.size≤maxLen) (hM:w.cell? ⟨p,1,none⟩=some (.map (some B))) (hT:Tab 9 encS w B l):
 Calls Tryz.prog 36 #[.pointer (some ⟨p,0,none⟩),.string x] w fun e w'=>e= .returned (.int .i64 (num l x:Nat))∧w'=w:=by
 have hrun:=hT.look kS Tryz.underlying145 (x:=x) (keyOf_string_mk Tryz.underlying9 hx)
 unfold encS at hrun
 clear hT
 go_enter Tryz.func36,Tryz.ntmps36
 go_wp2
 go_ret
 exact ⟨rfl,rfl⟩
theorem countS_any (p n cap:Nat) (a:Option Addr) (w:World) (hI:w.cell? ⟨p,0,none⟩=some (.slice a n cap)):
 Calls Tryz.prog 56 #[.pointer (some ⟨p,0,none⟩)] w fun e w'=>e= .returned (.int .i64 n)∧w'=w:=by
 go_enter Tryz.func56,Tryz.ntmps56
 go_wp2
 go_ret
 exact ⟨rfl,rfl⟩
theorem addS_mid {w w1:World} {base p B g cap:Nat} {iv:Value} {l:List ByteArray} {x:ByteArray} (hp:w.heap[p]? =some (.cells #[iv,.map (some B)] 147 (0,0))) (hbp:base≤p) (hbB:base≤B)
 (ho:w.ownsRow base 9 1 iv l.length (l.map Value.string)) (ht:Tab 9 encS w B l)
 (ho1:w1.ownsRow base 9 1 (.slice (some ⟨g,0,none⟩) (l.length+1) cap) (l.length+1) (l.map Value.string++[.string x])) (hg1:(w.alloc (.cells #[.string x] 9)).grownBy w1 iv.ownBlock):
 iv.ownBlock≠some p∧iv.ownBlock≠some B∧w1.heap[p]? =some (.cells #[iv,.map (some B)] 147 (0,0))∧p≠g∧Tab 9 encS w1 B l∧p≠B∧Below base w w1:=by
 have hpl:p<w.heap.size:=lt_of_block hp
 have hBl:B<w.heap.size:=ht.lt
 have hne:∀q o,w.heap[q]? =some o→(∀cur,o≠ .cells cur 9 (0,0))→iv.ownBlock≠some q:=by
  intro q o hq hno hiv
  rcases ho.2 with ⟨rfl,_⟩|⟨g',c',cur,rfl,_,hh,_⟩
  ·simp[Value.ownBlock] at hiv
  ·simp[Value.ownBlock] at hiv
   subst hiv
   rw[hh] at hq
   exact hno cur (by simpa using hq.symm)
 have n1:iv.ownBlock≠some p:=hne p _ hp (fun cur e=>by simp at e)
 obtain ⟨D,hD,_⟩:=id ht
 obtain ⟨es,ck,hes,_⟩:=hD
 have n2:iv.ownBlock≠some B:=hne B _ hes (fun cur e=>by simp at e)
 have a1:(w.alloc (.cells #[.string x] 9)).heap[p]? =some (.cells #[iv,.map (some B)] 147 (0,0)):=(Below.heap_alloc w _ p hpl).trans hp
 have hp1:=(hg1.block p (by simp;omega) (Ne.symm n1)).trans a1
 have hgp:p≠g:=by
  rintro rfl
  rcases ho1.2 with ⟨h,_⟩|⟨g',c',cur,h,_,hh,_⟩
  ·cases h
  ·simp at h
   rw[←h.1,hp1] at hh
   simp at hh
 have hpB:p≠B:=by rintro rfl;rw[hp] at hes;simp at hes
 refine ⟨n1,n2,hp1,hgp,(ht.alloc _).kept hg1 (Ne.symm n2),hpB,?_⟩
 refine ((Below.refl base w).alloc (by omega) _).grown hg1 (by simp;omega) (fun k hk=> ?_)
 exact (ho.lt k hk).1
set_option maxRecDepth 20000 in
set_option maxHeartbeats 400000 in
theorem addS_new (p base:Nat) (l:List ByteArray) (x:ByteArray) (w:World) (hl:l.length≤100) (hx:x.size≤maxLen) (hn:num l x=0) (h:TwS w base p l):
 Calls Tryz.prog 108 #[.pointer (some ⟨p,0,none⟩),.string x] w fun e w'=>e= .returned (.bool true)∧TwS w' base p (l++[x])∧Below base w w':=by
 obtain ⟨iv,B,hp,hbp,hbB,ho,ht⟩:=h
 obtain ⟨i0,hi,hz0,hz1,hz2⟩:=info_parts Tryz.infoStr
 have hpl:p<w.heap.size:=lt_of_block hp
 have c0:w.cell? ⟨p,0,none⟩=some iv:=by simp[World.cell?,hp]
 have c1:w.cell? ⟨p,1,none⟩=some (.map (some B)):=by simp[World.cell?,hp]
 obtain ⟨ia,ic,rfl⟩:∃ia ic,iv= .slice ia l.length ic:=by
  rcases ho.2 with ⟨h1,h2⟩|⟨g,cap,cur,h1,_⟩
  ·exact ⟨none,0,by rw[h2];exact h1⟩
  ·exact ⟨_,_,h1⟩
 have HN:Hid (num l x=0):=hn
 have hnum:=numS_any p B l x w hx c1 ht
 rw[hn] at hnum
 clear hn
 go_enter Tryz.func108,Tryz.ntmps108
 go_wp2_with (first
  |(go_at_call 36;refine hnum.mono ?_;rintro e w' ⟨rfl,hw⟩;have hw2:=hw.symm;subst hw2)
  |(at_builtin;go_must (refine wpList_append_lies _ (by rfl) _ _ 24 (by rfl) base 9 i0 (.string ByteArray.empty) 1 16 Tryz.underlying24 hi hz0 hz1 hz2 rfl (by omega) (.slice ia l.length ic) l.length (l.map Value.string) (by rfl) (ho.alloc _) ⟨w.heap.size,0,none⟩ 1 1 [.string x] (by rfl) (by rfl) ?c1 ?c2 (by omega) ?c3 ?c4 ?c5 (w.heap.size+1) ?c6 ?_)))
 case c1=>
  intro j u hj
  match j,hj with
  |0,hj=>simp at hj;subst hj;simp[Addr.add]
 case c2=>intro u hu;simp at hu;subst hu;rfl
 case c3=>unfold maxLen;omega
 case c4=>omega
 case c5=>simp;omega
 case c6=>simp
 intro g cap w1 ho1 hg1 hat hlt
 obtain ⟨n1,n2,hp1,hgp,ht1,hpB,hb1⟩:=addS_mid hp hbp hbB ho ht ho1 hg1
 have k0:w1.cell? ⟨p,0,none⟩=some (.slice ia l.length ic):=by simp[World.cell?,hp1]
 have k1:w1.cell? ⟨p,1,none⟩=some (.map (some B)):=by simp[World.cell?,hp1]
 have f0:w1.frozen? ⟨p,0,none⟩=false:=Joins.unfrozen_of_block hp1 0
 have ht2:=ht1.setCell (a:=⟨p,0,none⟩) (Ne.symm hpB) (.slice (some ⟨g,0,none⟩) (l.length+1) cap)
 have hp2:(w1.setCell ⟨p,0,none⟩ (.slice (some ⟨g,0,none⟩) (l.length+1) cap)).heap[p]? =some (.cells #[.slice (some ⟨g,0,none⟩) (l.length+1) cap,.map (some B)] 147 (0,0)):=by
  have:=Joins.block_setCell (i:=0) hp1 (.slice (some ⟨g,0,none⟩) (l.length+1) cap)
  simpa using this
 have j0:(w1.setCell ⟨p,0,none⟩ (.slice (some ⟨g,0,none⟩) (l.length+1) cap)).cell? ⟨p,0,none⟩=some (.slice (some ⟨g,0,none⟩) (l.length+1) cap):=by unfold World.cell?;rw[hp2];rfl
 have j1:(w1.setCell ⟨p,0,none⟩ (.slice (some ⟨g,0,none⟩) (l.length+1) cap)).cell? ⟨p,1,none⟩=some (.map (some B)):=by unfold World.cell?;rw[hp2];rfl
 have hkey:=keyOf_string_mk (P:=Tryz.prog) Tryz.underlying9 hx
 obtain ⟨w3,hrun,ht3,hg3⟩:=(ht2.drew).store kS encS_inj Tryz.underlying145 (x:=x) hkey HN.out (by omega) (c:=(l.length:Int)+1) rfl
 unfold encS at hrun
 have hp3:w3.heap[p]? =some (.cells #[.slice (some ⟨g,0,none⟩) (l.length+1) cap,.map (some B)] 147 (0,0)):=(hg3.block p (lt_of_block (w:=(w1.setCell ⟨p,0,none⟩ (.slice (some ⟨g,0,none⟩) (l.length+1) cap)).drew) hp2) (by simpa using hpB)).trans hp2
 have m0:w3.cell? ⟨p,0,none⟩=some (.slice (some ⟨g,0,none⟩) (l.length+1) cap):=by unfold World.cell?;rw[hp3];rfl
 have m1:w3.cell? ⟨p,1,none⟩=some (.map (some B)):=by unfold World.cell?;rw[hp3];rfl
 have HT3:Hid (TwS w3 base p (l++[x])∧Below base w w3):=by
  have hgB:g≠B:=by
   rintro rfl
   obtain ⟨D,⟨es,ck,hes,_⟩,_⟩:=ht1
   rcases ho1.2 with ⟨h,_⟩|⟨g',c',cur,h,_,hh,_⟩
   ·cases h
   ·simp at h
    rw[←h.1,hes] at hh
    simp at hh
  have r1:=(ownsRow_setCell_other ho1 (a:=⟨p,0,none⟩) (by simpa [Value.ownBlock] using Ne.symm hgp) (.slice (some ⟨g,0,none⟩) (l.length+1) cap)).drew.kept hg3 (by simp[Value.ownBlock];exact hgB)
  refine ⟨⟨_,B,hp3,hbp,hbB,by simpa using r1,ht3⟩,?_⟩
  exact (hb1.setCell (p:=⟨p,0,none⟩) hbp _).drew.grown hg3 (Nat.le_trans hbp (Nat.le_of_lt (lt_of_block hp2))) (fun k h=>by cases h;exact hbB)
 clear ht2 ht1 ht3 hg3 hp3 hp2
 have HO1:Hid (w1.ownsRow base 9 1 (.slice (some ⟨g,0,none⟩) (l.length+1) cap) (l.length+1) (l.map Value.string++[.string x])):=ho1
 clear ho1 hg1 hat ho ht hnum hkey hi hz0 hz1 hz2
 go_wp2
 go_region_held3 (fun w'=>w'.cell? ⟨p,0,none⟩=some (.slice (some ⟨g,0,none⟩) (l.length+1) cap)∧w'.cell? ⟨p,1,none⟩=some (.map (some B))) (go_keep)
  (first|(go_at_call 56;refine (countS_any p (l.length+1) cap (some ⟨g,0,none⟩) _ ?_).mono ?_;(simp[*]);rintro e w' ⟨rfl,rfl⟩))
 go_wp2
 go_ret
 exact ⟨rfl,HT3.out⟩
theorem addS_old (p base:Nat) (l:List ByteArray) (x:ByteArray) (w:World) (hx:x.size≤maxLen) (hn:¬num l x=0) (h:TwS w base p l):
 Calls Tryz.prog 108 #[.pointer (some ⟨p,0,none⟩),.string x] w fun e w'=>e= .returned (.bool false)∧w'=w:=by
 obtain ⟨iv,B,hp,hbp,hbB,ho,ht⟩:=h
 have c1:w.cell? ⟨p,1,none⟩=some (.map (some B)):=by simp[World.cell?,hp]
 obtain ⟨c,hc⟩:∃c,c=num l x:=⟨_,rfl⟩
 have hnum:=numS_any p B l x w hx c1 ht
 rw[←hc] at hnum hn
 have hcz:(c:Int)≠0:=by omega
 clear hc ho ht
 go_enter Tryz.func108,Tryz.ntmps108
 go_wp2_with (first|(go_at_call 36;refine hnum.mono ?_;rintro e w' ⟨rfl,hw⟩;have hw2:=hw.symm;subst hw2))
 go_ret
 exact ⟨rfl,rfl⟩
theorem newS_any (w:World):Calls Tryz.prog 106 #[] w fun e w'=>∃p,e= .returned (.pointer (some ⟨p,0,none⟩))∧TwS w' w.heap.size p []∧Below w.heap.size w w':=by
 have hmm:= @run_makeMap Tryz.prog
 go_enter Tryz.func106,Tryz.ntmps106
 go_wp2
 go_ret
 refine ⟨w.heap.size+1,rfl,⟨.slice none 0 0,w.heap.size,?_,by omega,Nat.le_refl _,World.ownsRow_nil _ _ _ _,(Tab.made w).alloc _⟩,((Below.refl _ _).alloc (Nat.le_refl _) _).alloc (by simp) _⟩
 have:=heap_alloc_new (w.alloc (.map #[] 0)) (.cells #[.slice none 0 0,.map (some w.heap.size)] 147)
 simpa using this
end Go.Proofs.YtagokfoimokniaaGreatDoor
namespace Go.Proofs.YtagokfoimokniaaGreatDoor
open Go.RowKit Go.Maps Go.WideMaps
theorem isWithin_any (v lo hi:Int) (w:World):Calls Tryz.prog 87 #[.int .i64 v,.int .i64 lo,.int .i64 hi] w fun e w'=>e= .returned (.bool (inB v lo hi))∧w'=w:=by
 by_cases h1:lo≤v
 ·by_cases h2:v≤hi
  ·have hb:inB v lo hi=true:=by simp[inB,h1,h2]
   rw[hb]
   go_enter Tryz.func87,Tryz.ntmps87
   go_wp2
   go_ret
   exact ⟨rfl,rfl⟩
  ·have hb:inB v lo hi=false:=by simp[inB,h2]
   rw[hb]
   go_enter Tryz.func87,Tryz.ntmps87
   go_wp2
   go_ret
   exact ⟨rfl,rfl⟩
 ·have hb:inB v lo hi=false:=by simp[inB,h1]
  rw[hb]
  go_enter Tryz.func87,Tryz.ntmps87
  go_wp2
  go_ret
  exact ⟨rfl,rfl⟩
theorem isKey_any (v:Int) (w:World):Calls Tryz.prog 110 #[.int .i64 v] w fun e w'=>e= .returned (.bool (inB v 1 999))∧w'=w:=by
 go_enter Tryz.func110,Tryz.ntmps110
 go_wp2_with (go_at_call 87;refine (isWithin_any _ _ _ _).mono ?_;rintro e w' ⟨rfl,rfl⟩)
 go_ret
 exact ⟨rfl,rfl⟩
theorem isTextLength_any (s:ByteArray) (w:World):Calls Tryz.prog 107 #[.string s] w fun e w'=>e= .returned (.bool (inB s.size 1 300))∧w'=w:=by
 go_enter Tryz.func107,Tryz.ntmps107
 go_wp2_with (go_at_call 87;refine (isWithin_any _ _ _ _).mono ?_;rintro e w' ⟨rfl,rfl⟩)
 go_ret
 exact ⟨rfl,rfl⟩
def RT (ss:List ByteArray) (w w':World) (e:Ending):Prop:=
 Below w.heap.size w w'∧((tgo [] ss=0∧∃p,e= .returned (.tuple #[.pointer (some ⟨p,0,none⟩),.int .i64 0])∧TwS w' w.heap.size p ss)∨
  (tgo [] ss≠0∧e= .returned (.tuple #[.pointer none,.int .i64 (tgo [] ss)])))
set_option maxHeartbeats 1000000 in
theorem readTexts_any (a:Option Addr) (n cap:Nat) (ss:List ByteArray) (w:World) (hl:n≤60) (hz:∀j,(ss.getD j E0).size≤maxLen) (hs:SAt w a n ss):
 Calls Tryz.prog 54 #[.slice a n cap] w fun e w'=>RT ss w w' e:=by
 have HN:Hid (ss.length=n):=hs.1
 have HSS:Hid (SAt w a n ss):=hs
 clear hs
 go_enter Tryz.func54,Tryz.ntmps54
 go_wp2_with (first|(go_at_call 106;refine (newS_any _).mono ?_;rintro e w1 ⟨p,rfl,htw1,hb1⟩))
 go_loopw [10] (fun i wr=>∃k:Nat,k≤n∧i= .int .i64 k∧Hid (tgo [] ss=tAt ss k)∧TwS wr w.heap.size p (ss.take k)∧Below w.heap.size w wr) (fun i _=>n-(intOf i).toNat)
 case atStart=>exact ⟨0,Nat.zero_le _,rfl,(tAt_zero ss).symm,htw1,hb1⟩
 case round=>
  obtain ⟨k,hk,rfl,hinv,htw,hbel⟩:=hrel
  clear htw1 hb1
  by_cases hlt:k<n
  ·rcases HSS.out.2 with h0|⟨b,off,ha,hb,hc⟩
   ·omega
   subst ha
   obtain ⟨s,hs⟩:∃s,s=ss.getD k E0:=⟨_,rfl⟩
   have hcx:=(hbel.cell (p:=⟨b,off+k,none⟩) hb).trans (hc k hlt)
   have hsz:=hz k
   rw[←hs] at hcx hsz
   have HS:Hid (s=ss.getD k E0):=hs
   clear hs hc hz
   by_cases hs1:inB s.size 1 300=true
   ·have hok:¬(s.size<1∨300<s.size):=by have:=inB_true.1 hs1;omega
    have HOK:Hid (¬(s.size<1∨300<s.size)):=hok
    clear hok
    by_cases hc0:num (ss.take k) s=0
    ·have hadd:=addS_new p w.heap.size (ss.take k) s wr (by simp;omega) hsz hc0 htw
     have HC0:Hid (num (ss.take k) s=0):=hc0
     clear hc0 htw
     go_wp2_with (first
      |(go_at_call 107;refine (isTextLength_any _ _).mono ?_;rintro e w' ⟨rfl,hw⟩;have hw2:=hw.symm;subst hw2)
      |(go_at_call 108;refine hadd.mono ?_;rintro e w2 ⟨rfl,htw2,hb2⟩))
     go_roundw
     case rel=>
      have e1:ss.take (k+1)=ss.take k++[s]:=by rw[take_snoc ss E0 k (by rw[HN.out];exact hlt),HS.out]
      exact ⟨k+1,by omega,by go_num,t_next HN.out hlt HS.out HOK.out HC0.out hinv.out,by rw[e1];exact htw2,hbel.trans hb2⟩
     case measure=>simp[intOf];omega
    ·have hadd:=addS_old p w.heap.size (ss.take k) s wr hsz hc0 htw
     have HC0:Hid (¬num (ss.take k) s=0):=hc0
     clear hc0 htw
     go_wp2_with (first
      |(go_at_call 107;refine (isTextLength_any _ _).mono ?_;rintro e w' ⟨rfl,hw⟩;have hw2:=hw.symm;subst hw2)
      |(go_at_call 108;refine hadd.mono ?_;rintro e w2 ⟨rfl,hw⟩;have hw2:=hw.symm;subst hw2))
     go_ret2
     have e7:=t_taken HN.out hlt HS.out HOK.out HC0.out hinv.out
     exact ⟨hbel,.inr ⟨by rw[e7];decide,by rw[e7];rfl⟩⟩
   ·have hs1':inB s.size 1 300=false:=by simpa using hs1
    have hok:s.size<1∨300<s.size:=by have:=inB_false.1 hs1';omega
    have HOK:Hid (s.size<1∨300<s.size):=hok
    clear hok hs1 htw
    go_wp2_with (first
     |(go_at_call 107;refine (isTextLength_any _ _).mono ?_;rintro e w' ⟨rfl,hw⟩;have hw2:=hw.symm;subst hw2))
    go_ret2
    have e7:=t_short HN.out hlt HS.out HOK.out hinv.out
    exact ⟨hbel,.inr ⟨by rw[e7];decide,by rw[e7];rfl⟩⟩
  ·go_wp2
   go_ret2
   refine ⟨hbel,.inl ⟨t_done HN.out hk hlt hinv.out,p,rfl,?_⟩⟩
   rwa [List.take_of_length_le (by rw[HN.out];omega)] at htw
end Go.Proofs.YtagokfoimokniaaGreatDoor
namespace Go.Proofs.YtagokfoimokniaaGreatDoor
open Go.RowKit Go.Maps Go.WideMaps
theorem Tryz.cellsSig:Tryz.prog.cellsOf 111=2:=by kernel_rfl
theorem Tryz.cellsI64:Tryz.prog.cellsOf 2=1:=by kernel_rfl
theorem Tryz.someTypes:∃m,Tryz.prog.types.size=m+1:=⟨Tryz.prog.types.size-1,by have:0<Tryz.prog.types.size:=of_decide_eq_true (by kernel_rfl);omega⟩
theorem Tryz.cutSig:(Tryz.prog.cutTypes.any (·.2==111))=false:=by kernel_rfl
theorem Tryz.keyAtSig (m:Nat):Tryz.prog.keyTypeAt (m+2) 111=true:=by
 have h2:Tryz.prog.keyTypeAt (m+1) 2=true:=by unfold Program.keyTypeAt;rw[Tryz.underlying2]
 unfold Program.keyTypeAt
 rw[Tryz.underlying111]
 simp only[Tryz.cutSig,Tryz.stoodInHeld111]
 simp[h2]
theorem Tryz.keySig:Tryz.prog.keyType 111=true:=by
 obtain ⟨m,hm⟩:=Tryz.someTypes
 unfold Program.keyType
 rw[hm]
 exact Tryz.keyAtSig m
theorem Tryz.litI64 (m:Nat) {x:Int} (hx:(Lit.int .i64 x).wf=true):Tryz.prog.keyLits (m+1) 2 [.int .i64 x]=some [.int .i64 x]:=by
 unfold Program.keyLits
 rw[Tryz.underlying2]
 simp[hx]
theorem Tryz.litsSig (m:Nat) {p q:Int} (hp:(Lit.int .i64 p).wf=true) (hq:(Lit.int .i64 q).wf=true):Tryz.prog.keyLits (m+2) 111 [.int .i64 p,.int .i64 q]=some [.int .i64 p,.int .i64 q]:=by
 unfold Program.keyLits
 rw[Tryz.underlying111]
 simp[Tryz.cellsSig,Tryz.cellsI64,Tryz.litI64 m hp,Tryz.litI64 m hq]
theorem keyG {p q:Int} (hp:(Lit.int .i64 p).wf=true) (hq:(Lit.int .i64 q).wf=true):∃kl,keyOf Tryz.prog 111 (.agg #[.int .i64 p,.int .i64 q])=some kl:=by
 obtain ⟨m,hm⟩:=Tryz.someTypes
 refine ⟨.string (keyBytes [.int .i64 p,.int .i64 q]),?_⟩
 have hf:(Value.agg #[.int .i64 p,.int .i64 q]).formed Tryz.prog 111=true:=by simp[Value.formed,Tryz.underlying111,Tryz.cellsSig]
 unfold keyOf
 rw[Tryz.underlying111]
 simp only[Tryz.keySig,hf,hm,Bool.and_self,if_true]
 have hc:(Value.agg #[.int .i64 p,.int .i64 q]).cells.toList=[.int .i64 p,.int .i64 q]:=rfl
 rw[hc,Tryz.litsSig m hp hq]
 rfl
def TwG (w:World) (base p:Nat) (l:List (Int×Int)):Prop:=
 ∃iv B,w.heap[p]? =some (.cells #[iv,.map (some B)] 219 (0,0))∧base≤p∧base≤B∧w.ownsRow base 111 2 iv l.length (gcells l)∧Tab 111 encG w B l
theorem grown_of_below {w w':World} (h:Below w.heap.size w w'):w.grownBy w' none:=⟨h.os,h.tape,h.output,h.size,fun k hk _=>h.block k hk⟩
theorem TwS.below {w w':World} {base p:Nat} {l:List ByteArray} (h:TwS w base p l) (hb:Below w.heap.size w w'):TwS w' base p l:=by
 obtain ⟨iv,B,hp,hbp,hbB,ho,ht⟩:=h
 exact ⟨iv,B,(hb.block p (lt_of_block hp)).trans hp,hbp,hbB,ho.kept (grown_of_below hb) (by cases iv.ownBlock<;>simp),ht.kept (grown_of_below hb) (by simp)⟩
theorem TwG.below {w w':World} {base p:Nat} {l:List (Int×Int)} (h:TwG w base p l) (hb:Below w.heap.size w w'):TwG w' base p l:=by
 obtain ⟨iv,B,hp,hbp,hbB,ho,ht⟩:=h
 exact ⟨iv,B,(hb.block p (lt_of_block hp)).trans hp,hbp,hbB,ho.kept (grown_of_below hb) (by cases iv.ownBlock<;>simp),ht.kept (grown_of_below hb) (by simp)⟩
theorem numG_any (p B:Nat) (l:List (Int×Int)) (a b:Int) (w:World) (ha:(Lit.int .i64 a).wf=true) (hb:(Lit.int .i64 b).wf=true) (hpl:p<w.heap.size) (hM:w.cell? ⟨p,1,none⟩=some (.map (some B))) (hT:Tab 111 encG w B l):
 Calls Tryz.prog 147 #[.pointer (some ⟨p,0,none⟩),.agg #[.int .i64 a,.int .i64 b]] w fun e w'=>e= .returned (.int .i64 (num l (a,b):Nat))∧Below w.heap.size w w':=by
 obtain ⟨kl,hk⟩:=keyG ha hb
 have hrun:∀j,(Instr.lookup 217 (.map (some B)) (.agg #[.int .i64 a,.int .i64 b]) false).run Tryz.prog ((w.alloc (.cells #[.int .i64 a,.int .i64 b] 111)).drewN j)= .ok (.int .i64 (num l (a,b):Nat)) ((w.alloc (.cells #[.int .i64 a,.int .i64 b] 111)).drewN j):=
  fun j=>((hT.alloc _).draws j).look kG Tryz.underlying217 (x:=(a,b)) hk
 clear hT hk ha hb
 obtain ⟨c,hc⟩:∃c,c=num l (a,b):=⟨_,rfl⟩
 rw[←hc] at hrun ⊢
 clear hc
 go_enter Tryz.func147,Tryz.ntmps147
 go_wp2
 go_quiet (fail)
 go_wp2
 go_ret
 exact ⟨rfl,((Below.refl _ _).alloc (Nat.le_refl _) _).trans (Joins.below_draws _ _ _)⟩
theorem countG_any (p n cap:Nat) (a:Option Addr) (w:World) (hI:w.cell? ⟨p,0,none⟩=some (.slice a n cap)):
 Calls Tryz.prog 148 #[.pointer (some ⟨p,0,none⟩)] w fun e w'=>e= .returned (.int .i64 n)∧w'=w:=by
 go_enter Tryz.func148,Tryz.ntmps148
 go_wp2
 go_ret
 exact ⟨rfl,rfl⟩
theorem newG_any (w:World):Calls Tryz.prog 109 #[] w fun e w'=>∃p,e= .returned (.pointer (some ⟨p,0,none⟩))∧TwG w' w.heap.size p []∧Below w.heap.size w w':=by
 have hmm:= @run_makeMap Tryz.prog
 go_enter Tryz.func109,Tryz.ntmps109
 go_wp2
 go_ret
 refine ⟨w.heap.size+1,rfl,⟨.slice none 0 0,w.heap.size,?_,by omega,Nat.le_refl _,World.ownsRow_nil _ _ _ _,(Tab.made w).alloc _⟩,((Below.refl _ _).alloc (Nat.le_refl _) _).alloc (by simp) _⟩
 have:=heap_alloc_new (w.alloc (.map #[] 0)) (.cells #[.slice none 0 0,.map (some w.heap.size)] 219)
 simpa using this
theorem addG_old (p base:Nat) (l:List (Int×Int)) (a b:Int) (w:World) (ha:(Lit.int .i64 a).wf=true) (hb:(Lit.int .i64 b).wf=true) (hn:¬num l (a,b)=0) (h:TwG w base p l):
 Calls Tryz.prog 111 #[.pointer (some ⟨p,0,none⟩),.agg #[.int .i64 a,.int .i64 b]] w fun e w'=>e= .returned (.bool false)∧Below w.heap.size w w':=by
 have hbx:Below w.heap.size w (w.alloc (.cells #[.int .i64 a,.int .i64 b] 111)):=(Below.refl _ _).alloc (Nat.le_refl _) _
 obtain ⟨iv,B,hp,hbp,hbB,ho,ht⟩:=h.below hbx
 have hpl:=lt_of_block hp
 have c1:(w.alloc (.cells #[.int .i64 a,.int .i64 b] 111)).cell? ⟨p,1,none⟩=some (.map (some B)):=by unfold World.cell?;rw[hp];rfl
 obtain ⟨c,hc⟩:∃c,c=num l (a,b):=⟨_,rfl⟩
 have hnum:=numG_any p B l a b _ ha hb hpl c1 ht
 rw[←hc] at hnum hn
 have hcz:(c:Int)≠0:=by omega
 clear hc ho ht h
 go_enter Tryz.func111,Tryz.ntmps111
 go_wp2_with (first|(go_at_call 147;refine hnum.mono ?_;rintro e w2 ⟨rfl,hb2⟩))
 go_ret
 exact ⟨rfl,hbx.trans (hb2.mono (by simp))⟩
theorem addG_mid {w w1:World} {base p B g cap:Nat} {iv:Value} {l:List (Int×Int)} {x:Int×Int} {o:Obj} (hp:w.heap[p]? =some (.cells #[iv,.map (some B)] 219 (0,0))) (hbp:base≤p) (hbB:base≤B)
 (ho:w.ownsRow base 111 2 iv l.length (gcells l)) (ht:Tab 111 encG w B l)
 (ho1:w1.ownsRow base 111 2 (.slice (some ⟨g,0,none⟩) (l.length+1) cap) (l.length+1) (gcells l++[.int .i64 x.1,.int .i64 x.2])) (hg1:(w.alloc o).grownBy w1 iv.ownBlock):
 iv.ownBlock≠some p∧iv.ownBlock≠some B∧w1.heap[p]? =some (.cells #[iv,.map (some B)] 219 (0,0))∧p≠g∧Tab 111 encG w1 B l∧p≠B∧Below base w w1:=by
 have hpl:p<w.heap.size:=lt_of_block hp
 have hBl:B<w.heap.size:=ht.lt
 have hne:∀q o,w.heap[q]? =some o→(∀cur,o≠ .cells cur 111 (0,0))→iv.ownBlock≠some q:=by
  intro q o hq hno hiv
  rcases ho.2 with ⟨rfl,_⟩|⟨g',c',cur,rfl,_,hh,_⟩
  ·simp[Value.ownBlock] at hiv
  ·simp[Value.ownBlock] at hiv
   subst hiv
   rw[hh] at hq
   exact hno cur (by simpa using hq.symm)
 have n1:iv.ownBlock≠some p:=hne p _ hp (fun cur e=>by simp at e)
 obtain ⟨D,hD,_⟩:=id ht
 obtain ⟨es,ck,hes,_⟩:=hD
 have n2:iv.ownBlock≠some B:=hne B _ hes (fun cur e=>by simp at e)
 have a1:(w.alloc o).heap[p]? =some (.cells #[iv,.map (some B)] 219 (0,0)):=(Below.heap_alloc w _ p hpl).trans hp
 have hp1:=(hg1.block p (by simp;omega) (Ne.symm n1)).trans a1
 have hgp:p≠g:=by
  rintro rfl
  rcases ho1.2 with ⟨h,_⟩|⟨g',c',cur,h,_,hh,_⟩
  ·cases h
  ·simp at h
   rw[←h.1,hp1] at hh
   simp at hh
 have hpB:p≠B:=by rintro rfl;rw[hp] at hes;simp at hes
 refine ⟨n1,n2,hp1,hgp,(ht.alloc _).kept hg1 (Ne.symm n2),hpB,?_⟩
 refine ((Below.refl base w).alloc (by omega) _).grown hg1 (by simp;omega) (fun k hk=> ?_)
 exact (ho.lt k hk).1
end Go.Proofs.YtagokfoimokniaaGreatDoor
namespace Go.Proofs.YtagokfoimokniaaGreatDoor
open Go.RowKit Go.Maps Go.WideMaps
attribute [local go_sem ↓] Go.wp_at_zero Go.wp_at_succ
theorem news2 {W:World} {H:Nat} {a b:Int} {t:TypeId} (h:W.heap[H]? =some (.cells #[.int .i64 a,.int .i64 b] t (0,0))):∀j u,[Value.int .i64 a,.int .i64 b][j]? =some u→W.cell? ((⟨H,0,none⟩:Addr).add j)=some u:=by
 intro j u hj
 match j,hj with
 |0,hj=>simp at hj;subst hj;simp[Addr.add,World.cell?,h]
 |1,hj=>simp at hj;subst hj;simp[Addr.add,World.cell?,h]
theorem one2 {a b:Int}:∀u∈[Value.int .i64 a,.int .i64 b],u.oneCell'=true:=by
 intro u hu
 simp at hu
 rcases hu with rfl|rfl<;>rfl
theorem addG_facts {w w1:World} {base p B g cap b0:Nat} {ia:Option Addr} {ic:Nat} {l:List (Int×Int)} {x:Int×Int} {o:Obj} (hp:w.heap[p]? =some (.cells #[.slice ia l.length ic,.map (some B)] 219 (0,0))) (hbp:base≤p) (hbB:base≤B)
 (ho:w.ownsRow base 111 2 (.slice ia l.length ic) l.length (gcells l)) (ht:Tab 111 encG w B l) (hbox:w.heap[b0]? =some (.cells #[.int .i64 x.1,.int .i64 x.2] 111 (0,0))) (hnb:Value.ownBlock (.slice ia l.length ic)≠some b0)
 (ho1:w1.ownsRow base 111 2 (.slice (some ⟨g,0,none⟩) (l.length+1) cap) (l.length+1) (gcells l++[.int .i64 x.1,.int .i64 x.2])) (hg1:(w.alloc o).drew.grownBy w1 (Value.ownBlock (.slice ia l.length ic))):
 w1.cell? ⟨p,0,none⟩=some (.slice ia l.length ic)∧w1.frozen? ⟨p,0,none⟩=false∧w1.cell? ⟨b0,0,none⟩=some (.int .i64 x.1)∧w1.cell? ⟨b0,1,none⟩=some (.int .i64 x.2)∧
  Hid (w1.heap[p]? =some (.cells #[.slice ia l.length ic,.map (some B)] 219 (0,0))∧p≠g∧Tab 111 encG w1 B l∧p≠B∧Below base w w1∧w1.heap[b0]? =some (.cells #[.int .i64 x.1,.int .i64 x.2] 111 (0,0))∧
   w1.ownsRow base 111 2 (.slice (some ⟨g,0,none⟩) (l.length+1) cap) (l.length+1) (gcells l++[.int .i64 x.1,.int .i64 x.2])):=by
 have hg2:(w.alloc o).grownBy w1 (Value.ownBlock (.slice ia l.length ic)):=⟨hg1.os,hg1.tape,hg1.output,hg1.size,hg1.block⟩
 obtain ⟨n1,n2,hp1,hgp,ht1,hpB,hb1⟩:=addG_mid hp hbp hbB ho ht ho1 hg2
 have hbl:=lt_of_block hbox
 have hbx1:w1.heap[b0]? =some (.cells #[.int .i64 x.1,.int .i64 x.2] 111 (0,0)):=(hg2.block b0 (by simp;omega) (Ne.symm hnb)).trans ((Below.heap_alloc w _ b0 hbl).trans hbox)
 exact ⟨by unfold World.cell?;rw[hp1];rfl,Joins.unfrozen_of_block hp1 0,by unfold World.cell?;rw[hbx1];rfl,by unfold World.cell?;rw[hbx1];rfl,hp1,hgp,ht1,hpB,hb1,hbx1,ho1⟩
theorem addG_end {w w1:World} {base p B g cap b0 ic:Nat} {ia:Option Addr} {l:List (Int×Int)} {a b:Int} (hl:l.length≤200) (ha:(Lit.int .i64 a).wf=true) (hb:(Lit.int .i64 b).wf=true) (hn:num l (a,b)=0) (hbp:base≤p) (hbB:base≤B)
 (h:w1.heap[p]? =some (.cells #[.slice ia l.length ic,.map (some B)] 219 (0,0))∧p≠g∧Tab 111 encG w1 B l∧p≠B∧Below base w w1∧w1.heap[b0]? =some (.cells #[.int .i64 a,.int .i64 b] 111 (0,0))∧
  w1.ownsRow base 111 2 (.slice (some ⟨g,0,none⟩) (l.length+1) cap) (l.length+1) (gcells l++[.int .i64 a,.int .i64 b])):
 ∃w5,(Instr.mapUpdate 217 (.map (some B)) (.agg #[.int .i64 a,.int .i64 b]) (.int .i64 ((l.length:Int)+1))).run Tryz.prog (w1.setCell ⟨p,0,none⟩ (.slice (some ⟨g,0,none⟩) (l.length+1) cap)).drew= .ok () w5∧
  (w1.setCell ⟨p,0,none⟩ (.slice (some ⟨g,0,none⟩) (l.length+1) cap)).cell? ⟨p,0,none⟩=some (.slice (some ⟨g,0,none⟩) (l.length+1) cap)∧
  (w1.setCell ⟨p,0,none⟩ (.slice (some ⟨g,0,none⟩) (l.length+1) cap)).cell? ⟨p,1,none⟩=some (.map (some B))∧
  (w1.setCell ⟨p,0,none⟩ (.slice (some ⟨g,0,none⟩) (l.length+1) cap)).cell? ⟨b0,0,none⟩=some (.int .i64 a)∧
  (w1.setCell ⟨p,0,none⟩ (.slice (some ⟨g,0,none⟩) (l.length+1) cap)).cell? ⟨b0,1,none⟩=some (.int .i64 b)∧
  w5.cell? ⟨p,0,none⟩=some (.slice (some ⟨g,0,none⟩) (l.length+1) cap)∧w5.cell? ⟨p,1,none⟩=some (.map (some B))∧w5.cell? ⟨b0,0,none⟩=some (.int .i64 a)∧w5.cell? ⟨b0,1,none⟩=some (.int .i64 b)∧
  Hid (TwG w5 base p (l++[(a,b)])∧Below base w w5):=by
 obtain ⟨hp1,hgp,ht1,hpB,hb1,hbx1,ho1⟩:=h
 obtain ⟨kl,hk⟩:=keyG ha hb
 have hpb:p≠b0:=by rintro rfl;rw[hp1] at hbx1;simp at hbx1
 have hBb:B≠b0:=by
  rintro rfl
  obtain ⟨D,⟨es,ck,hes,_⟩,_⟩:=ht1
  rw[hes] at hbx1;simp at hbx1
 have hgB:g≠B:=by
  rintro rfl
  obtain ⟨D,⟨es,ck,hes,_⟩,_⟩:=ht1
  rcases ho1.2 with ⟨h,_⟩|⟨g',c',cur,h,_,hh,_⟩
  ·cases h
  ·simp at h
   rw[←h.1,hes] at hh
   simp at hh
 have hp2:(w1.setCell ⟨p,0,none⟩ (.slice (some ⟨g,0,none⟩) (l.length+1) cap)).heap[p]? =some (.cells #[.slice (some ⟨g,0,none⟩) (l.length+1) cap,.map (some B)] 219 (0,0)):=by
  have:=Joins.block_setCell (i:=0) hp1 (.slice (some ⟨g,0,none⟩) (l.length+1) cap)
  simpa using this
 have hb2:(w1.setCell ⟨p,0,none⟩ (.slice (some ⟨g,0,none⟩) (l.length+1) cap)).heap[b0]? =some (.cells #[.int .i64 a,.int .i64 b] 111 (0,0)):=(Below.heap_setCell w1 ⟨p,0,none⟩ _ b0 (Ne.symm hpb)).trans hbx1
 have ht2:=ht1.setCell (a:=⟨p,0,none⟩) (Ne.symm hpB) (.slice (some ⟨g,0,none⟩) (l.length+1) cap)
 obtain ⟨w5,hrun,ht5,hg5⟩:=(ht2.drew).store kG encG_inj Tryz.underlying217 (x:=(a,b)) hk hn (by omega) (c:=(l.length:Int)+1) rfl
 have hp5:=(hg5.block p (lt_of_block (w:=(w1.setCell ⟨p,0,none⟩ (.slice (some ⟨g,0,none⟩) (l.length+1) cap)).drew) hp2) (by simpa using hpB)).trans hp2
 have hb5:=(hg5.block b0 (lt_of_block (w:=(w1.setCell ⟨p,0,none⟩ (.slice (some ⟨g,0,none⟩) (l.length+1) cap)).drew) hb2) (by simpa using Ne.symm hBb)).trans hb2
 refine ⟨w5,hrun,by unfold World.cell?;rw[hp2];rfl,by unfold World.cell?;rw[hp2];rfl,by unfold World.cell?;rw[hb2];rfl,by unfold World.cell?;rw[hb2];rfl,by unfold World.cell?;rw[hp5];rfl,by unfold World.cell?;rw[hp5];rfl,by unfold World.cell?;rw[hb5];rfl,by unfold World.cell?;rw[hb5];rfl,?_⟩
 have r1:=(ownsRow_setCell_other ho1 (a:=⟨p,0,none⟩) (by simpa [Value.ownBlock] using Ne.symm hgp) (.slice (some ⟨g,0,none⟩) (l.length+1) cap)).drew.kept hg5 (by simp[Value.ownBlock];exact hgB)
 refine ⟨⟨_,B,hp5,hbp,hbB,by simpa [gcells] using r1,ht5⟩,?_⟩
 exact (hb1.setCell (p:=⟨p,0,none⟩) hbp _).drew.grown hg5 (Nat.le_trans hbp (Nat.le_of_lt (lt_of_block hp2))) (fun k h=>by cases h;exact hbB)
set_option maxRecDepth 20000 in
set_option maxHeartbeats 1000000 in
theorem addG_new (p base:Nat) (l:List (Int×Int)) (a b:Int) (w:World) (hl:l.length≤200) (ha:(Lit.int .i64 a).wf=true) (hb:(Lit.int .i64 b).wf=true) (hn:num l (a,b)=0) (hbw:base≤w.heap.size) (h:TwG w base p l):
 Calls Tryz.prog 111 #[.pointer (some ⟨p,0,none⟩),.agg #[.int .i64 a,.int .i64 b]] w fun e w'=>e= .returned (.bool true)∧TwG w' base p (l++[(a,b)])∧Below base w w':=by
 have hbx:Below w.heap.size w (w.alloc (.cells #[.int .i64 a,.int .i64 b] 111)):=(Below.refl _ _).alloc (Nat.le_refl _) _
 have h1:=h.below hbx
 have H0:Hid (TwG w base p l):=h
 clear h
 have hnum:Calls Tryz.prog 147 #[.pointer (some ⟨p,0,none⟩),.agg #[.int .i64 a,.int .i64 b]] (w.alloc (.cells #[.int .i64 a,.int .i64 b] 111)) fun e w'=>e= .returned (.int .i64 0)∧Below (w.alloc (.cells #[.int .i64 a,.int .i64 b] 111)).heap.size (w.alloc (.cells #[.int .i64 a,.int .i64 b] 111)) w':=by
  obtain ⟨iv,B,hp,hbp,hbB,ho,ht⟩:=h1
  have:=numG_any p B l a b _ ha hb (lt_of_block hp) (by unfold World.cell?;rw[hp];rfl) ht
  rwa [hn] at this
 have HN:Hid (num l (a,b)=0):=hn
 have HBX:Hid (Below w.heap.size w (w.alloc (.cells #[.int .i64 a,.int .i64 b] 111))):=hbx
 clear h1 hn hbx
 obtain ⟨i0,hi,hz0,hz1,hz2⟩:=info_parts Tryz.infoSig
 go_enter Tryz.func111,Tryz.ntmps111
 go_wp2_with (first|(go_at_call 147;refine hnum.mono ?_;rintro e w2 ⟨rfl,hb2⟩))
 clear hnum
 have hbw2:Below w.heap.size w w2:=HBX.out.trans (hb2.mono (by simp))
 obtain ⟨iv,B,hp0,hbp,hbB,ho0,ht0⟩:=H0.out
 have hp:=(hbw2.block p (lt_of_block hp0)).trans hp0
 have ho:=ho0.kept (grown_of_below hbw2) (by cases iv.ownBlock<;>simp)
 have ht:=ht0.kept (grown_of_below hbw2) (by simp)
 have hnb:iv.ownBlock≠some w.heap.size:=fun e=>by have:=(ho0.lt _ e).2;omega
 have HB2:Hid (Below w.heap.size w w2):=hbw2
 clear hp0 ho0 ht0 hbw2
 have hpl:p<w2.heap.size:=lt_of_block hp
 obtain ⟨ia,ic,hiv⟩:∃ia ic,iv= .slice ia l.length ic:=by
  rcases ho.2 with ⟨h1,h2⟩|⟨g,cap,cur,h1,_⟩
  ·exact ⟨none,0,by rw[h2];exact h1⟩
  ·exact ⟨_,_,h1⟩
 subst hiv
 have c0:w2.cell? ⟨p,0,none⟩=some (.slice ia l.length ic):=by unfold World.cell?;rw[hp];rfl
 have hbox:w2.heap[w.heap.size]? =some (.cells #[.int .i64 a,.int .i64 b] 111 (0,0)):=(hb2.block w.heap.size (by simp)).trans (heap_alloc_new w _)
 have x0:w2.cell? ⟨w.heap.size,0,none⟩=some (.int .i64 a):=by unfold World.cell?;rw[hbox];rfl
 have x1:w2.cell? ⟨w.heap.size,1,none⟩=some (.int .i64 b):=by unfold World.cell?;rw[hbox];rfl
 have f0:w2.frozen? ⟨p,0,none⟩=false:=Joins.unfrozen_of_block hp 0
 have hpx:p≠w.heap.size:=by rintro rfl;rw[hp] at hbox;simp at hbox
 have HP:Hid (w2.heap[p]? =some (.cells #[.slice ia l.length ic,.map (some B)] 219 (0,0))∧base≤p∧base≤B∧Tab 111 encG w2 B l∧w2.heap[w.heap.size]? =some (.cells #[.int .i64 a,.int .i64 b] 111 (0,0))∧Value.ownBlock (.slice ia l.length ic)≠some w.heap.size):=⟨hp,hbp,hbB,ht,hbox,hnb⟩
 have HO:Hid (w2.ownsRow base 111 2 (.slice ia l.length ic) l.length (gcells l)):=ho
 clear hp ht hbox hnb ho
 have hlen:l.length+1≤maxLen:=by unfold maxLen;omega
 have hbase2:base≤w2.heap.size:=Nat.le_trans hbw (by have:=hb2.size;simp at this;omega)
 go_region_law
  ((refine step_append_lies _ (by rfl) _ _ _ (by rfl) base 111 i0 (.agg #[.int .i64 0,.int .i64 0]) 2 16 Tryz.underlying25 hi hz0 hz1 hz2 rfl (by omega) (.slice ia l.length ic) l.length (gcells l) (by rfl) (by first|exact (HO.out.alloc _).drew|exact HO.out.drew.alloc _) ⟨w2.heap.size,0,none⟩ 1 1 [.int .i64 a,.int .i64 b] (by rfl) (by rfl) (news2 (by first|exact heap_alloc_new w2 _|exact heap_alloc_new w2.drew _)) one2 (by omega) hlen (by omega) (by simp;omega) (w2.heap.size+1) (by simp) ?_;intro g cap w3 ho3 hg3 hat hlt;obtain ⟨y0,y1,y2,y3,HY⟩:=addG_facts (x:=(a,b)) HP.out.1 HP.out.2.1 HP.out.2.2.1 HO.out HP.out.2.2.2.1 HP.out.2.2.2.2.1 HP.out.2.2.2.2.2 ho3 hg3;clear ho3 hg3 hat hlt))
 all_goals
  go_wp2
  obtain ⟨w5,hrun,q0,q1,q2,q3,m0,m1,m2,m3,HZ⟩:=addG_end hl ha hb HN.out HP.out.2.1 HP.out.2.2.1 HY.out
  clear y0 y1 y2 y3
  go_region_held3 (fun w'=>w'.cell? ⟨p,0,none⟩=some (.slice (some ⟨g,0,none⟩) (l.length+1) cap)∧w'.cell? ⟨p,1,none⟩=some (.map (some B))∧w'.cell? ⟨w.heap.size,0,none⟩=some (.int .i64 a)∧w'.cell? ⟨w.heap.size,1,none⟩=some (.int .i64 b)) (go_keep)
   (first|(go_at_call 148;refine (countG_any p (l.length+1) cap (some ⟨g,0,none⟩) _ ?_).mono ?_;(simp[*]);rintro e w' ⟨rfl,rfl⟩))
  go_wp2
  go_ret
  exact ⟨rfl,HZ.out.1,(HB2.out.mono hbw).trans HZ.out.2⟩
end Go.Proofs.YtagokfoimokniaaGreatDoor
namespace Go.Proofs.YtagokfoimokniaaGreatDoor
open Go.RowKit Go.Maps Go.WideMaps
def RG (n:Int) (gs:List (Int×Int)) (w w':World) (e:Ending):Prop:=
 Below w.heap.size w w'∧((sgo n [] gs=0∧∃p,e= .returned (.tuple #[.pointer (some ⟨p,0,none⟩),.int .i64 0])∧TwG w' w.heap.size p gs)∨
  (sgo n [] gs≠0∧e= .returned (.tuple #[.pointer none,.int .i64 (sgo n [] gs)])))
set_option maxHeartbeats 1000000 in
theorem readSigns_any (a:Option Addr) (m cap:Nat) (gs:List (Int×Int)) (n:Int) (w:World) (hl:m≤120) (hz:∀j,(Lit.int .i64 (gs.getD j G0).1).wf=true∧(Lit.int .i64 (gs.getD j G0).2).wf=true) (hs:GAt w a m gs):
 Calls Tryz.prog 55 #[.slice a m cap,.int .i64 n] w fun e w'=>RG n gs w w' e:=by
 have HM:Hid (gs.length=m):=hs.1
 have HGG:Hid (GAt w a m gs):=hs
 clear hs
 go_enter Tryz.func55,Tryz.ntmps55
 go_wp2_with (first|(go_at_call 109;refine (newG_any _).mono ?_;rintro e w1 ⟨p,rfl,htw1,hb1⟩))
 go_loopw [12] (fun i wr=>∃k:Nat,k≤m∧i= .int .i64 k∧Hid (sgo n [] gs=gAt n gs k)∧TwG wr w.heap.size p (gs.take k)∧Below w.heap.size w wr) (fun i _=>m-(intOf i).toNat)
 case atStart=>exact ⟨0,Nat.zero_le _,rfl,(gAt_zero n gs).symm,htw1,hb1⟩
 case round=>
  obtain ⟨k,hk,rfl,hinv,htw,hbel⟩:=hrel
  clear htw1 hb1
  by_cases hlt:k<m
  ·rcases HGG.out.2 with h0|⟨b,off,ha,hb,hc⟩
   ·omega
   subst ha
   obtain ⟨g,hg⟩:∃g,g=gs.getD k G0:=⟨_,rfl⟩
   have hcx:=hc k hlt
   have hwf:=hz k
   rw[←hg] at hcx hwf
   obtain ⟨g1,g2⟩:=g
   have c0:=(hbel.cell (p:=⟨b,off+k*2,none⟩) hb).trans hcx.1
   have c1:=(hbel.cell (p:=⟨b,off+k*2+1,none⟩) hb).trans hcx.2
   have HG:Hid ((g1,g2)=gs.getD k G0):=hg
   have HW:Hid ((Lit.int .i64 g1).wf=true∧(Lit.int .i64 g2).wf=true):=hwf
   clear hg hc hcx hz hwf
   have hbw:b<wr.heap.size:=Nat.lt_of_lt_of_le hb hbel.size
   by_cases hk1:inB g1 1 999=true
   ·by_cases hk2:inB g2 1 n=true
    ·have hok:1≤g1∧g1≤999∧1≤g2∧g2≤n:=⟨(inB_true.1 hk1).1,(inB_true.1 hk1).2,(inB_true.1 hk2).1,(inB_true.1 hk2).2⟩
     have HOK:Hid (1≤g1∧g1≤999∧1≤g2∧g2≤n):=hok
     clear hok
     have hbx:Below wr.heap.size wr (wr.alloc (.cells #[.int .i64 g1,.int .i64 g2] 111)):=(Below.refl _ _).alloc (Nat.le_refl _) _
     have hbx0:=hbel.trans (hbx.mono hbel.size)
     by_cases hc0:num (gs.take k) (g1,g2)=0
     ·have hadd:=addG_new p w.heap.size (gs.take k) g1 g2 (wr.alloc (.cells #[.int .i64 g1,.int .i64 g2] 111)) (by simp;omega) HW.out.1 HW.out.2 hc0 hbx0.size (htw.below hbx)
      have HC0:Hid (num (gs.take k) (g1,g2)=0):=hc0
      have HB0:Hid (Below w.heap.size w (wr.alloc (.cells #[.int .i64 g1,.int .i64 g2] 111))):=hbx0
      clear hc0 htw hbx hbx0
      go_wp2_with (first
       |(go_at_call 110;refine (isKey_any _ _).mono ?_;rintro e w' ⟨rfl,hw⟩;have hw2:=hw.symm;subst hw2)
       |(go_at_call 87;refine (isWithin_any _ _ _ _).mono ?_;rintro e w' ⟨rfl,hw⟩;have hw2:=hw.symm;subst hw2)
       |(go_at_call 111;refine hadd.mono ?_;rintro e w2 ⟨rfl,htw2,hb2⟩))
      go_roundw
      case rel=>
       have e1:gs.take (k+1)=gs.take k++[(g1,g2)]:=by rw[take_snoc gs G0 k (by rw[HM.out];exact hlt),HG.out]
       exact ⟨k+1,by omega,by go_num,g_next HM.out hlt HG.out HOK.out HC0.out hinv.out,by rw[e1];exact htw2,HB0.out.trans hb2⟩
      case measure=>simp[intOf];omega
     ·have hadd:=addG_old p w.heap.size (gs.take k) g1 g2 (wr.alloc (.cells #[.int .i64 g1,.int .i64 g2] 111)) HW.out.1 HW.out.2 hc0 (htw.below hbx)
      have HC0:Hid (¬num (gs.take k) (g1,g2)=0):=hc0
      have HB0:Hid (Below w.heap.size w (wr.alloc (.cells #[.int .i64 g1,.int .i64 g2] 111))):=hbx0
      clear hc0 htw hbx hbx0
      go_wp2_with (first
       |(go_at_call 110;refine (isKey_any _ _).mono ?_;rintro e w' ⟨rfl,hw⟩;have hw2:=hw.symm;subst hw2)
       |(go_at_call 87;refine (isWithin_any _ _ _ _).mono ?_;rintro e w' ⟨rfl,hw⟩;have hw2:=hw.symm;subst hw2)
       |(go_at_call 111;refine hadd.mono ?_;rintro e w2 ⟨rfl,hb2⟩))
      go_ret2
      have e7:=g_taken HM.out hlt HG.out HOK.out HC0.out hinv.out
      exact ⟨HB0.out.trans (hb2.mono HB0.out.size),.inr ⟨by rw[e7];decide,by rw[e7];rfl⟩⟩
    ·have hk2':inB g2 1 n=false:=by simpa using hk2
     have HOK:Hid (¬(1≤g1∧g1≤999∧1≤g2∧g2≤n)):=fun e=>inB_false.1 hk2' ⟨e.2.2.1,e.2.2.2⟩
     clear hk2 htw
     go_wp2_with (first
      |(go_at_call 110;refine (isKey_any _ _).mono ?_;rintro e w' ⟨rfl,hw⟩;have hw2:=hw.symm;subst hw2)
      |(go_at_call 87;refine (isWithin_any _ _ _ _).mono ?_;rintro e w' ⟨rfl,hw⟩;have hw2:=hw.symm;subst hw2))
     go_ret2
     have e7:=g_range HM.out hlt HG.out HOK.out hinv.out
     exact ⟨hbel.alloc hbel.size _,.inr ⟨by rw[e7];decide,by rw[e7];rfl⟩⟩
   ·have hk1':inB g1 1 999=false:=by simpa using hk1
    have HOK:Hid (¬(1≤g1∧g1≤999∧1≤g2∧g2≤n)):=fun e=>inB_false.1 hk1' ⟨e.1,e.2.1⟩
    clear hk1 htw
    go_wp2_with (first
     |(go_at_call 110;refine (isKey_any _ _).mono ?_;rintro e w' ⟨rfl,hw⟩;have hw2:=hw.symm;subst hw2)
     |(go_at_call 87;refine (isWithin_any _ _ _ _).mono ?_;rintro e w' ⟨rfl,hw⟩;have hw2:=hw.symm;subst hw2))
    go_ret2
    have e7:=g_range HM.out hlt HG.out HOK.out hinv.out
    exact ⟨hbel.alloc hbel.size _,.inr ⟨by rw[e7];decide,by rw[e7];rfl⟩⟩
  ·go_wp2
   go_ret2
   refine ⟨hbel,.inl ⟨g_done HM.out hk hlt hinv.out,p,rfl,?_⟩⟩
   rwa [List.take_of_length_le (by rw[HM.out];omega)] at htw
end Go.Proofs.YtagokfoimokniaaGreatDoor
namespace Go.Proofs.YtagokfoimokniaaGreatDoor
open Go.RowKit Go.Maps Go.WideMaps
def TopS (w:World) (p top:Nat):Prop:=∀iv B,w.heap[p]? =some (.cells #[iv,.map (some B)] 147 (0,0))→p<top∧B<top∧∀k,iv.ownBlock=some k→k<top
def RL (ss:List ByteArray) (gs:List (Int×Int)) (w w':World) (e:Ending):Prop:=
 Below w.heap.size w w'∧
 ((flt ss gs=0∧∃p q top,e= .returned (.tuple #[.agg #[.pointer (some ⟨p,0,none⟩),.pointer (some ⟨q,0,none⟩)],.int .i64 0])∧TwS w' w.heap.size p ss∧TopS w' p top∧TwG w' top q gs∧w.heap.size≤top)∨
   (flt ss gs≠0∧e= .returned (.tuple #[.agg #[.pointer none,.pointer none],.int .i64 (flt ss gs)])))
theorem TwS.top {w:World} {base p:Nat} {l:List ByteArray} (h:TwS w base p l):TopS w p w.heap.size:=by
 obtain ⟨iv,B,hp,hbp,hbB,ho,ht⟩:=h
 intro iv' B' hp'
 rw[hp] at hp'
 simp at hp'
 obtain ⟨rfl,rfl⟩:=hp'
 exact ⟨lt_of_block hp,ht.lt,fun k hk=>(ho.lt k hk).2⟩
theorem TopS.of_block {w w':World} {p top:Nat} (h:TopS w p top) (hb:w'.heap[p]? =w.heap[p]?):TopS w' p top:=fun iv B hp=>h iv B (hb▸hp)
theorem TwS.set {w:World} {base p b i:Nat} {l:List ByteArray} (h:TwS w base p l) (hb:b<base) (v:Value):TwS (w.setCell ⟨b,i,none⟩ v) base p l:=by
 obtain ⟨iv,B,hp,hbp,hbB,ho,ht⟩:=h
 exact ⟨iv,B,(Below.heap_setCell w ⟨b,i,none⟩ v p (show p≠b by omega)).trans hp,hbp,hbB,ownsRow_setCell_below ho (a:=⟨b,i,none⟩) hb v,ht.setCell (a:=⟨b,i,none⟩) (show B≠b by omega) v⟩
theorem TwG.set {w:World} {base p b i:Nat} {l:List (Int×Int)} (h:TwG w base p l) (hb:b<base) (v:Value):TwG (w.setCell ⟨b,i,none⟩ v) base p l:=by
 obtain ⟨iv,B,hp,hbp,hbB,ho,ht⟩:=h
 exact ⟨iv,B,(Below.heap_setCell w ⟨b,i,none⟩ v p (show p≠b by omega)).trans hp,hbp,hbB,ownsRow_setCell_below ho (a:=⟨b,i,none⟩) hb v,ht.setCell (a:=⟨b,i,none⟩) (show B≠b by omega) v⟩
theorem TwS.mono {w:World} {base base' p:Nat} {l:List ByteArray} (h:TwS w base p l) (hb:base'≤base):TwS w base' p l:=by
 obtain ⟨iv,B,hp,hbp,hbB,ho,ht⟩:=h
 exact ⟨iv,B,hp,by omega,by omega,Joins.ownsRow_le ho hb,ht⟩
theorem TwG.mono {w:World} {base base' p:Nat} {l:List (Int×Int)} (h:TwG w base p l) (hb:base'≤base):TwG w base' p l:=by
 obtain ⟨iv,B,hp,hbp,hbB,ho,ht⟩:=h
 exact ⟨iv,B,hp,by omega,by omega,Joins.ownsRow_le ho hb,ht⟩
theorem TwS.items {w:World} {base p:Nat} {l:List ByteArray} (h:TwS w base p l):∃a cap,w.cell? ⟨p,0,none⟩=some (.slice a l.length cap)∧l.length≤cap∧cap≤maxLen∧SAt w a l.length l:=by
 obtain ⟨iv,B,hp,hbp,hbB,ho,ht⟩:=h
 have hc:w.cell? ⟨p,0,none⟩=some iv:=by unfold World.cell?;rw[hp];rfl
 rcases id ho.2 with ⟨h1,h2⟩|⟨g,cap,cur,h1,_,_,hcap,hm,_⟩
 ·refine ⟨none,0,by rw[hc,h1,h2],by omega,by unfold maxLen;omega,rfl,.inl h2⟩
 ·subst h1
  exact ⟨_,_,hc,hcap,hm,SAt.owned ho rfl⟩
theorem TwG.items {w:World} {base p:Nat} {l:List (Int×Int)} (h:TwG w base p l):∃a cap,w.cell? ⟨p,0,none⟩=some (.slice a l.length cap)∧l.length≤cap∧cap≤maxLen∧GAt w a l.length l:=by
 obtain ⟨iv,B,hp,hbp,hbB,ho,ht⟩:=h
 have hc:w.cell? ⟨p,0,none⟩=some iv:=by unfold World.cell?;rw[hp];rfl
 rcases id ho.2 with ⟨h1,h2⟩|⟨g,cap,cur,h1,_,_,hcap,hm,_⟩
 ·refine ⟨none,0,by rw[hc,h1,h2],by omega,by unfold maxLen;omega,rfl,.inl h2⟩
 ·subst h1
  exact ⟨_,_,hc,hcap,hm,GAt.owned ho rfl⟩
def LF (n:Nat) (ta:Option Addr) (tc:Nat) (ga:Option Addr) (m gc:Nat) (ss:List ByteArray) (w:World) (p:Nat) (w':World):Prop:=
 TwS w' ((w.alloc (.cells #[.slice ta n tc,.slice ga m gc] 27)).alloc (.cells #[.pointer none,.pointer none] 71)).heap.size p ss∧
 Below ((w.alloc (.cells #[.slice ta n tc,.slice ga m gc] 27)).alloc (.cells #[.pointer none,.pointer none] 71)).heap.size ((w.alloc (.cells #[.slice ta n tc,.slice ga m gc] 27)).alloc (.cells #[.pointer none,.pointer none] 71)) w'
theorem lf_facts {n:Nat} {ta:Option Addr} {tc:Nat} {ga:Option Addr} {m gc:Nat} {ss:List ByteArray} {gs:List (Int×Int)} {w:World} {p:Nat} {w2:World} (hn:ss.length=n) (hg:GAt w ga m gs) (h:LF n ta tc ga m gc ss w p w2):
 ∃ia ic,w2.cell? ⟨w.heap.size,1,none⟩=some (.slice ga m gc)∧w2.cell? ⟨p,0,none⟩=some (.slice ia n ic)∧Hid (∀j,GAt (w2.drewN j) ga m gs)∧(w.heap.size<w2.heap.size∧p<w2.heap.size∧w.heap.size+1<w2.heap.size)∧Hid (w2.heap[w.heap.size+1]? =some (.cells #[.pointer none,.pointer none] 71 (0,0))):=by
 obtain ⟨htw,hb⟩:=h
 have hsz:=hb.size
 simp at hsz
 obtain ⟨ia,ic,hi,_⟩:=htw.items
 rw[hn] at hi
 have hbx:Below w.heap.size w w2:=((((Below.refl _ _).alloc (Nat.le_refl _) _).alloc (by simp) _).trans (hb.mono (by simp;omega)))
 refine ⟨ia,ic,(hb.cell (p:=⟨w.heap.size,1,none⟩) (by simp;omega)).trans (by simp),hi,fun j=>(hg.below hbx (Nat.le_refl _)).below (Joins.below_draws _ w2 j) (Nat.le_refl _),⟨by omega,?_,by omega⟩,?_⟩
 ·obtain ⟨iv,B,hp,_⟩:=htw
  exact lt_of_block hp
 ·refine (hb.block (w.heap.size+1) (by simp)).trans ?_
  rw[show w.heap.size+1=(w.alloc (.cells #[.slice ta n tc,.slice ga m gc] 27)).heap.size by simp]
  exact heap_alloc_new _ _
set_option maxHeartbeats 1000000 in
theorem readLedger_any (n m tc gc:Nat) (ta ga:Option Addr) (ss:List ByteArray) (gs:List (Int×Int)) (w:World)
 (hz:∀j,(ss.getD j E0).size≤maxLen) (hw:∀j,(Lit.int .i64 (gs.getD j G0).1).wf=true∧(Lit.int .i64 (gs.getD j G0).2).wf=true) (hs:SAt w ta n ss) (hg:GAt w ga m gs):
 Calls Tryz.prog 23 #[.agg #[.slice ta n tc,.slice ga m gc]] w fun e w'=>RL ss gs w w' e:=by
 have HN:Hid (ss.length=n):=hs.1
 have HM:Hid (gs.length=m):=hg.1
 by_cases hbig:60<n∨120<m
 ·have hf:=flt_many HN.out HM.out hbig
  have HF:Hid (flt ss gs=2):=hf
  clear hf hs hg hz hw
  by_cases h60:60<n
  ·go_enter Tryz.func23,Tryz.ntmps23
   go_wp2
   refine bodyPost_ret (v:= .tuple #[.agg #[.pointer none,.pointer none],.int .i64 2]) (by simp[results,Tryz.results23,go_sem]) rfl ⟨((Below.refl _ _).alloc (Nat.le_refl _) _).alloc (by simp) _,.inr ⟨by rw[HF.out];decide,by rw[HF.out]⟩⟩
  ·have h120:120<m:=by omega
   go_enter Tryz.func23,Tryz.ntmps23
   go_wp2
   refine bodyPost_ret (v:= .tuple #[.agg #[.pointer none,.pointer none],.int .i64 2]) (by simp[results,Tryz.results23,go_sem]) rfl ⟨((Below.refl _ _).alloc (Nat.le_refl _) _).alloc (by simp) _,.inr ⟨by rw[HF.out];decide,by rw[HF.out]⟩⟩
 ·have h60:n≤60:=by omega
  have h120:m≤120:=by omega
  have HB:Hid (¬(60<n∨120<m)):=hbig
  clear hbig
  have hbx:Below w.heap.size w ((w.alloc (.cells #[.slice ta n tc,.slice ga m gc] 27)).alloc (.cells #[.pointer none,.pointer none] 71)):=((Below.refl _ _).alloc (Nat.le_refl _) _).alloc (by simp) _
  have hrt:=readTexts_any ta n tc ss _ h60 hz (hs.below hbx (Nat.le_refl _))
  have HBX:Hid (Below w.heap.size w ((w.alloc (.cells #[.slice ta n tc,.slice ga m gc] 27)).alloc (.cells #[.pointer none,.pointer none] 71))):=hbx
  have HGG:Hid (GAt w ga m gs):=hg
  have HW:Hid (∀j,(Lit.int .i64 (gs.getD j G0).1).wf=true∧(Lit.int .i64 (gs.getD j G0).2).wf=true):=hw
  clear hbx hs hg hz hw
  by_cases ht:tgo [] ss=0
  ·have hrt':=hrt.mono fun e w' (h:RT ss _ w' e)=>show ∃p,e= .returned (.tuple #[.pointer (some ⟨p,0,none⟩),.int .i64 0])∧LF n ta tc ga m gc ss w p w' by
    rcases h with ⟨hb,h|h⟩
    ·obtain ⟨_,p,he,htw⟩:=h
     exact ⟨p,he,htw,hb⟩
    ·exact absurd ht h.1
   clear hrt
   have HT0:Hid (tgo [] ss=0):=ht
   clear ht
   by_cases hg0:sgo n [] gs=0
   ·have HF:Hid (flt ss gs=0):=flt_signs HN.out HM.out HB.out HT0.out hg0
    have HC:Hid (sgo n [] gs=0):=hg0
    clear hg0
    go_enter Tryz.func23,Tryz.ntmps23
    go_wp2_with (first|(go_at_call 54;refine hrt'.mono ?_;rintro e w2 ⟨p,rfl,hlf⟩))
    clear hrt'
    obtain ⟨ia,ic,l0,l1,HSG,hsz,HRB⟩:=lf_facts HN.out HGG.out hlf
    have hrs:∀j,Calls Tryz.prog 55 #[.slice ga m gc,.int .i64 n] (w2.drewN j) fun e w'=>∃q,e= .returned (.tuple #[.pointer (some ⟨q,0,none⟩),.int .i64 0])∧TwG w' w2.heap.size q gs∧Below w2.heap.size w2 w':=fun j=>(readSigns_any ga m gc gs n _ h120 HW.out (HSG.out j)).mono fun e w' (h:RG n gs _ w' e)=>by
     rcases h with ⟨hb,h|h⟩
     ·obtain ⟨_,q,he,htg⟩:=h
      exact ⟨q,he,htg,(Joins.below_draws _ w2 j).trans hb⟩
     ·exact absurd HC.out h.1
    go_region_held3 (fun w'=>w'.cell? ⟨w.heap.size,1,none⟩=some (.slice ga m gc)∧w'.cell? ⟨p,0,none⟩=some (.slice ia n ic)) (go_keep)
     (first|(go_at_call 56;refine (countS_any p n ic ia _ ?_).mono ?_;(simp[*]);rintro e w' ⟨rfl,rfl⟩)|(go_at_call 55;refine (hrs 1).mono ?_;rintro e w3 ⟨q,rfl,htg,hb3⟩;have z0:=(hb3.cell (p:=⟨w.heap.size,1,none⟩) hsz.1).trans l0;have z1:=(hb3.cell (p:=⟨p,0,none⟩) hsz.2.1).trans l1;obtain ⟨x0,x1,f0,f1,HR⟩:=res_cells HRB.out hb3 hsz.2.2))
    go_wp2
    obtain ⟨s0,s1,s2⟩:=two_set HR.out (.pointer (some ⟨p,0,none⟩)) (.pointer (some ⟨q,0,none⟩))
    refine bodyPost_ret (v:= .tuple #[.agg #[.pointer (some ⟨p,0,none⟩),.pointer (some ⟨q,0,none⟩)],.int .i64 0]) (by simp[results,Tryz.results23,go_sem,s0,s1]) rfl ⟨?_,.inl ⟨HF.out,p,q,w2.heap.size,rfl,?_,?_,?_,by omega⟩⟩
    ·exact (((HBX.out.trans (hlf.2.mono (by simp;omega))).trans (hb3.mono (by omega))).setCell (by simp) _).setCell (by simp) _
    ·exact (((hlf.1.below hb3).set (by simp) _).set (by simp) _).mono (by simp;omega)
    ·refine hlf.1.top.of_block ?_
     have hpb:p≠w.heap.size+1:=by obtain ⟨iv,B,hp,hbp,_⟩:=hlf.1;simp at hbp;omega
     exact (Below.heap_setCell _ ⟨w.heap.size+1,1,none⟩ _ p hpb).trans ((Below.heap_setCell _ ⟨w.heap.size+1,0,none⟩ _ p hpb).trans (hb3.block p hsz.2.1))
    ·exact (htg.set hsz.2.2 _).set hsz.2.2 _
   ·obtain ⟨c,hc⟩:∃c,c=sgo n [] gs:=⟨_,rfl⟩
    have hcz:c≠0:=by rw[hc];exact hg0
    have HF:Hid (flt ss gs=c):=flt_signs HN.out HM.out HB.out HT0.out hc.symm
    have HC:Hid (c=sgo n [] gs):=hc
    clear hc hg0
    go_enter Tryz.func23,Tryz.ntmps23
    go_wp2_with (first|(go_at_call 54;refine hrt'.mono ?_;rintro e w2 ⟨p,rfl,hlf⟩))
    clear hrt'
    obtain ⟨ia,ic,l0,l1,HSG,hsz,HRB⟩:=lf_facts HN.out HGG.out hlf
    have hrs:∀j,Calls Tryz.prog 55 #[.slice ga m gc,.int .i64 n] (w2.drewN j) fun e w'=>e= .returned (.tuple #[.pointer none,.int .i64 c])∧Below w2.heap.size w2 w':=fun j=>(readSigns_any ga m gc gs n _ h120 HW.out (HSG.out j)).mono fun e w' (h:RG n gs _ w' e)=>by
     rcases h with ⟨hb,h|h⟩
     ·exact absurd (HC.out.trans h.1) hcz
     ·exact ⟨by rw[HC.out];exact h.2,(Joins.below_draws _ w2 j).trans hb⟩
    go_region_held3 (fun w'=>w'.cell? ⟨w.heap.size,1,none⟩=some (.slice ga m gc)∧w'.cell? ⟨p,0,none⟩=some (.slice ia n ic)) (go_keep)
     (first|(go_at_call 56;refine (countS_any p n ic ia _ ?_).mono ?_;(simp[*]);rintro e w' ⟨rfl,rfl⟩)|(go_at_call 55;refine (hrs 1).mono ?_;rintro e w3 ⟨rfl,hb3⟩;have z0:=(hb3.cell (p:=⟨w.heap.size,1,none⟩) hsz.1).trans l0;have z1:=(hb3.cell (p:=⟨p,0,none⟩) hsz.2.1).trans l1;obtain ⟨x0,x1,f0,f1,HR⟩:=res_cells HRB.out hb3 hsz.2.2))
    go_wp2
    obtain ⟨s0,s1,s2⟩:=two_set HR.out (.pointer none) (.pointer none)
    refine bodyPost_ret (v:= .tuple #[.agg #[.pointer none,.pointer none],.int .i64 c]) (by simp[results,Tryz.results23,go_sem,s0,s1]) rfl ⟨?_,.inr ⟨by rw[HF.out];exact hcz,by rw[HF.out]⟩⟩
    exact (((HBX.out.trans (hlf.2.mono (by simp;omega))).trans (hb3.mono (by omega))).setCell (by simp) _).setCell (by simp) _
  ·obtain ⟨c,hc⟩:∃c,c=tgo [] ss:=⟨_,rfl⟩
   have hcz:c≠0:=by rw[hc];exact ht
   have HF:Hid (flt ss gs=c):=flt_texts HN.out HM.out HB.out hc.symm hcz
   have hrt':=hrt.mono fun e w' (h:RT ss _ w' e)=>show e= .returned (.tuple #[.pointer none,.int .i64 c])∧Below ((w.alloc (.cells #[.slice ta n tc,.slice ga m gc] 27)).alloc (.cells #[.pointer none,.pointer none] 71)).heap.size ((w.alloc (.cells #[.slice ta n tc,.slice ga m gc] 27)).alloc (.cells #[.pointer none,.pointer none] 71)) w' by
    rcases h with ⟨hb,h|h⟩
    ·exact absurd h.1 ht
    ·exact ⟨by rw[hc];exact h.2,hb⟩
   clear hrt hc ht
   go_enter Tryz.func23,Tryz.ntmps23
   go_wp2_with (first|(go_at_call 54;refine hrt'.mono ?_;rintro e w2 ⟨rfl,hb2⟩;obtain ⟨x0,x1,f0,f1,HR⟩:=res_cells (w:=(w.alloc (.cells #[.slice ta n tc,.slice ga m gc] 27)).alloc (.cells #[.pointer none,.pointer none] 71)) (b:=w.heap.size+1) (by rw[show w.heap.size+1=(w.alloc (.cells #[.slice ta n tc,.slice ga m gc] 27)).heap.size by simp];exact heap_alloc_new _ _) hb2 (by simp)))
   obtain ⟨s0,s1,s2⟩:=two_set HR.out (.pointer none) (.pointer none)
   refine bodyPost_ret (v:= .tuple #[.agg #[.pointer none,.pointer none],.int .i64 c]) (by simp[results,Tryz.results23,go_sem,s0,s1]) rfl ⟨?_,.inr ⟨by rw[HF.out];exact hcz,by rw[HF.out]⟩⟩
   exact ((HBX.out.trans (hb2.mono (by simp;omega))).setCell (by simp) _).setCell (by simp) _
end Go.Proofs.YtagokfoimokniaaGreatDoor

namespace Go.Proofs.YtagokfoimokniaaGreatDoor
open Go.RowKit Go.Maps

theorem l1In_any (v lo hi : Int) (w : World) : Calls Tryz.prog 60 #[.int .i64 v, .int .i64 lo, .int .i64 hi] w fun e w' => e = .returned (.bool (inB v lo hi)) ∧ w' = w := by
  by_cases h1 : lo ≤ v
  · by_cases h2 : v ≤ hi
    · have hb : inB v lo hi = true := by simp [inB, h1, h2]
      rw [hb]
      go_enter Tryz.func60, Tryz.ntmps60
      go_wp2
      go_ret
      exact ⟨rfl, rfl⟩
    · have hb : inB v lo hi = false := by simp [inB, h2]
      rw [hb]
      go_enter Tryz.func60, Tryz.ntmps60
      go_wp2
      go_ret
      exact ⟨rfl, rfl⟩
  · have hb : inB v lo hi = false := by simp [inB, h1]
    rw [hb]
    go_enter Tryz.func60, Tryz.ntmps60
    go_wp2
    go_ret
    exact ⟨rfl, rfl⟩

theorem l1Key_any (v : Int) (w : World) : Calls Tryz.prog 59 #[.int .i64 v] w fun e w' => e = .returned (.bool (inB v 1 999)) ∧ w' = w := by
  go_enter Tryz.func59, Tryz.ntmps59
  go_wp2_with (go_at_call 60; refine (l1In_any _ _ _ _).mono ?_; rintro e w' ⟨rfl, rfl⟩)
  go_ret
  exact ⟨rfl, rfl⟩

set_option maxHeartbeats 400000 in
theorem l1At_any (a : Option Addr) (n cap : Nat) (ss : List ByteArray) (x : ByteArray) (w : World) (hl : n ≤ maxLen) (hs : SAt w a n ss) :
    Calls Tryz.prog 31 #[.slice a n cap, .string x] w fun e w' => e = .returned (.int .i64 (num ss x : Nat)) ∧ w' = w := by
  unfold maxLen at hl
  obtain ⟨hn, hs⟩ := hs
  rcases hs with rfl | ⟨b, off, rfl, hb, hc⟩
  · obtain rfl : ss = [] := List.length_eq_zero_iff.1 hn
    go_enter Tryz.func31, Tryz.ntmps31
    go_wp2
    refine wp_loop_rounds 1 ?_
    rw [rounds_succ]
    go_wp2
    go_ret
    exact ⟨rfl, rfl⟩
  · have HN : Hid (ss.length = n) := hn
    clear hn
    go_enter Tryz.func31, Tryz.ntmps31
    go_wp2
    go_loop [5] (fun i => ∃ k : Nat, k ≤ n ∧ i = .int .i64 k ∧ Hid (x ∉ ss.take k)) (fun i => n - (intOf i).toNat)
    case atStart => exact ⟨0, Nat.zero_le _, rfl, by show x ∉ _; simp⟩
    case round =>
      obtain ⟨k, hk, rfl, hj⟩ := hrel
      by_cases hlt : k < n
      · obtain ⟨s, hs⟩ : ∃ s, s = ss.getD k E0 := ⟨_, rfl⟩
        have hcx := hc k hlt
        rw [← hs] at hcx
        have HS : Hid (s = ss.getD k E0) := hs
        clear hs hc
        by_cases he : s = x
        · have hy := str_yes he
          clear he
          go_wp2
          go_ret
          exact ⟨ret_int (by rw [num_hit ss x E0 k (by rw [HN.out]; exact hlt) (by rw [← HS.out]; exact Classical.byContradiction fun e => by rw [str_no e] at hy; cases hy) hj.out]; omega), rfl⟩
        · have hy := str_no he
          have HE : Hid (¬ s = x) := he
          clear he
          go_wp2
          go_round
          case rel =>
            refine ⟨k + 1, by omega, by go_num, ?_⟩
            show x ∉ _
            rw [take_snoc ss E0 k (by rw [HN.out]; exact hlt), ← HS.out]
            simp only [List.mem_append, List.mem_singleton, not_or]
            exact ⟨hj.out, fun e => HE.out e.symm⟩
          case measure => simp [intOf]; omega
      · go_wp2
        go_ret
        exact ⟨ret_int (by rw [(num_zero ss x).2 (by have := hj.out; rwa [List.take_of_length_le (by rw [HN.out]; omega)] at this)]; rfl), rfl⟩

theorem signed_more {gs : List (Int × Int)} {n k : Nat} {x g : Int × Int} (hn : gs.length = n) (hlt : k < n) (hj : x ∉ gs.take k) (hg : g = gs.getD k G0) (hne : ¬ g = x) : Hid (x ∉ gs.take (k + 1)) := by
  show x ∉ _
  rw [take_snoc gs G0 k (by omega), ← hg]
  simp only [List.mem_append, List.mem_singleton, not_or]
  exact ⟨hj, fun e => hne e.symm⟩

def memB (gs : List (Int × Int)) (x : Int × Int) : Bool := num gs x != 0

set_option maxHeartbeats 400000 in
theorem l1Signed_any (a : Option Addr) (n cap : Nat) (gs : List (Int × Int)) (p q : Int) (w : World) (hl : n ≤ maxLen) (hs : GAt w a n gs) :
    Calls Tryz.prog 61 #[.slice a n cap, .agg #[.int .i64 p, .int .i64 q]] w fun e w' => e = .returned (.bool (memB gs (p, q))) ∧ Below w.heap.size w w' := by
  unfold maxLen at hl
  obtain ⟨hn, hs⟩ := hs
  rcases hs with rfl | ⟨b, off, rfl, hb, hc⟩
  · obtain rfl : gs = [] := List.length_eq_zero_iff.1 hn
    go_enter Tryz.func61, Tryz.ntmps61
    go_wp2
    refine wp_loop_rounds 1 ?_
    rw [rounds_succ]
    go_wp2
    go_ret
    exact ⟨rfl, (Below.refl _ _).alloc (Nat.le_refl _) _⟩
  · have HN : Hid (gs.length = n) := hn
    clear hn
    go_enter Tryz.func61, Tryz.ntmps61
    go_wp2
    go_loopw [5] (fun i wr => ∃ k : Nat, k ≤ n ∧ i = .int .i64 k ∧ Hid ((p, q) ∉ gs.take k) ∧ wr.cell? ⟨w.heap.size, 0, none⟩ = some (.int .i64 p) ∧ wr.cell? ⟨w.heap.size, 1, none⟩ = some (.int .i64 q) ∧ Below w.heap.size w wr) (fun i _ => n - (intOf i).toNat)
    case atStart => exact ⟨0, Nat.zero_le _, rfl, by show (p, q) ∉ _; simp, by simp, by simp, (Below.refl _ _).alloc (Nat.le_refl _) _⟩
    case round =>
      obtain ⟨k, hk, rfl, hj, hp, hq, hbel⟩ := hrel
      by_cases hlt : k < n
      · obtain ⟨g, hg⟩ : ∃ g, g = gs.getD k G0 := ⟨_, rfl⟩
        have hcx := hc k hlt
        rw [← hg] at hcx
        obtain ⟨g1, g2⟩ := g
        have c0 := (hbel.cell (p := ⟨b, off + k * 2, none⟩) hb).trans hcx.1
        have c1 := (hbel.cell (p := ⟨b, off + k * 2 + 1, none⟩) hb).trans hcx.2
        have HG : Hid ((g1, g2) = gs.getD k G0) := hg
        clear hg hc hcx
        have hki : (k : Int) < (n : Int) := by omega
        by_cases h1 : g1 = p
        · have e1 : (g1 == p) = true := by simp [h1]
          have H1 : Hid (g1 = p) := h1
          clear h1
          by_cases h2 : g2 = q
          · have e2 : (g2 == q) = true := by simp [h2]
            have H2 : Hid (g2 = q) := h2
            clear h2
            go_wp2
            go_quiet (fail)
            go_wp2
            go_ret
            refine ⟨?_, hbel.trans (Joins.below_draws _ _ _)⟩
            have hm : memB gs (p, q) = true := by
              unfold memB
              rw [num_hit gs (p, q) G0 k (by rw [HN.out]; exact hlt) (by rw [← HG.out, H1.out, H2.out]) hj.out]
              simp
            rw [hm]; rfl
          · have e2 : (g2 == q) = false := by simp [h2]
            have H2 : Hid (¬ (g1, g2) = (p, q)) := fun e => h2 (by simpa using congrArg Prod.snd e)
            clear h2
            go_wp2
            go_quiet (fail)
            go_wp2
            go_roundw
            case rel => exact ⟨k + 1, by omega, by go_num, signed_more HN.out hlt hj.out HG.out H2.out, by simpa using hp, by simpa using hq, hbel.trans (Joins.below_draws _ _ _)⟩
            case measure => simp [intOf]; omega
        · have e1 : (g1 == p) = false := by simp [h1]
          have H2 : Hid (¬ (g1, g2) = (p, q)) := fun e => h1 (by simpa using congrArg Prod.fst e)
          clear h1
          go_wp2
          go_quiet (fail)
          go_wp2
          go_roundw
          case rel => exact ⟨k + 1, by omega, by go_num, signed_more HN.out hlt hj.out HG.out H2.out, by simpa using hp, by simpa using hq, hbel.trans (Joins.below_draws _ _ _)⟩
          case measure => simp [intOf]; omega
      · go_wp2
        go_ret
        refine ⟨?_, hbel⟩
        have hm : memB gs (p, q) = false := by
          unfold memB
          rw [(num_zero gs (p, q)).2 (by have := hj.out; rwa [List.take_of_length_le (by rw [HN.out]; omega)] at this)]
          rfl
        rw [hm]; rfl

end Go.Proofs.YtagokfoimokniaaGreatDoor

namespace Go.Proofs.YtagokfoimokniaaGreatDoor
open Go.RowKit Go.Maps

set_option maxHeartbeats 1000000 in
theorem l1Fault_any (L n m tc gc : Nat) (ta ga : Option Addr) (ss : List ByteArray) (gs : List (Int × Int)) (w : World) (hL : L < w.heap.size) (hT : w.cell? ⟨L, 0, none⟩ = some (.slice ta n tc)) (hG : w.cell? ⟨L, 1, none⟩ = some (.slice ga m gc))
    (htc : n ≤ tc) (hgc : m ≤ gc) (htm : tc ≤ maxLen) (hgm : gc ≤ maxLen) (hz : ∀ j, (ss.getD j E0).size ≤ maxLen) (hs : SAt w ta n ss) (hg : GAt w ga m gs) :
    Calls Tryz.prog 26 #[.pointer (some ⟨L, 0, none⟩)] w fun e w' => e = .returned (.int .i64 (flt ss gs)) ∧ Below w.heap.size w w' := by
  have HN : Hid (ss.length = n) := hs.1
  have HM : Hid (gs.length = m) := hg.1
  have htm' := htm
  have hgm' := hgm
  unfold maxLen at htm' hgm' hz
  by_cases hbig : 60 < n ∨ 120 < m
  · have hf := flt_many HN.out HM.out hbig
    rw [hf]
    clear hf
    by_cases h60 : 60 < n
    · go_enter Tryz.func26, Tryz.ntmps26
      go_wp2
      go_ret
      exact ⟨rfl, Below.refl _ _⟩
    · have h120 : 120 < m := by omega
      go_enter Tryz.func26, Tryz.ntmps26
      go_wp2
      go_ret
      exact ⟨rfl, Below.refl _ _⟩
  · have h60 : n ≤ 60 := by omega
    have h120 : m ≤ 120 := by omega
    have HB : Hid (¬ (60 < n ∨ 120 < m)) := hbig
    have HSS : Hid (SAt w ta n ss) := hs
    have HGG : Hid (GAt w ga m gs) := hg
    clear hbig hs hg
    go_enter Tryz.func26, Tryz.ntmps26
    go_wp2
    go_loopw [3] (fun i wr => ∃ k : Nat, k ≤ n ∧ i = .int .i64 k ∧ Hid (tgo [] ss = tAt ss k) ∧ Below w.heap.size w wr) (fun i _ => n - (intOf i).toNat)
    case atStart => exact ⟨0, Nat.zero_le _, rfl, (tAt_zero ss).symm, Below.refl _ _⟩
    case round =>
      obtain ⟨k, hk, rfl, hinv, hbel⟩ := hrel
      have hT1 := (hbel.cell (p := ⟨L, 0, none⟩) hL).trans hT
      have hG1 := (hbel.cell (p := ⟨L, 1, none⟩) hL).trans hG
      by_cases hlt : k < n
      · rcases HSS.out.2 with h0 | ⟨b, off, ha, hb, hc⟩
        · omega
        subst ha
        obtain ⟨s, hs⟩ : ∃ s, s = ss.getD k E0 := ⟨_, rfl⟩
        have hcx := (hbel.cell (p := ⟨b, off + k, none⟩) hb).trans (hc k hlt)
        have hsz := hz k
        rw [← hs] at hcx hsz
        have HS : Hid (s = ss.getD k E0) := hs
        clear hs hc hz
        by_cases hs1 : s.size < 1
        · go_wp2
          go_ret
          exact ⟨ret_int (flt_texts HN.out HM.out HB.out (t_short HN.out hlt HS.out (.inl hs1) hinv.out) (by omega)).symm, hbel⟩
        by_cases hs2 : 300 < s.size
        · go_wp2
          go_ret
          exact ⟨ret_int (flt_texts HN.out HM.out HB.out (t_short HN.out hlt HS.out (.inr hs2) hinv.out) (by omega)).symm, hbel⟩
        have hsd : ∀ j, SAt (wr.drewN j) (some ⟨b, off, none⟩) k (ss.take k) := fun j => ((HSS.out.below hbel (Nat.le_refl _)).take hk).below (Joins.below_draws _ wr j) (Nat.le_refl _)
        have hki : (k : Int) < (n : Int) := by omega
        have hkc : (k : Int) ≤ (tc : Int) := by omega
        have hkm : k ≤ maxLen := by unfold maxLen; omega
        obtain ⟨c, hcn⟩ : ∃ c : Nat, c = num (ss.take k) s := ⟨_, rfl⟩
        have HC : Hid (c = num (ss.take k) s) := hcn
        have hcle : c ≤ 60 := by rw [hcn]; have := num_le (ss.take k) s; simp at this; omega
        have hcall : ∀ (j cap : Nat), Calls Tryz.prog 31 #[.slice (some ⟨b, off, none⟩) k cap, .string s] (wr.drewN j) fun e w' => e = .returned (.int .i64 (c : Nat)) ∧ w' = wr.drewN j := fun j cap => by rw [hcn]; exact l1At_any _ _ _ _ _ _ hkm (hsd j)
        clear hcn hsd
        go_wp2
        go_quiet (first | (go_at_call 31; refine Calls.quiet_of_same (hcall _ _)))
        go_wp2
        · have hpos : 0 < c := by assumption
          go_ret
          exact ⟨ret_int (flt_texts HN.out HM.out HB.out (t_taken HN.out hlt HS.out (by omega) (by rw [← HC.out]; omega) hinv.out) (by omega)).symm, hbel.trans (Joins.below_draws _ _ _)⟩
        · have hpos : ¬ 0 < c := by assumption
          go_roundw
          case rel => exact ⟨k + 1, by omega, by go_num, t_next HN.out hlt HS.out (by omega) (by rw [← HC.out]; omega) hinv.out, hbel.trans (Joins.below_draws _ _ _)⟩
          case measure => simp [intOf]; omega
      · have HT0 : Hid (tgo [] ss = 0) := t_done HN.out hk hlt hinv.out
        clear hinv hz
        go_wp2
        go_loopw [4] (fun i wr => ∃ k : Nat, k ≤ m ∧ i = .int .i64 k ∧ Hid (sgo n [] gs = gAt n gs k) ∧ Below w.heap.size w wr) (fun i _ => m - (intOf i).toNat)
        case atStart => exact ⟨0, Nat.zero_le _, rfl, (gAt_zero n gs).symm, hbel⟩
        case round =>
          clear hT1 hG1 hbel hk hlt
          obtain ⟨k, hk, rfl, hinv, hbel⟩ := hrel
          have hT1 := (hbel.cell (p := ⟨L, 0, none⟩) hL).trans hT
          have hG1 := (hbel.cell (p := ⟨L, 1, none⟩) hL).trans hG
          by_cases hlt : k < m
          · rcases HGG.out.2 with h0 | ⟨b, off, ha, hb, hc⟩
            · omega
            subst ha
            obtain ⟨g, hg⟩ : ∃ g, g = gs.getD k G0 := ⟨_, rfl⟩
            have hcx := hc k hlt
            rw [← hg] at hcx
            obtain ⟨g1, g2⟩ := g
            have c0 := (hbel.cell (p := ⟨b, off + k * 2, none⟩) hb).trans hcx.1
            have c1 := (hbel.cell (p := ⟨b, off + k * 2 + 1, none⟩) hb).trans hcx.2
            have HG : Hid ((g1, g2) = gs.getD k G0) := hg
            clear hg hc hcx
            have hki : (k : Int) < (m : Int) := by omega
            have hLw : L < wr.heap.size := Nat.lt_of_lt_of_le hL hbel.size
            have hbw : b < wr.heap.size := Nat.lt_of_lt_of_le hb hbel.size
            have hkc : (k : Int) ≤ (gc : Int) := by omega
            have hkm : k ≤ maxLen := by unfold maxLen; omega
            have hgd : ∀ j, GAt (wr.drewN j) (some ⟨b, off, none⟩) k (gs.take k) := fun j => ((HGG.out.below hbel (Nat.le_refl _)).take hk).below (Joins.below_draws _ wr j) (Nat.le_refl _)
            by_cases hk1 : inB g1 1 999 = true
            · by_cases hk2 : inB g2 1 n = true
              · go_wp2
                go_quiet (first | (go_at_call 59; refine Calls.quiet_of_same (l1Key_any _ _)) | (go_at_call 60; refine Calls.quiet_of_same (l1In_any _ _ _ _)))
                go_wp2
                go_region_held3 (fun w' => w'.cell? ⟨L, 1, none⟩ = some (.slice (some ⟨b, off, none⟩) m gc) ∧ w'.cell? ⟨b, off + k * 2, none⟩ = some (.int .i64 g1) ∧ w'.cell? ⟨b, off + k * 2 + 1, none⟩ = some (.int .i64 g2)) (go_keep)
                  (first | (go_at_call 61; refine (l1Signed_any _ _ _ _ _ _ _ hkm (hgd _)).mono ?_; rintro e w3 ⟨rfl, hb3⟩; have q1 := (hb3.cell (p := ⟨L, 1, none⟩) hLw).trans hG1; have q2 := (hb3.cell (p := ⟨b, off + k * 2, none⟩) hbw).trans c0; have q3 := (hb3.cell (p := ⟨b, off + k * 2 + 1, none⟩) hbw).trans c1))
                all_goals go_wp2
                · have hmem : memB (gs.take k) (g1, g2) = true := by assumption
                  go_ret
                  exact ⟨ret_int (flt_signs HN.out HM.out HB.out HT0.out (g_taken HM.out hlt HG.out ⟨(inB_true.1 hk1).1, (inB_true.1 hk1).2, (inB_true.1 hk2).1, (inB_true.1 hk2).2⟩ (by simpa [memB] using hmem) hinv.out)).symm, (hbel.trans (Joins.below_draws _ _ _)).trans (hb3.mono hbel.size)⟩
                · have hmem : memB (gs.take k) (g1, g2) = false := by assumption
                  go_roundw
                  case rel => exact ⟨k + 1, by omega, by go_num, g_next HM.out hlt HG.out ⟨(inB_true.1 hk1).1, (inB_true.1 hk1).2, (inB_true.1 hk2).1, (inB_true.1 hk2).2⟩ (by simpa [memB] using hmem) hinv.out, (hbel.trans (Joins.below_draws _ _ _)).trans (hb3.mono hbel.size)⟩
                  case measure => simp [intOf]; omega
              · have hk2' : inB g2 1 n = false := by simpa using hk2
                clear hk2
                go_wp2
                go_quiet (first | (go_at_call 59; refine Calls.quiet_of_same (l1Key_any _ _)) | (go_at_call 60; refine Calls.quiet_of_same (l1In_any _ _ _ _)))
                go_wp2
                go_ret
                exact ⟨ret_int (flt_signs HN.out HM.out HB.out HT0.out (g_range HM.out hlt HG.out (fun e => inB_false.1 hk2' ⟨e.2.2.1, e.2.2.2⟩) hinv.out)).symm, hbel.trans (Joins.below_draws _ _ _)⟩
            · have hk1' : inB g1 1 999 = false := by simpa using hk1
              clear hk1
              go_wp2
              go_quiet (first | (go_at_call 59; refine Calls.quiet_of_same (l1Key_any _ _)) | (go_at_call 60; refine Calls.quiet_of_same (l1In_any _ _ _ _)))
              go_wp2
              go_ret
              exact ⟨ret_int (flt_signs HN.out HM.out HB.out HT0.out (g_range HM.out hlt HG.out (fun e => inB_false.1 hk1' ⟨e.1, e.2.1⟩) hinv.out)).symm, hbel.trans (Joins.below_draws _ _ _)⟩
          · go_wp2
            go_ret
            exact ⟨ret_int (flt_signs HN.out HM.out HB.out HT0.out (g_done HM.out hk hlt hinv.out)).symm, hbel⟩

end Go.Proofs.YtagokfoimokniaaGreatDoor

namespace Go.Proofs.YtagokfoimokniaaGreatDoor
open Go.RowKit Go.Maps

end Go.Proofs.YtagokfoimokniaaGreatDoor

namespace Go.Proofs.YtagokfoimokniaaGreatDoor
open Go.RowKit Go.Maps

end Go.Proofs.YtagokfoimokniaaGreatDoor

namespace Go.Proofs.YtagokfoimokniaaGreatDoor
open Go.RowKit Go.Maps

end Go.Proofs.YtagokfoimokniaaGreatDoor

namespace Go.Proofs.YtagokfoimokniaaGreatDoor
open Go.RowKit Go.Maps

/-- What is known of a ledger that came in: its texts and its signatures. -/
structure LedAt (w : World) (ta : Option Addr) (n : Nat) (ga : Option Addr) (m : Nat) (ss : List ByteArray) (gs : List (Int × Int)) : Prop where
  s : SAt w ta n ss
  g : GAt w ga m gs

theorem LedAt.below {w w' : World} {ta ga : Option Addr} {n m : Nat} {ss : List ByteArray} {gs : List (Int × Int)} (h : LedAt w ta n ga m ss gs) {B : Nat} (hb : Below B w w') (hB : w.heap.size ≤ B) : LedAt w' ta n ga m ss gs :=
  ⟨h.s.below hb hB, h.g.below hb hB⟩

theorem below_box {w : World} (o : Obj) : Below w.heap.size w (w.alloc o) := (Below.refl _ _).alloc (Nat.le_refl _) _
theorem below_box2 {w : World} (o o' : Obj) : Below w.heap.size w ((w.alloc o).alloc o') := (below_box o).alloc (by simp) _
theorem below_box3 {w : World} (o o' o2 : Obj) : Below w.heap.size w (((w.alloc o).alloc o').alloc o2) := (below_box2 o o').alloc (by simp; omega) _

theorem block_at2 {w : World} {o o' : Obj} : ((w.alloc o).alloc o').heap[w.heap.size]? = some o := (Below.heap_alloc _ _ _ (by simp)).trans (heap_alloc_new w o)

/-- A ledger's copy: two slices of new memory. -/
def OwnL (w : World) (base n m : Nat) (ss : List ByteArray) (gs : List (Int × Int)) (g0 k0 g1 k1 : Nat) : Prop :=
  w.ownsRow base 9 1 (.slice (some ⟨g0, 0, none⟩) n k0) n (ss.map Value.string) ∧ w.ownsRow base 111 2 (.slice (some ⟨g1, 0, none⟩) m k1) m (gcells gs)

theorem OwnL.led {w : World} {base n m : Nat} {ss : List ByteArray} {gs : List (Int × Int)} {g0 k0 g1 k1 : Nat} (h : OwnL w base n m ss gs g0 k0 g1 k1) (hn : ss.length = n) (hm : gs.length = m) : LedAt w (some ⟨g0, 0, none⟩) n (some ⟨g1, 0, none⟩) m ss gs :=
  ⟨SAt.owned h.1 hn, GAt.owned h.2 hm⟩

theorem OwnL.below {w w' : World} {base n m : Nat} {ss : List ByteArray} {gs : List (Int × Int)} {g0 k0 g1 k1 : Nat} (h : OwnL w base n m ss gs g0 k0 g1 k1) (hb : Below w.heap.size w w') : OwnL w' base n m ss gs g0 k0 g1 k1 := by
  have hg : w.grownBy w' none := ⟨hb.os, hb.tape, hb.output, hb.size, fun k hk _ => hb.block k hk⟩
  exact ⟨h.1.kept hg (by simp [Value.ownBlock]), h.2.kept hg (by simp [Value.ownBlock])⟩

theorem OwnL.caps {w : World} {base n m : Nat} {ss : List ByteArray} {gs : List (Int × Int)} {g0 k0 g1 k1 : Nat} (h : OwnL w base n m ss gs g0 k0 g1 k1) : n ≤ k0 ∧ m ≤ k1 ∧ k0 ≤ maxLen ∧ k1 ≤ maxLen := by
  rcases h.1.2 with ⟨e, _⟩ | ⟨_, _, _, e, _, _, h1, h2, _⟩
  · cases e
  rcases h.2.2 with ⟨e', _⟩ | ⟨_, _, _, e', _, _, h3, h4, _⟩
  · cases e'
  simp at e e'
  omega

/-- The three blocks that a ledger's copy lays. -/
theorem three_blocks (w : World) (o o' o2 : Obj) : (((w.alloc o).alloc o').alloc o2).heap[w.heap.size]? = some o ∧ (((w.alloc o).alloc o').alloc o2).heap[w.heap.size + 1]? = some o' ∧ (((w.alloc o).alloc o').alloc o2).heap[w.heap.size + 1 + 1]? = some o2 ∧ (((w.alloc o).alloc o').alloc o2).heap.size = w.heap.size + 1 + 1 + 1 := by
  refine ⟨(Below.heap_alloc _ _ _ (by simp; omega)).trans block_at2, ?_, ?_, by simp⟩
  · have := Below.heap_alloc ((w.alloc o).alloc o') o2 (w.heap.size + 1) (by simp)
    rw [this, show w.heap.size + 1 = (w.alloc o).heap.size by simp]
    exact heap_alloc_new _ _
  · rw [show w.heap.size + 1 + 1 = ((w.alloc o).alloc o').heap.size by simp]
    exact heap_alloc_new _ _

end Go.Proofs.YtagokfoimokniaaGreatDoor

namespace Go.Proofs.YtagokfoimokniaaGreatDoor
open Go.RowKit Go.Maps Go.WideMaps

/-- What the lists hold are values of Go: texts no longer than a length is, numbers of 64 bits. -/
structure Fine (ss : List ByteArray) (gs : List (Int × Int)) : Prop where
  s : ∀ j, (ss.getD j E0).size ≤ maxLen
  g : ∀ j, (Lit.int .i64 (gs.getD j G0).1).wf = true ∧ (Lit.int .i64 (gs.getD j G0).2).wf = true


end Go.Proofs.YtagokfoimokniaaGreatDoor

namespace Go.Proofs.YtagokfoimokniaaGreatDoor
open Go.RowKit Go.Maps Go.WideMaps

/-- Code and number of a text. -/
def idR (ss : List ByteArray) (gs : List (Int × Int)) (x : ByteArray) : Int × Int := if flt ss gs ≠ 0 then (flt ss gs, 0) else if num ss x = 0 then (4, 0) else (0, num ss x)

theorem idR_bad {ss : List ByteArray} {gs : List (Int × Int)} {x : ByteArray} {c : Int} (h : c = flt ss gs) (h0 : c ≠ 0) : idR ss gs x = (c, 0) := by unfold idR; rw [← h, if_pos h0]
theorem idR_none {ss : List ByteArray} {gs : List (Int × Int)} {x : ByteArray} (h : 0 = flt ss gs) (h0 : num ss x = 0) : idR ss gs x = (4, 0) := by unfold idR; rw [← h, if_neg (by simp), if_pos h0]
theorem idR_ok {ss : List ByteArray} {gs : List (Int × Int)} {x : ByteArray} (h : 0 = flt ss gs) {k : Nat} (hk : k = num ss x) (h0 : ¬ k = 0) : idR ss gs x = (0, (k : Int)) := by unfold idR; rw [← h, if_neg (by simp), ← hk, if_neg h0]

/-- What is known behind a call of two blocks that lie boxed ahead of it. -/
theorem box2_facts {w w2 : World} {a0 a1 b0 b1 : Value} {t t' : TypeId} (hb : Below ((w.alloc (.cells #[a0, a1] t)).alloc (.cells #[b0, b1] t')).heap.size ((w.alloc (.cells #[a0, a1] t)).alloc (.cells #[b0, b1] t')) w2) :
    w2.cell? ⟨w.heap.size, 0, none⟩ = some a0 ∧ w2.cell? ⟨w.heap.size, 1, none⟩ = some a1 ∧ w2.cell? ⟨w.heap.size + 1, 0, none⟩ = some b0 ∧ w2.cell? ⟨w.heap.size + 1, 1, none⟩ = some b1 ∧ w2.frozen? ⟨w.heap.size + 1, 0, none⟩ = false ∧ w2.frozen? ⟨w.heap.size + 1, 1, none⟩ = false ∧
    Hid (w2.heap[w.heap.size + 1]? = some (.cells #[b0, b1] t' (0, 0)) ∧ Below w.heap.size w w2 ∧ w2.heap[w.heap.size]? = some (.cells #[a0, a1] t (0, 0))) := by
  have h1 : ((w.alloc (.cells #[a0, a1] t)).alloc (.cells #[b0, b1] t')).heap[w.heap.size + 1]? = some (.cells #[b0, b1] t' (0, 0)) := by
    rw [show w.heap.size + 1 = (w.alloc (.cells #[a0, a1] t)).heap.size by simp]; exact heap_alloc_new _ _
  obtain ⟨x0, x1, _, _, HX⟩ := res_cells (block_at2 (w := w) (o := .cells #[a0, a1] t) (o' := .cells #[b0, b1] t')) hb (by simp; omega)
  obtain ⟨y0, y1, y2, y3, HY⟩ := res_cells h1 hb (by simp)
  exact ⟨x0, x1, y0, y1, y2, y3, HY.out, (below_box2 _ _).trans (hb.mono (by simp; omega)), HX.out⟩

/-- Below, behind the result's two stores. -/
theorem below_res {w w2 : World} (h : Below w.heap.size w w2) (v0 v1 : Value) : Below w.heap.size w ((w2.setCell ⟨w.heap.size + 1, 0, none⟩ v0).setCell ⟨w.heap.size + 1, 1, none⟩ v1) :=
  (h.setCell (p := ⟨w.heap.size + 1, 0, none⟩) (show w.heap.size ≤ w.heap.size + 1 by omega) _).setCell (p := ⟨w.heap.size + 1, 1, none⟩) (show w.heap.size ≤ w.heap.size + 1 by omega) _

theorem numS_tw {w : World} {base p : Nat} {l : List ByteArray} (x : ByteArray) (hx : x.size ≤ maxLen) (h : TwS w base p l) :
    Calls Tryz.prog 36 #[.pointer (some ⟨p, 0, none⟩), .string x] w fun e w' => e = .returned (.int .i64 (num l x : Nat)) ∧ w' = w := by
  obtain ⟨iv, B, hp, hbp, hbB, ho, ht⟩ := h
  exact numS_any p B l x w hx (by unfold World.cell?; rw [hp]; rfl) ht

theorem numG_tw {w : World} {base p : Nat} {l : List (Int × Int)} {a b : Int} (ha : (Lit.int .i64 a).wf = true) (hb : (Lit.int .i64 b).wf = true) (h : TwG w base p l) :
    Calls Tryz.prog 147 #[.pointer (some ⟨p, 0, none⟩), .agg #[.int .i64 a, .int .i64 b]] w fun e w' => e = .returned (.int .i64 (num l (a, b) : Nat)) ∧ Below w.heap.size w w' := by
  obtain ⟨iv, B, hp, hbp, hbB, ho, ht⟩ := h
  exact numG_any p B l a b w ha hb (lt_of_block hp) (by unfold World.cell?; rw [hp]; rfl) ht

/-- The program's reading of a ledger that lies boxed, a result behind it: where it has no fault. -/
theorem read_ok {w : World} {n m tc gc : Nat} {ta ga : Option Addr} {ss : List ByteArray} {gs : List (Int × Int)} {b0 b1 : Value} {t' : TypeId} (hf : Fine ss gs) (h : LedAt w ta n ga m ss gs) (h0 : 0 = flt ss gs) :
    Calls Tryz.prog 23 #[.agg #[.slice ta n tc, .slice ga m gc]] ((w.alloc (.cells #[.slice ta n tc, .slice ga m gc] 27)).alloc (.cells #[b0, b1] t')) fun e w' => ∃ p q top, e = .returned (.tuple #[.agg #[.pointer (some ⟨p, 0, none⟩), .pointer (some ⟨q, 0, none⟩)], .int .i64 0]) ∧
      Below ((w.alloc (.cells #[.slice ta n tc, .slice ga m gc] 27)).alloc (.cells #[b0, b1] t')).heap.size ((w.alloc (.cells #[.slice ta n tc, .slice ga m gc] 27)).alloc (.cells #[b0, b1] t')) w' ∧
      Hid (TwS w' (w.heap.size + 2) p ss ∧ TopS w' p top ∧ TwG w' top q gs ∧ w.heap.size + 2 ≤ top) := by
  have hb : Below w.heap.size w ((w.alloc (.cells #[.slice ta n tc, .slice ga m gc] 27)).alloc (.cells #[b0, b1] t')) := below_box2 _ _
  refine (readLedger_any n m tc gc ta ga ss gs _ hf.s hf.g (h.s.below hb (Nat.le_refl _)) (h.g.below hb (Nat.le_refl _))).mono fun e w' hr => ?_
  rcases hr with ⟨hbl, ⟨_, p, q, top, he, h1, h2, h3, h4⟩ | ⟨hn, _⟩⟩
  · have hs : ((w.alloc (.cells #[.slice ta n tc, .slice ga m gc] 27)).alloc (.cells #[b0, b1] t')).heap.size = w.heap.size + 2 := by simp
    rw [hs] at h1 h4
    exact ⟨p, q, top, he, hbl, h1, h2, h3, h4⟩
  · exact absurd h0.symm hn

/-- .. and where it has one. -/
theorem read_bad {w : World} {n m tc gc : Nat} {ta ga : Option Addr} {ss : List ByteArray} {gs : List (Int × Int)} {b0 b1 : Value} {t' : TypeId} {c : Int} (hf : Fine ss gs) (h : LedAt w ta n ga m ss gs) (hc : c = flt ss gs) (h0 : ¬ c = 0) :
    Calls Tryz.prog 23 #[.agg #[.slice ta n tc, .slice ga m gc]] ((w.alloc (.cells #[.slice ta n tc, .slice ga m gc] 27)).alloc (.cells #[b0, b1] t')) fun e w' => e = .returned (.tuple #[.agg #[.pointer none, .pointer none], .int .i64 c]) ∧
      Below ((w.alloc (.cells #[.slice ta n tc, .slice ga m gc] 27)).alloc (.cells #[b0, b1] t')).heap.size ((w.alloc (.cells #[.slice ta n tc, .slice ga m gc] 27)).alloc (.cells #[b0, b1] t')) w' := by
  have hb : Below w.heap.size w ((w.alloc (.cells #[.slice ta n tc, .slice ga m gc] 27)).alloc (.cells #[b0, b1] t')) := below_box2 _ _
  refine (readLedger_any n m tc gc ta ga ss gs _ hf.s hf.g (h.s.below hb (Nat.le_refl _)) (h.g.below hb (Nat.le_refl _))).mono fun e w' hr => ?_
  rcases hr with ⟨hbl, ⟨hn, _⟩ | ⟨_, he⟩⟩
  · exact absurd (hc.trans hn) h0
  · exact ⟨by rw [hc]; exact he, hbl⟩

/-- The blocks of before behind one block more. -/
theorem box2_more {w w2 : World} {b0 b1 : Value} {t' : TypeId} {o : Obj} (h : w2.heap[w.heap.size + 1]? = some (.cells #[b0, b1] t' (0, 0)) ∧ Below w.heap.size w w2) :
    (w2.alloc o).cell? ⟨w.heap.size + 1, 0, none⟩ = some b0 ∧ (w2.alloc o).cell? ⟨w.heap.size + 1, 1, none⟩ = some b1 ∧ (w2.alloc o).frozen? ⟨w.heap.size + 1, 0, none⟩ = false ∧ (w2.alloc o).frozen? ⟨w.heap.size + 1, 1, none⟩ = false ∧
      Hid ((w2.alloc o).heap[w.heap.size + 1]? = some (.cells #[b0, b1] t' (0, 0)) ∧ Below w.heap.size w (w2.alloc o)) := by
  obtain ⟨x0, x1, x2, x3, HX⟩ := res_cells h.1 (below_box o) (lt_of_block h.1)
  exact ⟨x0, x1, x2, x3, HX.out, h.2.alloc h.2.size _⟩

set_option maxHeartbeats 400000 in
theorem iIdOf_any (n m tc gc : Nat) (ta ga : Option Addr) (ss : List ByteArray) (gs : List (Int × Int)) (x : ByteArray) (w : World) (hx : x.size ≤ maxLen) (hf : Fine ss gs) (h : LedAt w ta n ga m ss gs) :
    Calls Tryz.prog 9 #[.agg #[.slice ta n tc, .slice ga m gc], .string x] w fun e w' => e = .returned (.agg #[.int .i64 (idR ss gs x).1, .int .i64 (idR ss gs x).2]) ∧ Below w.heap.size w w' := by
  obtain ⟨c, hc⟩ : ∃ c, c = flt ss gs := ⟨_, rfl⟩
  have HX : Hid (x.size ≤ maxLen) := hx
  clear hx
  by_cases hcz : c = 0
  · subst hcz
    have hrd := read_ok (tc := tc) (gc := gc) (b0 := .int .i64 0) (b1 := .int .i64 0) (t' := 36) hf h hc
    clear h hf
    obtain ⟨k, hk⟩ : ∃ k, k = num ss x := ⟨_, rfl⟩
    by_cases hk0 : k = 0
    · have hr := idR_none hc (x := x) (hk ▸ hk0)
      rw [hr]
      have HK : Hid (num ss x = 0) := hk ▸ hk0
      clear hr hc hk hk0
      go_enter Tryz.func9, Tryz.ntmps9
      go_wp2_with (first
        | (go_at_call 23; refine hrd.mono ?_; rintro e w2 ⟨p, q, top, rfl, hb2, HT⟩; obtain ⟨p0, p1, q0, q1, q2, q3, HB⟩ := box2_facts hb2; obtain ⟨r0, r1, r2, r3, HR⟩ := box2_more (o := .cells #[.pointer (some ⟨p, 0, none⟩), .pointer (some ⟨q, 0, none⟩)] 71) ⟨HB.out.1, HB.out.2.1⟩; have hat := numS_tw x HX.out (HT.out.1.below (below_box (.cells #[.pointer (some ⟨p, 0, none⟩), .pointer (some ⟨q, 0, none⟩)] 71))); rw [HK.out] at hat; clear p0 p1 q0 q1 q2 q3 hb2)
        | (go_at_call 36; refine hat.mono ?_; rintro e w3 ⟨rfl, hw⟩; subst hw))
      obtain ⟨s0, s1, s2⟩ := two_set HR.out.1 (.int .i64 4) (.int .i64 0)
      exact bodyPost_ret (v := .agg #[.int .i64 4, .int .i64 0]) (by simp [results, Tryz.results9, go_sem, s0, s1]) rfl ⟨rfl, below_res HR.out.2 _ _⟩
    · have hr := idR_ok hc hk hk0
      rw [hr]
      have hki : (k : Int) ≠ 0 := by omega
      have HK : Hid (num ss x = k) := hk.symm
      clear hr hc hk hk0
      go_enter Tryz.func9, Tryz.ntmps9
      go_wp2_with (first
        | (go_at_call 23; refine hrd.mono ?_; rintro e w2 ⟨p, q, top, rfl, hb2, HT⟩; obtain ⟨p0, p1, q0, q1, q2, q3, HB⟩ := box2_facts hb2; obtain ⟨r0, r1, r2, r3, HR⟩ := box2_more (o := .cells #[.pointer (some ⟨p, 0, none⟩), .pointer (some ⟨q, 0, none⟩)] 71) ⟨HB.out.1, HB.out.2.1⟩; have hat := numS_tw x HX.out (HT.out.1.below (below_box (.cells #[.pointer (some ⟨p, 0, none⟩), .pointer (some ⟨q, 0, none⟩)] 71))); rw [HK.out] at hat; clear p0 p1 q0 q1 q2 q3 hb2)
        | (go_at_call 36; refine hat.mono ?_; rintro e w3 ⟨rfl, hw⟩; subst hw))
      obtain ⟨s0, s1, s2⟩ := two_set HR.out.1 (.int .i64 0) (.int .i64 k)
      exact bodyPost_ret (v := .agg #[.int .i64 0, .int .i64 k]) (by simp [results, Tryz.results9, go_sem, s0, s1]) rfl ⟨rfl, below_res HR.out.2 _ _⟩
  · have hrd := read_bad (tc := tc) (gc := gc) (b0 := .int .i64 0) (b1 := .int .i64 0) (t' := 36) hf h hc hcz
    rw [idR_bad hc hcz]
    clear hc h hf
    go_enter Tryz.func9, Tryz.ntmps9
    go_wp2_with (first
      | (go_at_call 23; refine hrd.mono ?_; rintro e w2 ⟨rfl, hb2⟩; obtain ⟨p0, p1, q0, q1, q2, q3, HB⟩ := box2_facts hb2; obtain ⟨r0, r1, r2, r3, HR⟩ := box2_more (o := .cells #[.pointer none, .pointer none] 71) ⟨HB.out.1, HB.out.2.1⟩; clear p0 p1 q0 q1 q2 q3 hb2))
    obtain ⟨s0, s1, s2⟩ := two_set HR.out.1 (.int .i64 c) (.int .i64 0)
    exact bodyPost_ret (v := .agg #[.int .i64 c, .int .i64 0]) (by simp [results, Tryz.results9, go_sem, s0, s1]) rfl ⟨rfl, below_res HR.out.2 _ _⟩

end Go.Proofs.YtagokfoimokniaaGreatDoor

namespace Go.Proofs.YtagokfoimokniaaGreatDoor
open Go.RowKit Go.Maps Go.WideMaps

theorem keepb {v v' : World} {b : Nat} {o : Obj} (h : v.heap[b]? = some o) (hb : Below v.heap.size v v') : Hid (v'.heap[b]? = some o) := (hb.block b (lt_of_block h)).trans h
theorem cells2 {v : World} {b : Nat} {a0 a1 : Value} {t : TypeId} (h : v.heap[b]? = some (.cells #[a0, a1] t (0, 0))) : v.cell? ⟨b, 0, none⟩ = some a0 ∧ v.cell? ⟨b, 1, none⟩ = some a1 := ⟨by unfold World.cell?; rw [h]; rfl, by unfold World.cell?; rw [h]; rfl⟩

end Go.Proofs.YtagokfoimokniaaGreatDoor

namespace Go.Proofs.YtagokfoimokniaaGreatDoor
open Go.RowKit Go.Maps Go.WideMaps

theorem l1Id_any (L n tc : Nat) (ta : Option Addr) (id : Int) (w : World) (hT : w.cell? ⟨L, 0, none⟩ = some (.slice ta n tc)) :
    Calls Tryz.prog 105 #[.pointer (some ⟨L, 0, none⟩), .int .i64 id] w fun e w' => e = .returned (.bool (inB id 1 n)) ∧ w' = w := by
  go_enter Tryz.func105, Tryz.ntmps105
  go_wp2_with (go_at_call 60; refine (l1In_any _ _ _ _).mono ?_; rintro e w' ⟨rfl, hw⟩; have hw2 := hw.symm; subst hw2)
  go_ret
  exact ⟨rfl, rfl⟩

theorem hasNumber_any (p n cap : Nat) (a : Option Addr) (id : Int) (w : World) (hI : w.cell? ⟨p, 0, none⟩ = some (.slice a n cap)) :
    Calls Tryz.prog 89 #[.pointer (some ⟨p, 0, none⟩), .int .i64 id] w fun e w' => e = .returned (.bool (inB id 1 n)) ∧ w' = w := by
  go_enter Tryz.func89, Tryz.ntmps89
  go_wp2_with (first
    | (go_at_call 56; refine (countS_any p n cap a w hI).mono ?_; rintro e w' ⟨rfl, hw⟩; have hw2 := hw.symm; subst hw2)
    | (go_at_call 87; refine (isWithin_any _ _ _ _).mono ?_; rintro e w' ⟨rfl, hw⟩; have hw2 := hw.symm; subst hw2))
  go_ret
  exact ⟨rfl, rfl⟩

theorem flt_le {ss : List ByteArray} {gs : List (Int × Int)} (h : 0 = flt ss gs) : ss.length ≤ 60 ∧ gs.length ≤ 120 := by
  by_cases hb : 60 < ss.length ∨ 120 < gs.length
  · rw [flt_many rfl rfl hb] at h; omega
  · omega

end Go.Proofs.YtagokfoimokniaaGreatDoor

namespace Go.Proofs.YtagokfoimokniaaGreatDoor
open Go.RowKit Go.Maps Go.WideMaps

/-- Only blocks from 'lo' to 'hi' may have turned. -/
structure Chg (w w' : World) (lo hi : Nat) : Prop where
  os : w'.os = w.os
  tape : w'.tape = w.tape
  output : w'.output = w.output
  size : w.heap.size ≤ w'.heap.size
  block : ∀ b, b < w.heap.size → (b < lo ∨ hi ≤ b) → w'.heap[b]? = w.heap[b]?

theorem Chg.of_below {w w' : World} (h : Below w.heap.size w w') (lo hi : Nat) : Chg w w' lo hi := ⟨h.os, h.tape, h.output, h.size, fun b hb _ => h.block b hb⟩
theorem Chg.of_grown {w w' : World} {row : Option Nat} {lo hi : Nat} (h : w.grownBy w' row) (hr : ∀ k, row = some k → lo ≤ k ∧ k < hi) : Chg w w' lo hi :=
  ⟨h.os, h.tape, h.output, h.size, fun b hb ho => h.block b hb (fun e => by have := hr b e.symm; omega)⟩
theorem Chg.trans {w w' w2 : World} {lo hi : Nat} (h : Chg w w' lo hi) (k : Chg w' w2 lo hi) : Chg w w2 lo hi :=
  ⟨k.os.trans h.os, k.tape.trans h.tape, k.output.trans h.output, Nat.le_trans h.size k.size, fun b hb ho => (k.block b (Nat.lt_of_lt_of_le hb h.size) ho).trans (h.block b hb ho)⟩
theorem Chg.below {w w' : World} {lo hi B : Nat} (h : Chg w w' lo hi) (hB : B ≤ lo) (hs : B ≤ w.heap.size) : Below B w w' := ⟨h.os, h.tape, h.output, h.size, fun k hk => h.block k (by omega) (by omega)⟩
theorem Chg.keep {w w' : World} {lo hi b : Nat} {o : Obj} (h : Chg w w' lo hi) (hb : w.heap[b]? = some o) (ho : b < lo ∨ hi ≤ b) : w'.heap[b]? = some o := (h.block b (lt_of_block hb) ho).trans hb
theorem Chg.row {w w' : World} {lo hi : Nat} (h : Chg w w' lo hi) {base : Nat} {e : TypeId} {size : Nat} {v : Value} {n : Nat} {xs : List Value} (ho : w.ownsRow base e size v n xs) (hv : ∀ k, v.ownBlock = some k → k < lo ∨ hi ≤ k) : w'.ownsRow base e size v n xs := by
  refine ⟨ho.1, ?_⟩
  rcases ho.2 with hn | ⟨g, cap, cur, rfl, hb, hgg, rest⟩
  · exact .inl hn
  · exact .inr ⟨g, cap, cur, rfl, hb, h.keep hgg (hv g rfl), rest⟩

end Go.Proofs.YtagokfoimokniaaGreatDoor

namespace Go.Proofs.YtagokfoimokniaaGreatDoor
open Go.RowKit Go.Maps Go.WideMaps

end Go.Proofs.YtagokfoimokniaaGreatDoor

namespace Go.Proofs.YtagokfoimokniaaGreatDoor
open Go.RowKit Go.Maps Go.WideMaps

section
variable {w w' : World} {lo hi n c0 m c1 : Nat} {a0 a1 : Option Addr} {xs ys : List Value}
theorem rows_apart {e e' : TypeId} {s s' n' : Nat} {v v' : Value} {zs zs' : List Value} (hne : e ≠ e') (h : w.ownsRow lo e s v n zs) (h' : w.ownsRow lo e' s' v' n' zs') : ∀ b, v.ownBlock = some b → v'.ownBlock ≠ some b := by
  intro b hb hb'
  rcases h.2 with ⟨rfl, _⟩ | ⟨g, c, cur, rfl, _, hh, _⟩
  · simp [Value.ownBlock] at hb
  rcases h'.2 with ⟨rfl, _⟩ | ⟨g', c', cur', rfl, _, hh', _⟩
  · simp [Value.ownBlock] at hb'
  simp [Value.ownBlock] at hb hb'
  subst hb hb'
  rw [hh] at hh'
  simp at hh'
  exact hne hh'.2
end

end Go.Proofs.YtagokfoimokniaaGreatDoor

namespace Go.Proofs.YtagokfoimokniaaGreatDoor
open Go.RowKit Go.Maps Go.WideMaps
attribute [local go_sem ↓] Go.wp_at_zero Go.wp_at_succ

theorem Tryz.infoI64 : (Tryz.prog.info? 2).map (fun i => (i.zero, i.size, i.bytes)) = some (some (.int .i64 0), 1, 8) := by kernel_rfl

def ints (l : List Int) : List Value := l.map (Value.int .i64)

theorem heap_alloc_at (w : World) (o : Obj) (n : Nat) (h : n = w.heap.size) : (w.alloc o).heap[n]? = some o := by rw [h]; exact heap_alloc_new w o

end Go.Proofs.YtagokfoimokniaaGreatDoor

namespace Go.Proofs.YtagokfoimokniaaGreatDoor
open Go.RowKit Go.Maps Go.WideMaps
attribute [local go_sem ↓] Go.wp_at_zero Go.wp_at_succ

end Go.Proofs.YtagokfoimokniaaGreatDoor

namespace Go.Proofs.YtagokfoimokniaaGreatDoor
open Go.RowKit Go.Maps Go.WideMaps

def IAt (w : World) (a : Option Addr) (n : Nat) (l : List Int) : Prop :=
  l.length = n ∧ (n = 0 ∨ ∃ b off, a = some ⟨b, off, none⟩ ∧ b < w.heap.size ∧ ∀ j, j < n → w.cell? ⟨b, off + j, none⟩ = some (.int .i64 (l.getD j 0)))

theorem IAt.below {w w' : World} {a : Option Addr} {n : Nat} {l : List Int} (h : IAt w a n l) {B : Nat} (hb : Below B w w') (hB : w.heap.size ≤ B) : IAt w' a n l := by
  obtain ⟨hn, h | ⟨b, off, rfl, hlt, hc⟩⟩ := h
  · exact ⟨hn, .inl h⟩
  · exact ⟨hn, .inr ⟨b, off, rfl, Nat.lt_of_lt_of_le hlt hb.size, fun j hj => (hb.cell (p := ⟨b, off + j, none⟩) (Nat.lt_of_lt_of_le hlt hB)).trans (hc j hj)⟩⟩

theorem IAt.owned {w : World} {base n c : Nat} {a : Option Addr} {l : List Int} (h : w.ownsRow base 2 1 (.slice a n c) n (ints l)) (hn : l.length = n) : IAt w a n l := by
  refine ⟨hn, ?_⟩
  rcases id h.2 with ⟨_, h0⟩ | ⟨g, cap, cur, e, _⟩
  · exact .inl h0
  · simp at e
    obtain ⟨rfl, rfl⟩ := e
    refine .inr ⟨g, 0, rfl, (h.lt g rfl).2, fun j hj => ?_⟩
    rw [Nat.zero_add, h.cellAt j (by omega)]
    simp [ints, List.getD, show j < l.length by omega]

end Go.Proofs.YtagokfoimokniaaGreatDoor

namespace Go.Proofs.YtagokfoimokniaaGreatDoor
open Go.RowKit Go.Maps Go.WideMaps
attribute [local go_sem ↓] Go.wp_at_zero Go.wp_at_succ

/-- append to a slice of the call's own that is not nil, as one step of a region that draws its order: the new slice written out. -/
theorem step_append_some {P : Program} (w : World) {ops : Array Oper} {o : Oper} {a : Act} {K : Act → World → Prop} {Q : Exit → Act → World → Prop} {E : Prop} (hgd : o.guard = none) (s x : Operand) (t : TypeId)
    (ho : o.op = .call { callee := .builtin .append, args := #[s, x], argTypes := #[t, t] })
    (base : Nat) (e : TypeId) (i : TypeInfo) (z : Value) (size bytes : Nat) (ht : P.underlying t = some (.slice e)) (hi : P.info? e = some i) (hz : i.zero = some z)
    (hsize : i.size = size) (hby : i.bytes = bytes) (hzs : z.cells.size = size) (hsz : 0 < size)
    (g0 c0 : Nat) (n : Nat) (xs : List Value) (hs : a.eval s = .slice (some ⟨g0, 0, none⟩) n c0) (hown : w.ownsRow base e size (.slice (some ⟨g0, 0, none⟩) n c0) n xs)
    (ad : Addr) (m c : Nat) (news : List Value) (hx : a.eval x = .slice (some ad) m c) (hl : news.length = m * size) (hnews : ∀ j u, news[j]? = some u → w.cell? (ad.add j) = some u) (h1 : ∀ u ∈ news, u.oneCell' = true)
    (h63 : n + m ≤ maxLen) (hbytes : (n + m) * bytes ≤ 140737488355328) (hbase : base ≤ w.heap.size)
    (h : ∀ g cap w', w'.ownsRow base e size (.slice (some ⟨g, 0, none⟩) (n + m) cap) (n + m) (xs ++ news) → w.grownBy w' (some g0) → K (a.put o.dst (.slice (some ⟨g, 0, none⟩) (n + m) cap)) w') :
    if Region.wanted o (yielded ops a.tmps) = true then Oper.wp P o a w K Q else E := by
  have hw : Region.wanted o (yielded ops a.tmps) = true := by simp [Region.wanted, hgd]
  rw [if_pos hw]
  refine wp_append_own w s x t ho base e i z size bytes ht hi hz hsize hby hzs hsz _ n xs hs hown ad m c news hx hl hnews h1 h63 hbytes hbase fun v' w' r1 r2 r3 => ?_
  rcases id r1.2 with ⟨e1, _⟩ | ⟨g, cap, cur, e1, _⟩
  · have := r3.1 e1; simp at this
  · subst e1
    exact h g cap w' r1 r2

/-- An empty row that has just been laid is owned. -/
theorem own_empty {W : World} {base X : Nat} {t : TypeId} {size : Nat} (h : W.heap[X]? = some (.cells #[] t (0, 0))) (hb : base ≤ X) : W.ownsRow base t size (.slice (some ⟨X, 0, none⟩) 0 0) 0 [] :=
  ⟨by simp, .inr ⟨X, 0, #[], rfl, hb, h, Nat.le_refl _, by unfold maxLen; omega, by simp, by simp⟩⟩

theorem keep_row {W W' : World} {X base n : Nat} {t e : TypeId} {size : Nat} {v : Value} {xs : List Value} {cur : Array Value} (hg : W.grownBy W' (some X)) (hX : W.heap[X]? = some (.cells cur t (0, 0))) (ho : W.ownsRow base e size v n xs) (hne : t ≠ e) : W'.ownsRow base e size v n xs := by
  refine ho.kept hg ?_
  rcases id ho.2 with ⟨rfl, _⟩ | ⟨g, c, cur', rfl, _, hh, _⟩
  · exact .inl rfl
  · right
    simp only [Value.ownBlock, ne_eq, Option.some.injEq]
    rintro rfl
    rw [hX] at hh
    simp at hh
    exact hne hh.2

theorem news_texts {w W : World} {b0 o0 n : Nat} {ss : List ByteArray} (h : SAt w (some ⟨b0, o0, none⟩) n ss) (hb : Below w.heap.size w W) : ∀ j u, (ss.map Value.string)[j]? = some u → W.cell? ((⟨b0, o0, none⟩ : Addr).add j) = some u := by
  intro j u hj
  have hjl : j < ss.length := by have := (List.getElem?_eq_some_iff.1 hj).1; simpa using this
  have hh := (h.below hb (Nat.le_refl _))
  rcases hh.2 with h0 | ⟨b, off, e, _, hc⟩
  · have := h.1; omega
  · simp at e
    obtain ⟨rfl, rfl⟩ := e
    have h1 : (⟨b0, o0, none⟩ : Addr).add j = ⟨b0, o0 + j, none⟩ := by
      simp only [Addr.add]
      split
      · simp_all
      · rfl
    rw [h1, hc j (by have := h.1; omega)]
    simp [hjl] at hj
    rw [← hj]
    simp [List.getD, hjl]

theorem news_signs {w W : World} {b0 o0 n : Nat} {gs : List (Int × Int)} (h : GAt w (some ⟨b0, o0, none⟩) n gs) (hb : Below w.heap.size w W) : ∀ j u, (gcells gs)[j]? = some u → W.cell? ((⟨b0, o0, none⟩ : Addr).add j) = some u := by
  intro j u hj
  have hjl : j < gs.length * 2 := by have := (List.getElem?_eq_some_iff.1 hj).1; rwa [gcells_length] at this
  have hh := (h.below hb (Nat.le_refl _))
  rcases hh.2 with h0 | ⟨b, off, e, _, hc⟩
  · have := h.1; omega
  · simp at e
    obtain ⟨rfl, rfl⟩ := e
    have h1 : (⟨b0, o0, none⟩ : Addr).add j = ⟨b0, o0 + j, none⟩ := by
      simp only [Addr.add]
      split
      · simp_all
      · rfl
    have hd := hc (j / 2) (by have := h.1; omega)
    have ha := gcells_at gs (j / 2) (by omega)
    rw [h1]
    rcases Nat.mod_two_eq_zero_or_one j with e | e
    · have ej : j = j / 2 * 2 := by omega
      rw [ej] at hj ⊢
      rw [ha.1] at hj
      rw [hd.1, hj]
    · have ej : j = j / 2 * 2 + 1 := by omega
      rw [ej] at hj ⊢
      rw [ha.2] at hj
      rw [← Nat.add_assoc, hd.2, hj]

theorem one_texts {ss : List ByteArray} : ∀ u ∈ ss.map Value.string, u.oneCell' = true := by
  intro u hu
  simp at hu
  obtain ⟨s, _, rfl⟩ := hu
  rfl
theorem one_signs {gs : List (Int × Int)} : ∀ u ∈ gcells gs, u.oneCell' = true := by
  intro u hu
  simp [gcells] at hu
  obtain ⟨a, b, _, rfl | rfl⟩ := hu <;> rfl

end Go.Proofs.YtagokfoimokniaaGreatDoor

namespace Go.Proofs.YtagokfoimokniaaGreatDoor
open Go.RowKit Go.Maps Go.WideMaps
attribute [local go_sem ↓] Go.wp_at_zero Go.wp_at_succ

theorem heap_at (w : World) (o : Obj) (n : Nat) (h : n = w.heap.size) : (w.alloc o).heap[n]? = some o := by rw [h]; exact heap_alloc_new w o
theorem heap_at2 (w : World) (o o' : Obj) (n : Nat) (h : n = w.heap.size) : ((w.alloc o).alloc o').heap[n]? = some o := by rw [h]; exact block_at2

theorem copy_below {w W : World} {o o' : Obj} (hb : Below (w.heap.size + 1 + 1) ((w.alloc o).alloc o') W) : Below w.heap.size w W := (below_box2 _ _).trans (hb.mono (by omega))
theorem copy_cells {w W : World} {a0 a1 c0 c1 : Value} {t t' : TypeId} (hb : Below (w.heap.size + 1 + 1) ((w.alloc (.cells #[a0, a1] t)).alloc (.cells #[c0, c1] t')) W) : W.cell? ⟨w.heap.size, 0, none⟩ = some a0 ∧ W.cell? ⟨w.heap.size, 1, none⟩ = some a1 ∧ w.heap.size + 1 + 1 ≤ W.heap.size ∧
    W.cell? ⟨w.heap.size + 1, 0, none⟩ = some c0 ∧ W.cell? ⟨w.heap.size + 1, 1, none⟩ = some c1 ∧ W.frozen? ⟨w.heap.size + 1, 0, none⟩ = false ∧ W.frozen? ⟨w.heap.size + 1, 1, none⟩ = false ∧ Hid (W.heap[w.heap.size + 1]? = some (.cells #[c0, c1] t' (0, 0))) := by
  have hh := (hb.block w.heap.size (by omega)).trans (block_at2 (w := w) (o := .cells #[a0, a1] t) (o' := .cells #[c0, c1] t'))
  have h1 : ((w.alloc (.cells #[a0, a1] t)).alloc (.cells #[c0, c1] t')).heap[w.heap.size + 1]? = some (.cells #[c0, c1] t' (0, 0)) := heap_at _ _ _ (by simp)
  have hh1 := (hb.block (w.heap.size + 1) (by omega)).trans h1
  have hs := hb.size
  simp only [World.size_alloc] at hs
  exact ⟨by unfold World.cell?; rw [hh]; rfl, by unfold World.cell?; rw [hh]; rfl, hs, by unfold World.cell?; rw [hh1]; rfl, by unfold World.cell?; rw [hh1]; rfl, Joins.unfrozen_of_block hh1 0, Joins.unfrozen_of_block hh1 1, hh1⟩

end Go.Proofs.YtagokfoimokniaaGreatDoor

namespace Go.Proofs.YtagokfoimokniaaGreatDoor
open Go.RowKit Go.Maps Go.WideMaps

structure LRes where
  c : Int
  i : Int
  s : List ByteArray
  g : List (Int × Int)

def noteR (ss : List ByteArray) (gs : List (Int × Int)) (x : ByteArray) : LRes :=
  if flt ss gs ≠ 0 then ⟨flt ss gs, 0, [], []⟩ else if x.size < 1 ∨ 300 < x.size then ⟨2, 0, [], []⟩ else if num ss x ≠ 0 then ⟨0, num ss x, ss, gs⟩ else if 60 ≤ ss.length then ⟨2, 0, [], []⟩ else ⟨0, ss.length + 1, ss ++ [x], gs⟩

section
variable {ss : List ByteArray} {gs : List (Int × Int)} {x : ByteArray} {n : Nat}
theorem noteR_bad {c : Int} (h : c = flt ss gs) (h0 : c ≠ 0) : noteR ss gs x = ⟨c, 0, [], []⟩ := by unfold noteR; rw [← h, if_pos h0]
theorem noteR_size (h : 0 = flt ss gs) (h1 : x.size < 1 ∨ 300 < x.size) : noteR ss gs x = ⟨2, 0, [], []⟩ := by unfold noteR; rw [← h, if_neg (by simp), if_pos h1]
theorem noteR_old (h : 0 = flt ss gs) (h1 : ¬ (x.size < 1 ∨ 300 < x.size)) {k : Nat} (hk : k = num ss x) (hk0 : k ≠ 0) : noteR ss gs x = ⟨0, k, ss, gs⟩ := by unfold noteR; rw [← h, if_neg (by simp), if_neg h1, ← hk, if_pos hk0]
theorem noteR_full (hn : ss.length = n) (h : 0 = flt ss gs) (h1 : ¬ (x.size < 1 ∨ 300 < x.size)) (hk : num ss x = 0) (h60 : 60 ≤ n) : noteR ss gs x = ⟨2, 0, [], []⟩ := by unfold noteR; rw [← h, if_neg (by simp), if_neg h1, if_neg (by simp [hk]), hn, if_pos h60]
theorem noteR_new (hn : ss.length = n) (h : 0 = flt ss gs) (h1 : ¬ (x.size < 1 ∨ 300 < x.size)) (hk : num ss x = 0) (h60 : ¬ 60 ≤ n) : noteR ss gs x = ⟨0, (n : Int) + 1, ss ++ [x], gs⟩ := by unfold noteR; rw [← h, if_neg (by simp), if_neg h1, if_neg (by simp [hk]), hn, if_neg h60]
end

/-- What a result with a ledger is: its two lists lie in new memory. -/
def OutL (w w' : World) (e : Ending) (r : LRes) : Prop :=
  Below w.heap.size w w' ∧ ∃ a0 c0 a1 c1, e = .returned (.agg #[.int .i64 r.c, .int .i64 r.i, .slice a0 r.s.length c0, .slice a1 r.g.length c1]) ∧
    w'.ownsRow w.heap.size 9 1 (.slice a0 r.s.length c0) r.s.length (r.s.map Value.string) ∧ w'.ownsRow w.heap.size 111 2 (.slice a1 r.g.length c1) r.g.length (gcells r.g)

theorem OutL.empty {w w' : World} {c : Int} (h : Below w.heap.size w w') : OutL w w' (.returned (.agg #[.int .i64 c, .int .i64 0, .slice none 0 0, .slice none 0 0])) ⟨c, 0, [], []⟩ := ⟨h, none, 0, none, 0, rfl, World.ownsRow_nil _ _ _ _, World.ownsRow_nil _ _ _ _⟩

/-- Four cells of one block. -/
theorem cells4 {v : World} {b : Nat} {a0 a1 a2 a3 : Value} {t : TypeId} (h : v.heap[b]? = some (.cells #[a0, a1, a2, a3] t (0, 0))) :
    v.cell? ⟨b, 0, none⟩ = some a0 ∧ v.cell? ⟨b, 1, none⟩ = some a1 ∧ v.cell? ⟨b, 2, none⟩ = some a2 ∧ v.cell? ⟨b, 3, none⟩ = some a3 ∧ v.frozen? ⟨b, 0, none⟩ = false ∧ v.frozen? ⟨b, 1, none⟩ = false ∧ v.frozen? ⟨b, 2, none⟩ = false ∧ v.frozen? ⟨b, 3, none⟩ = false :=
  ⟨by unfold World.cell?; rw [h]; rfl, by unfold World.cell?; rw [h]; rfl, by unfold World.cell?; rw [h]; rfl, by unfold World.cell?; rw [h]; rfl, Joins.unfrozen_of_block h 0, Joins.unfrozen_of_block h 1, Joins.unfrozen_of_block h 2, Joins.unfrozen_of_block h 3⟩

theorem four_set {w : World} {b : Nat} {c0 c1 c2 c3 : Value} {t : TypeId} (h : w.heap[b]? = some (.cells #[c0, c1, c2, c3] t (0, 0))) (v0 v1 v2 v3 : Value) :
    (w.setCell ⟨b, 0, none⟩ v0).cell? ⟨b, 0, none⟩ = some v0 ∧ ((w.setCell ⟨b, 0, none⟩ v0).setCell ⟨b, 1, none⟩ v1).cell? ⟨b, 1, none⟩ = some v1 ∧ (((w.setCell ⟨b, 0, none⟩ v0).setCell ⟨b, 1, none⟩ v1).setCell ⟨b, 2, none⟩ v2).cell? ⟨b, 2, none⟩ = some v2 ∧
      ((((w.setCell ⟨b, 0, none⟩ v0).setCell ⟨b, 1, none⟩ v1).setCell ⟨b, 2, none⟩ v2).setCell ⟨b, 3, none⟩ v3).cell? ⟨b, 3, none⟩ = some v3 := by
  have h1 : (w.setCell ⟨b, 0, none⟩ v0).heap[b]? = some (.cells #[v0, c1, c2, c3] t (0, 0)) := by
    have := Joins.block_setCell (i := 0) h v0
    simpa using this
  have h2 : ((w.setCell ⟨b, 0, none⟩ v0).setCell ⟨b, 1, none⟩ v1).heap[b]? = some (.cells #[v0, v1, c2, c3] t (0, 0)) := by
    have := Joins.block_setCell (i := 1) h1 v1
    simpa using this
  have h3 : (((w.setCell ⟨b, 0, none⟩ v0).setCell ⟨b, 1, none⟩ v1).setCell ⟨b, 2, none⟩ v2).heap[b]? = some (.cells #[v0, v1, v2, c3] t (0, 0)) := by
    have := Joins.block_setCell (i := 2) h2 v2
    simpa using this
  have h4 : ((((w.setCell ⟨b, 0, none⟩ v0).setCell ⟨b, 1, none⟩ v1).setCell ⟨b, 2, none⟩ v2).setCell ⟨b, 3, none⟩ v3).heap[b]? = some (.cells #[v0, v1, v2, v3] t (0, 0)) := by
    have := Joins.block_setCell (i := 3) h3 v3
    simpa using this
  exact ⟨by unfold World.cell?; rw [h1]; rfl, by unfold World.cell?; rw [h2]; rfl, by unfold World.cell?; rw [h3]; rfl, by unfold World.cell?; rw [h4]; rfl⟩

/-- What four stores into the result leave. -/
theorem below_res4 {w w2 : World} (h : Below w.heap.size w w2) (v0 v1 v2 v3 : Value) : Below w.heap.size w ((((w2.setCell ⟨w.heap.size + 1, 0, none⟩ v0).setCell ⟨w.heap.size + 1, 1, none⟩ v1).setCell ⟨w.heap.size + 1, 2, none⟩ v2).setCell ⟨w.heap.size + 1, 3, none⟩ v3) :=
  (((h.setCell (p := ⟨w.heap.size + 1, 0, none⟩) (show w.heap.size ≤ w.heap.size + 1 by omega) _).setCell (p := ⟨w.heap.size + 1, 1, none⟩) (show w.heap.size ≤ w.heap.size + 1 by omega) _).setCell (p := ⟨w.heap.size + 1, 2, none⟩) (show w.heap.size ≤ w.heap.size + 1 by omega) _).setCell (p := ⟨w.heap.size + 1, 3, none⟩) (show w.heap.size ≤ w.heap.size + 1 by omega) _
theorem row_res4 {w2 : World} {b base base' : Nat} {e : TypeId} {size n : Nat} {v : Value} {xs : List Value} (h : w2.ownsRow base e size v n xs) (hb : b < base) (hb' : base' ≤ base) (v0 v1 v2 v3 : Value) :
    ((((w2.setCell ⟨b, 0, none⟩ v0).setCell ⟨b, 1, none⟩ v1).setCell ⟨b, 2, none⟩ v2).setCell ⟨b, 3, none⟩ v3).ownsRow base' e size v n xs :=
  Joins.ownsRow_le (ownsRow_setCell_below (ownsRow_setCell_below (ownsRow_setCell_below (ownsRow_setCell_below h (a := ⟨b, 0, none⟩) hb _) (a := ⟨b, 1, none⟩) hb _) (a := ⟨b, 2, none⟩) hb _) (a := ⟨b, 3, none⟩) hb _) hb'

/-- A result of four cells behind a ledger that lies boxed, behind a call. -/
def Box4 (w w2 : World) (a0 a1 : Value) (t : TypeId) : Prop :=
  w2.heap[w.heap.size + 1]? = some (.cells #[.int .i64 0, .int .i64 0, .slice none 0 0, .slice none 0 0] 105 (0, 0)) ∧ Below w.heap.size w w2 ∧ w2.heap[w.heap.size]? = some (.cells #[a0, a1] t (0, 0))

theorem Box4.start {w w2 : World} {a0 a1 : Value} {t : TypeId} (hb : Below ((w.alloc (.cells #[a0, a1] t)).alloc (.cells #[.int .i64 0, .int .i64 0, .slice none 0 0, .slice none 0 0] 105)).heap.size ((w.alloc (.cells #[a0, a1] t)).alloc (.cells #[.int .i64 0, .int .i64 0, .slice none 0 0, .slice none 0 0] 105)) w2) : Hid (Box4 w w2 a0 a1 t) :=
  ⟨(hb.block _ (by simp)).trans (heap_at _ _ _ (by simp)), (below_box2 _ _).trans (hb.mono (by simp; omega)), (hb.block _ (by simp; omega)).trans block_at2⟩
theorem Box4.step {w w2 w3 : World} {a0 a1 : Value} {t : TypeId} (h : Box4 w w2 a0 a1 t) (hb : Below w2.heap.size w2 w3) : Hid (Box4 w w3 a0 a1 t) :=
  ⟨(keepb h.1 hb).out, h.2.1.trans (hb.mono h.2.1.size), (keepb h.2.2 hb).out⟩
theorem Box4.lt {w w2 : World} {a0 a1 : Value} {t : TypeId} (h : Box4 w w2 a0 a1 t) : w.heap.size + 1 < w2.heap.size := lt_of_block h.1

/-- The specification's fault where the ledger lies boxed, a result of four cells behind it. -/
theorem l1Fault_box4 (n m tc gc : Nat) (ta ga : Option Addr) (ss : List ByteArray) (gs : List (Int × Int)) (w : World)
    (htc : n ≤ tc) (hgc : m ≤ gc) (htm : tc ≤ maxLen) (hgm : gc ≤ maxLen) (hf : Fine ss gs) (h : LedAt w ta n ga m ss gs) :
    Calls Tryz.prog 26 #[.pointer (some ⟨w.heap.size, 0, none⟩)] ((w.alloc (.cells #[.slice ta n tc, .slice ga m gc] 27)).alloc (.cells #[.int .i64 0, .int .i64 0, .slice none 0 0, .slice none 0 0] 105)) fun e w' => e = .returned (.int .i64 (flt ss gs)) ∧ Hid (Box4 w w' (.slice ta n tc) (.slice ga m gc) 27) := by
  have hb : Below w.heap.size w ((w.alloc (.cells #[.slice ta n tc, .slice ga m gc] 27)).alloc (.cells #[.int .i64 0, .int .i64 0, .slice none 0 0, .slice none 0 0] 105)) := below_box2 _ _
  have hx := block_at2 (w := w) (o := .cells #[.slice ta n tc, .slice ga m gc] 27) (o' := .cells #[.int .i64 0, .int .i64 0, .slice none 0 0, .slice none 0 0] 105)
  exact (l1Fault_any w.heap.size n m tc gc ta ga ss gs _ (lt_of_block hx) (by unfold World.cell?; rw [hx]; rfl) (by unfold World.cell?; rw [hx]; rfl) htc hgc htm hgm hf.s (h.s.below hb (Nat.le_refl _)) (h.g.below hb (Nat.le_refl _))).mono fun e w' hr => ⟨hr.1, Box4.start hr.2⟩

theorem newsT {W : World} {H : Nat} {u : Value} {t : TypeId} (h : W.heap[H]? = some (.cells #[u] t (0, 0))) : ∀ j v, [u][j]? = some v → W.cell? ((⟨H, 0, none⟩ : Addr).add j) = some v := by
  intro j v hj
  match j, hj with
  | 0, hj => simp at hj; subst hj; simp [Addr.add, World.cell?, h]
theorem oneS {x : ByteArray} : ∀ u ∈ [Value.string x], u.oneCell' = true := by
  intro u hu
  simp at hu
  subst hu; rfl

theorem row_set_other {W : World} {b i base n : Nat} {e t : TypeId} {size : Nat} {v : Value} {xs : List Value} {cs : Array Value} (h : W.ownsRow base e size v n xs) (hb : W.heap[b]? = some (.cells cs t (0, 0))) (hne : e ≠ t) (u : Value) : (W.setCell ⟨b, i, none⟩ u).ownsRow base e size v n xs := by
  refine ownsRow_setCell_other h (a := ⟨b, i, none⟩) ?_ u
  intro hv
  rcases id h.2 with ⟨rfl, _⟩ | ⟨g, c, cur', rfl, _, hh, _⟩
  · simp [Value.ownBlock] at hv
  · simp [Value.ownBlock] at hv
    subst hv
    rw [hb] at hh
    simp at hh
    exact hne hh.2.symm

theorem nt_new {w w2 w3 w5 : World} {a0 a1 : Value} {n m g0 k0 g1 k1 g cap : Nat} {ss : List ByteArray} {gs : List (Int × Int)} {o : Obj} {zs : List Value}
    (HB : Box4 w (w3.alloc (.cells #[.slice (some ⟨g0, 0, none⟩) n k0, .slice (some ⟨g1, 0, none⟩) m k1] 27)) a0 a1 27) (HO : OwnL (w3.alloc (.cells #[.slice (some ⟨g0, 0, none⟩) n k0, .slice (some ⟨g1, 0, none⟩) m k1] 27)) w2.heap.size n m ss gs g0 k0 g1 k1) (HX : (w3.alloc (.cells #[.slice (some ⟨g0, 0, none⟩) n k0, .slice (some ⟨g1, 0, none⟩) m k1] 27)).heap[w3.heap.size]? = some (.cells #[.slice (some ⟨g0, 0, none⟩) n k0, .slice (some ⟨g1, 0, none⟩) m k1] 27 (0, 0)))
    (ho : w5.ownsRow w2.heap.size 9 1 (.slice (some ⟨g, 0, none⟩) (n + 1) cap) (n + 1) zs) (hg : ((w3.alloc (.cells #[.slice (some ⟨g0, 0, none⟩) n k0, .slice (some ⟨g1, 0, none⟩) m k1] 27)).alloc o).grownBy w5 (Value.ownBlock (.slice (some ⟨g0, 0, none⟩) n k0))) (h12 : w.heap.size + 1 < w2.heap.size) (h23 : w2.heap.size ≤ w3.heap.size) :
    w5.cell? ⟨w3.heap.size, 0, none⟩ = some (.slice (some ⟨g0, 0, none⟩) n k0) ∧ w5.cell? ⟨w3.heap.size, 1, none⟩ = some (.slice (some ⟨g1, 0, none⟩) m k1) ∧ w5.frozen? ⟨w3.heap.size, 0, none⟩ = false ∧
    (w5.setCell ⟨w3.heap.size, 0, none⟩ (.slice (some ⟨g, 0, none⟩) (n + 1) cap)).cell? ⟨w3.heap.size, 0, none⟩ = some (.slice (some ⟨g, 0, none⟩) (n + 1) cap) ∧
    (w5.setCell ⟨w3.heap.size, 0, none⟩ (.slice (some ⟨g, 0, none⟩) (n + 1) cap)).cell? ⟨w3.heap.size, 1, none⟩ = some (.slice (some ⟨g1, 0, none⟩) m k1) ∧
    Hid (Box4 w (w5.setCell ⟨w3.heap.size, 0, none⟩ (.slice (some ⟨g, 0, none⟩) (n + 1) cap)) a0 a1 27 ∧ (w5.setCell ⟨w3.heap.size, 0, none⟩ (.slice (some ⟨g, 0, none⟩) (n + 1) cap)).ownsRow w2.heap.size 9 1 (.slice (some ⟨g, 0, none⟩) (n + 1) cap) (n + 1) zs ∧
      (w5.setCell ⟨w3.heap.size, 0, none⟩ (.slice (some ⟨g, 0, none⟩) (n + 1) cap)).ownsRow w2.heap.size 111 2 (.slice (some ⟨g1, 0, none⟩) m k1) m (gcells gs)) ∧
    (w5.setCell ⟨w3.heap.size, 0, none⟩ (.slice (some ⟨g, 0, none⟩) (n + 1) cap)).cell? ⟨w.heap.size + 1, 0, none⟩ = some (.int .i64 0) ∧ (w5.setCell ⟨w3.heap.size, 0, none⟩ (.slice (some ⟨g, 0, none⟩) (n + 1) cap)).cell? ⟨w.heap.size + 1, 1, none⟩ = some (.int .i64 0) ∧ (w5.setCell ⟨w3.heap.size, 0, none⟩ (.slice (some ⟨g, 0, none⟩) (n + 1) cap)).cell? ⟨w.heap.size + 1, 2, none⟩ = some (.slice none 0 0) ∧ (w5.setCell ⟨w3.heap.size, 0, none⟩ (.slice (some ⟨g, 0, none⟩) (n + 1) cap)).cell? ⟨w.heap.size + 1, 3, none⟩ = some (.slice none 0 0) ∧
    (w5.setCell ⟨w3.heap.size, 0, none⟩ (.slice (some ⟨g, 0, none⟩) (n + 1) cap)).frozen? ⟨w.heap.size + 1, 0, none⟩ = false ∧ (w5.setCell ⟨w3.heap.size, 0, none⟩ (.slice (some ⟨g, 0, none⟩) (n + 1) cap)).frozen? ⟨w.heap.size + 1, 1, none⟩ = false ∧ (w5.setCell ⟨w3.heap.size, 0, none⟩ (.slice (some ⟨g, 0, none⟩) (n + 1) cap)).frozen? ⟨w.heap.size + 1, 2, none⟩ = false ∧ (w5.setCell ⟨w3.heap.size, 0, none⟩ (.slice (some ⟨g, 0, none⟩) (n + 1) cap)).frozen? ⟨w.heap.size + 1, 3, none⟩ = false := by
  have hgX : ∃ cur, (w3.alloc (.cells #[.slice (some ⟨g0, 0, none⟩) n k0, .slice (some ⟨g1, 0, none⟩) m k1] 27)).heap[g0]? = some (.cells cur 9 (0, 0)) := by
    rcases HO.1.2 with ⟨e, _⟩ | ⟨g', c', cur, e, _, hh, _⟩
    · cases e
    · simp at e
      obtain ⟨rfl, rfl⟩ := e
      exact ⟨cur, hh⟩
  obtain ⟨cur, hcur⟩ := hgX
  have kp : ∀ {b : Nat} {cs : Array Value} {t : TypeId}, (w3.alloc (.cells #[.slice (some ⟨g0, 0, none⟩) n k0, .slice (some ⟨g1, 0, none⟩) m k1] 27)).heap[b]? = some (.cells cs t (0, 0)) → t ≠ 9 → w5.heap[b]? = some (.cells cs t (0, 0)) := by
    intro b cs t hb hne
    have hbl := lt_of_block hb
    have hbg : b ≠ g0 := by rintro rfl; rw [hb] at hcur; simp at hcur; exact hne hcur.2
    exact (hg.block b (by simp only [World.size_alloc] at hbl ⊢; omega) (by simpa [Value.ownBlock] using hbg)).trans ((Below.heap_alloc _ _ b hbl).trans hb)
  have hX5 := kp HX (by decide)
  have hR5 := kp HB.1 (by decide)
  have hA5 := kp HB.2.2 (by decide)
  have hne1 : w.heap.size + 1 ≠ w3.heap.size := by omega
  have hne0 : w.heap.size ≠ w3.heap.size := by omega
  have hB5 : Below w.heap.size w w5 := (HB.2.1.alloc HB.2.1.size _).grown hg (by have := HB.2.1.size; simp only [World.size_alloc] at this ⊢; omega) (fun j hj => by have := (HO.1.lt j hj).1; omega)
  have hX6 : (w5.setCell ⟨w3.heap.size, 0, none⟩ (.slice (some ⟨g, 0, none⟩) (n + 1) cap)).heap[w3.heap.size]? = some (.cells #[.slice (some ⟨g, 0, none⟩) (n + 1) cap, .slice (some ⟨g1, 0, none⟩) m k1] 27 (0, 0)) := by
    have := Joins.block_setCell (i := 0) hX5 (.slice (some ⟨g, 0, none⟩) (n + 1) cap)
    simpa using this
  have hR6 := (Below.heap_setCell w5 ⟨w3.heap.size, 0, none⟩ (.slice (some ⟨g, 0, none⟩) (n + 1) cap) (w.heap.size + 1) hne1).trans hR5
  have hA6 := (Below.heap_setCell w5 ⟨w3.heap.size, 0, none⟩ (.slice (some ⟨g, 0, none⟩) (n + 1) cap) w.heap.size hne0).trans hA5
  have hgr := keep_row (X := g0) hg ((Below.heap_alloc _ _ g0 (lt_of_block hcur)).trans hcur) (HO.2.alloc _) (by decide)
  refine ⟨(cells2 hX5).1, (cells2 hX5).2, Joins.unfrozen_of_block hX5 0, (cells2 hX6).1, (cells2 hX6).2, ⟨⟨hR6, hB5.setCell (p := ⟨w3.heap.size, 0, none⟩) (show w.heap.size ≤ w3.heap.size by omega) _, hA6⟩, row_set_other ho hX5 (by decide) _, row_set_other hgr hX5 (by decide) _⟩, cells4 hR6⟩

end Go.Proofs.YtagokfoimokniaaGreatDoor

namespace Go.Proofs.YtagokfoimokniaaGreatDoor
open Go.RowKit Go.Maps Go.WideMaps

theorem Chg.of_set {w : World} {lo hi b : Nat} (h1 : lo ≤ b) (h2 : b < hi) (i : Nat) (v : Value) : Chg w (w.setCell ⟨b, i, none⟩ v) lo hi :=
  ⟨rfl, rfl, rfl, by simp, fun k _ ho => Below.heap_setCell w ⟨b, i, none⟩ v k (show k ≠ b by omega)⟩

theorem TwG.chg {w w' : World} {base p lo hi : Nat} {l : List (Int × Int)} (h : TwG w base p l) (hc : Chg w w' lo hi) (hh : hi ≤ base) : TwG w' base p l := by
  obtain ⟨iv, B, hp, hbp, hbB, ho, ht⟩ := h
  refine ⟨iv, B, hc.keep hp (.inr (by omega)), hbp, hbB, hc.row ho (fun k hk => .inr (by have := (ho.lt k hk).1; omega)), ?_⟩
  obtain ⟨D, hD, hat⟩ := ht
  obtain ⟨es, ck, hes, rest⟩ := hD
  exact ⟨D, ⟨es, ck, (hc.block B (lt_of_block hes) (.inr (by omega))).trans hes, rest⟩, hat⟩

/-- The tables' own slices. -/
theorem TwS.rows {w : World} {base p : Nat} {l : List ByteArray} {n : Nat} (hn : l.length = n) (h : TwS w base p l) : ∃ a cap, w.cell? ⟨p, 0, none⟩ = some (.slice a n cap) ∧ p < w.heap.size ∧ Hid (w.ownsRow base 9 1 (.slice a n cap) n (l.map Value.string)) := by
  subst hn
  obtain ⟨iv, B, hp, hbp, hbB, ho, ht⟩ := h
  have hc : w.cell? ⟨p, 0, none⟩ = some iv := by unfold World.cell?; rw [hp]; rfl
  rcases id ho.2 with ⟨h1, h2⟩ | ⟨g, cap, cur, h1, _⟩
  · exact ⟨none, 0, by rw [hc, h1, h2], lt_of_block hp, by rw [h2]; subst h1; rw [h2] at ho; exact ho⟩
  · subst h1
    exact ⟨_, _, hc, lt_of_block hp, ho⟩
theorem TwG.rows {w : World} {base p : Nat} {l : List (Int × Int)} {n : Nat} (hn : l.length = n) (h : TwG w base p l) : ∃ a cap, w.cell? ⟨p, 0, none⟩ = some (.slice a n cap) ∧ p < w.heap.size ∧ Hid (w.ownsRow base 111 2 (.slice a n cap) n (gcells l)) := by
  subst hn
  obtain ⟨iv, B, hp, hbp, hbB, ho, ht⟩ := h
  have hc : w.cell? ⟨p, 0, none⟩ = some iv := by unfold World.cell?; rw [hp]; rfl
  rcases id ho.2 with ⟨h1, h2⟩ | ⟨g, cap, cur, h1, _⟩
  · exact ⟨none, 0, by rw [hc, h1, h2], lt_of_block hp, by rw [h2]; subst h1; rw [h2] at ho; exact ho⟩
  · subst h1
    exact ⟨_, _, hc, lt_of_block hp, ho⟩

end Go.Proofs.YtagokfoimokniaaGreatDoor

namespace Go.Proofs.YtagokfoimokniaaGreatDoor
open Go.RowKit Go.Maps Go.WideMaps

theorem k4 {W : World} {b c : Nat} {v0 v1 v2 v3 : Value} (h : c ≠ b) : ((((W.setCell ⟨b, 0, none⟩ v0).setCell ⟨b, 1, none⟩ v1).setCell ⟨b, 2, none⟩ v2).setCell ⟨b, 3, none⟩ v3).heap[c]? = W.heap[c]? :=
  (Below.heap_setCell _ ⟨b, 3, none⟩ _ c h).trans ((Below.heap_setCell _ ⟨b, 2, none⟩ _ c h).trans ((Below.heap_setCell _ ⟨b, 1, none⟩ _ c h).trans (Below.heap_setCell _ ⟨b, 0, none⟩ _ c h)))

end Go.Proofs.YtagokfoimokniaaGreatDoor

namespace Go.Proofs.YtagokfoimokniaaGreatDoor
open Go.RowKit Go.Maps Go.WideMaps

/-- Bytes that came in. -/
def BAt (w : World) (a : Option Addr) (n : Nat) (l : List Int) : Prop :=
  (∀ j, 0 ≤ l.getD j 0 ∧ l.getD j 0 ≤ 255) ∧ (n = 0 ∨ ∃ b off, a = some ⟨b, off, none⟩ ∧ b < w.heap.size ∧ ∀ j, j < n → w.cell? ⟨b, off + j, none⟩ = some (.int .u8 (l.getD j 0)))

/-- The source of draws in block SB, behind all that came in. -/
structure Src (w v : World) (SB : Nat) (ca : Option Addr) (cn cc t : Nat) : Prop where
  box : v.heap[SB]? = some (.cells #[.slice ca cn cc, .int .i64 t] 102 (0, 0))
  bel : Below w.heap.size w v
  sb : w.heap.size ≤ SB

section
variable {w v v' : World} {SB : Nat} {ca : Option Addr} {cn cc t : Nat}
theorem Src.step (h : Src w v SB ca cn cc t) (hb : Below v.heap.size v v') : Src w v' SB ca cn cc t := ⟨(keepb h.box hb).out, h.bel.trans (hb.mono h.bel.size), h.sb⟩
theorem Src.lt (h : Src w v SB ca cn cc t) : SB < v.heap.size := lt_of_block h.box
theorem Src.next (h : Src w v SB ca cn cc t) : Src w (v.setCell ⟨SB, 1, none⟩ (.int .i64 ((t : Int) + 1))) SB ca cn cc (t + 1) := by
  refine ⟨?_, h.bel.setCell (p := ⟨SB, 1, none⟩) h.sb _, h.sb⟩
  have := Joins.block_setCell (i := 1) h.box (.int .i64 ((t : Int) + 1))
  simpa using this
end

set_option maxHeartbeats 1000000 in
theorem l1Next_any (SB cn cc t : Nat) (ca : Option Addr) (l : List Int) (k : Int) (w v : World) (hk : k ≤ 200) (ht : t ≤ 1000) (hcn : cn ≤ 1048577) (hB : BAt w ca cn l) (h : Src w v SB ca cn cc t) :
    Calls Tryz.prog 18 #[.pointer (some ⟨SB, 0, none⟩), .int .i64 k] v fun e v' => ∃ r : Int, e = .returned (.int .i64 r) ∧ (0 ≤ r ∧ (1 ≤ k → r < k)) ∧ Src w v' SB ca cn cc (t + 1) ∧ Chg v v' SB (SB + 1) := by
  obtain ⟨c0, c1⟩ := cells2 h.box
  have hn := h.next
  have hc1 : Chg v (v.setCell ⟨SB, 1, none⟩ (.int .i64 ((t : Int) + 1))) SB (SB + 1) := Chg.of_set (Nat.le_refl _) (Nat.lt_succ_self _) _ _
  have f1 : v.frozen? ⟨SB, 1, none⟩ = false := Joins.unfrozen_of_block h.box 1
  obtain ⟨d0, d1⟩ := cells2 hn.box
  have HN : Hid (Src w (v.setCell ⟨SB, 1, none⟩ (.int .i64 ((t : Int) + 1))) SB ca cn cc (t + 1)) := hn
  have HC : Hid (Chg v (v.setCell ⟨SB, 1, none⟩ (.int .i64 ((t : Int) + 1))) SB (SB + 1)) := hc1
  clear hn hc1
  have hti : ((t + 1 : Nat) : Int) = (t : Int) + 1 := by omega
  rw [hti] at d1
  by_cases hk1 : k < 1
  · clear d0 d1 hB
    go_enter Tryz.func18, Tryz.ntmps18
    go_wp2
    go_ret
    exact ⟨0, rfl, ⟨by omega, by omega⟩, HN.out, HC.out⟩
  · by_cases hc0 : cn = 0
    · subst hc0
      clear hB
      go_enter Tryz.func18, Tryz.ntmps18
      go_wp2
      go_ret
      exact ⟨_, rfl, ⟨Int.emod_nonneg _ (by omega), by intros; exact Int.emod_lt_of_pos _ (by omega)⟩, HN.out, HC.out⟩
    · rcases hB.2 with h0 | ⟨b, off, rfl, hbl, hcell⟩
      · exact absurd h0 hc0
      obtain ⟨j, hj, hjl⟩ : ∃ j : Nat, (t : Int).tmod (cn : Int) = (j : Int) ∧ j < cn := ⟨t % cn, by rw [Int.tmod_eq_emod_of_nonneg (by omega)]; omega, Nat.mod_lt _ (by omega)⟩
      obtain ⟨q, hq, hql⟩ : ∃ q : Nat, (t : Int).tdiv (cn : Int) = (q : Int) ∧ q ≤ t := ⟨t / cn, by rw [Int.tdiv_eq_ediv_of_nonneg (by omega)]; omega, Nat.div_le_self _ _⟩
      have hx := (HN.out.bel.cell (p := ⟨b, off + j, none⟩) hbl).trans (hcell j hjl)
      have hrange := hB.1 j
      obtain ⟨x, hxe⟩ : ∃ x, x = l.getD j 0 := ⟨_, rfl⟩
      rw [← hxe] at hx hrange
      have hji : (j : Int) < (cn : Int) := by omega
      have hcz : (cn : Int) ≠ 0 := by omega
      clear hcell hxe hB
      go_enter Tryz.func18, Tryz.ntmps18
      go_wp2
      go_quiet (fail)
      go_wp2
      go_ret
      exact ⟨_, rfl, ⟨Int.emod_nonneg _ (by omega), by intros; exact Int.emod_lt_of_pos _ (by omega)⟩, HN.out.step (Joins.below_draws _ _ _), HC.out.trans (Chg.of_below (Joins.below_draws _ _ _) _ _)⟩

/-- A block below the source's is not turned by a draw. -/
theorem Chg.keep1 {v v' : World} {SB b : Nat} {o : Obj} (hc : Chg v v' SB (SB + 1)) (h : v.heap[b]? = some o) (hne : b ≠ SB) : v'.heap[b]? = some o := hc.keep h (by omega)
theorem Chg.row1 {v v' : World} {SB : Nat} (hc : Chg v v' SB (SB + 1)) {base : Nat} {e : TypeId} {size : Nat} {u : Value} {n : Nat} {xs : List Value} (ho : v.ownsRow base e size u n xs) (hb : SB < base) : v'.ownsRow base e size u n xs :=
  hc.row ho (fun k hk => by have := (ho.lt k hk).1; omega)

theorem l1Source_any (a : Option Addr) (n cap : Nat) (w : World) :
    Calls Tryz.prog 16 #[.slice a n cap] w fun e w' => e = .returned (.pointer (some ⟨w.heap.size, 0, none⟩)) ∧ Src w w' w.heap.size a n cap 0 := by
  go_enter Tryz.func16, Tryz.ntmps16
  go_wp2
  go_ret
  exact ⟨rfl, heap_alloc_new _ _, below_box _, Nat.le_refl _⟩

/-- The words that are drawn. -/
def words : List ByteArray := [⟨#[97]⟩, ⟨#[98]⟩, ⟨#[99, 99]⟩, ⟨#[120, 32, 121]⟩, ⟨#[112, 97, 121, 32, 49]⟩]

theorem word_at {v : World} {b : Nat} (h : v.heap[b]? = some (.cells #[.string ⟨#[97]⟩, .string ⟨#[98]⟩, .string ⟨#[99, 99]⟩, .string ⟨#[120, 32, 121]⟩, .string ⟨#[112, 97, 121, 32, 49]⟩] 9 (0, 0))) (i : Nat) (hi : i < 5) : ∃ x : ByteArray, v.cell? ⟨b, i, none⟩ = some (.string x) ∧ 1 ≤ x.size ∧ x.size ≤ 5 := by
  match i, hi with
  | 0, _ => exact ⟨⟨#[97]⟩, by unfold World.cell?; rw [h]; rfl, by decide, by decide⟩
  | 1, _ => exact ⟨⟨#[98]⟩, by unfold World.cell?; rw [h]; rfl, by decide, by decide⟩
  | 2, _ => exact ⟨⟨#[99, 99]⟩, by unfold World.cell?; rw [h]; rfl, by decide, by decide⟩
  | 3, _ => exact ⟨⟨#[120, 32, 121]⟩, by unfold World.cell?; rw [h]; rfl, by decide, by decide⟩
  | 4, _ => exact ⟨⟨#[112, 97, 121, 32, 49]⟩, by unfold World.cell?; rw [h]; rfl, by decide, by decide⟩

set_option maxHeartbeats 400000 in
theorem l1Word_any (SB cn cc t : Nat) (ca : Option Addr) (l : List Int) (w v : World) (ht : t ≤ 1000) (hcn : cn ≤ 1048577) (hB : BAt w ca cn l) (h : Src w v SB ca cn cc t) :
    Calls Tryz.prog 48 #[.pointer (some ⟨SB, 0, none⟩)] v fun e v' => ∃ x : ByteArray, e = .returned (.string x) ∧ (1 ≤ x.size ∧ x.size ≤ 5) ∧ Src w v' SB ca cn cc (t + 1) ∧ Chg v v' SB (SB + 1) := by
  have hS := h.step (below_box (.cells #[.string ⟨#[97]⟩, .string ⟨#[98]⟩, .string ⟨#[99, 99]⟩, .string ⟨#[120, 32, 121]⟩, .string ⟨#[112, 97, 121, 32, 49]⟩] 9))
  have hnx := l1Next_any SB cn cc t ca l 5 w _ (by omega) ht hcn hB hS
  have hlt := h.lt
  clear hB h hS
  go_enter Tryz.func48, Tryz.ntmps48
  go_wp2_with (go_at_call 18; refine hnx.mono ?_; rintro e v2 ⟨r, rfl, ⟨hr0, hr1⟩, hS2, hc2⟩; have hr2 : r < 5 := hr1 (by omega); obtain ⟨i, rfl⟩ := Int.eq_ofNat_of_zero_le hr0; obtain ⟨x, hx, hxs⟩ := word_at (hc2.keep1 (heap_alloc_new _ _) (by omega)) i (by omega); have HC : Hid (Chg v v2 SB (SB + 1)) := (Chg.of_below (below_box _) _ _).trans hc2; have HS : Hid (Src w v2 SB ca cn cc (t + 1)) := hS2; clear hc2 hS2 hr1)
  go_ret
  exact ⟨x, rfl, hxs, HS.out, HC.out⟩

set_option maxHeartbeats 400000 in
theorem l1Pick_any (SB cn cc t n cap : Nat) (ca la : Option Addr) (l zs : List Int) (w v : World) (hn1 : 1 ≤ n) (hn2 : n ≤ 9) (ht : t ≤ 1000) (hcn : cn ≤ 1048577) (hB : BAt w ca cn l) (h : Src w v SB ca cn cc t) (hI : IAt v la n zs) (hne : ∀ b off, la = some ⟨b, off, none⟩ → b ≠ SB) :
    Calls Tryz.prog 22 #[.pointer (some ⟨SB, 0, none⟩), .slice la n cap] v fun e v' => ∃ z : Int, e = .returned (.int .i64 z) ∧ z ∈ zs ∧ Src w v' SB ca cn cc (t + 1) ∧ Chg v v' SB (SB + 1) := by
  have hnx := l1Next_any SB cn cc t ca l n w v (by omega) ht hcn hB h
  have hzl := hI.1
  rcases hI.2 with h0 | ⟨b, off, rfl, hbl, hc⟩
  · omega
  have hbs := hne b off rfl
  have HC0 : Hid (∀ j, j < n → v.cell? ⟨b, off + j, none⟩ = some (.int .i64 (zs.getD j 0))) := hc
  clear hB h hI hc hne
  go_enter Tryz.func22, Tryz.ntmps22
  go_wp2_with (go_at_call 18; refine hnx.mono ?_; rintro e v2 ⟨r, rfl, ⟨hr0, hr1⟩, hS2, hc2⟩; have hr2 : r < n := hr1 (by omega); obtain ⟨i, rfl⟩ := Int.eq_ofNat_of_zero_le hr0; have hx : v2.cell? ⟨b, off + i, none⟩ = some (.int .i64 (zs.getD i 0)) := (World.cell?_of_block (hc2.block b hbl (by omega))).trans (HC0.out i (by omega)); obtain ⟨z, hz⟩ : ∃ z, z = zs.getD i 0 := ⟨_, rfl⟩; rw [← hz] at hx; have HZ : Hid (z = zs.getD i 0) := hz; have HC : Hid (Chg v v2 SB (SB + 1)) := hc2; have HS : Hid (Src w v2 SB ca cn cc (t + 1)) := hS2; clear hc2 hS2 hr1 hz)
  go_ret
  refine ⟨z, rfl, ?_, HS.out, HC.out⟩
  rw [HZ.out, List.getD, List.getElem?_eq_getElem (by omega)]
  exact List.getElem_mem _

end Go.Proofs.YtagokfoimokniaaGreatDoor
