/- Plain mathematics of the ledger: what a list of texts and a list of signatures answer when they are asked for faults, element by element, and the number of an element in a list. No program is named here. Closed facts of the translation, and what it says that a slice value leads to a list of texts or of signatures. -/
import Derived.Maps.OwnSet
import Derived.Test.YtocgmgcjbmipnaaProg
import Derived.WalkKit
import Derived.WalkSpells
import Derived.WalkLawsBesides
import Derived.Maps.Own
import Derived.Maps.OwnOps
import Derived.Lib.SmallJoins
namespace Go.Proofs.Ytocgmgcjbmipnaa

/-- The number of x in l: its first place and 1; 0: it is not there. -/
def num {A : Type} [DecidableEq A] : List A → A → Nat
  | [], _ => 0
  | y :: l, x => if y = x then 1 else if num l x = 0 then 0 else num l x + 1

section
variable {A : Type} [DecidableEq A]

theorem num_zero (l : List A) (x : A) : num l x = 0 ↔ x ∉ l := by
  induction l with
  | nil => simp [num]
  | cons y l ih =>
    unfold num
    by_cases h : y = x
    · simp [h]
    · by_cases h2 : num l x = 0
      · have := ih.1 h2
        simp [h, h2]
        exact ⟨fun e => h e.symm, this⟩
      · have h3 : x ∈ l := Classical.byContradiction fun hn => h2 (ih.2 hn)
        simp [h, h2, h3]

theorem num_le (l : List A) (x : A) : num l x ≤ l.length := by
  induction l with
  | nil => simp [num]
  | cons y l ih =>
    unfold num; simp only [List.length_cons]
    split
    · omega
    · split <;> omega

theorem num_snoc (l : List A) (x y : A) (hx : x ∉ l) : num (l ++ [x]) y = if y = x then l.length + 1 else num l y := by
  induction l with
  | nil =>
    simp only [List.nil_append, num, List.length_nil]
    by_cases h : x = y
    · simp [h]
    · simp [fun e : x = y => h e, show ¬ y = x from fun e => h e.symm]
  | cons z l ih =>
    have hxz : ¬ z = x := fun e => hx (by simp [e])
    have ih' := ih (fun h => hx (List.mem_cons_of_mem _ h))
    simp only [List.cons_append, num, ih', List.length_cons]
    by_cases hyx : y = x
    · subst hyx
      simp [hxz]
    · simp [hyx]

theorem num_hit (l : List A) (x : A) (d : A) (k : Nat) (hk : k < l.length) (he : l.getD k d = x) (hn : x ∉ l.take k) : num l x = k + 1 := by
  induction l generalizing k with
  | nil => simp at hk
  | cons y l ih =>
    cases k with
    | zero => simp at he; simp [num, he]
    | succ k =>
      simp at hk he hn
      have := ih k hk (by simpa using he) hn.2
      have hyx : ¬ y = x := fun e => hn.1 e.symm
      simp [num, hyx, this]

omit [DecidableEq A] in
theorem take_snoc (l : List A) (d : A) (k : Nat) (hk : k < l.length) : l.take (k + 1) = l.take k ++ [l.getD k d] := by
  rw [List.take_succ_eq_append_getElem hk]
  simp [List.getD, hk]

omit [DecidableEq A] in
theorem drop_cons (l : List A) (d : A) (k : Nat) (hk : k < l.length) : l.drop k = l.getD k d :: l.drop (k + 1) := by
  rw [List.drop_eq_getElem_cons hk]
  simp [List.getD, hk]

end

instance : DecidableEq ByteArray := fun a b => decidable_of_iff (a.data = b.data) ⟨fun h => by cases a; cases b; simp_all, fun h => by rw [h]⟩

/-- What the texts answer from one on, 'seen' those ahead of it. -/
def tgo (seen : List ByteArray) : List ByteArray → Int
  | [] => 0
  | s :: r => if s.size < 1 ∨ 300 < s.size then 2 else if num seen s ≠ 0 then 7 else tgo (seen ++ [s]) r

/-- What the signatures answer from one on. -/
def sgo (n : Int) (seen : List (Int × Int)) : List (Int × Int) → Int
  | [] => 0
  | g :: r => if ¬ (1 ≤ g.1 ∧ g.1 ≤ 999 ∧ 1 ≤ g.2 ∧ g.2 ≤ n) then 3 else if num seen g ≠ 0 then 7 else sgo n (seen ++ [g]) r

/-- The ledger's fault. -/
def flt (ss : List ByteArray) (gs : List (Int × Int)) : Int :=
  if 60 < ss.length ∨ 120 < gs.length then 2 else if tgo [] ss ≠ 0 then tgo [] ss else sgo ss.length [] gs

def E0 : ByteArray := ByteArray.empty
def G0 : Int × Int := (0, 0)

def tAt (ss : List ByteArray) (k : Nat) : Int := tgo (ss.take k) (ss.drop k)
def gAt (n : Int) (gs : List (Int × Int)) (k : Nat) : Int := sgo n (gs.take k) (gs.drop k)

theorem tAt_zero (ss : List ByteArray) : tAt ss 0 = tgo [] ss := rfl
theorem gAt_zero (n : Int) (gs : List (Int × Int)) : gAt n gs 0 = sgo n [] gs := rfl
theorem tAt_end (ss : List ByteArray) : tAt ss ss.length = 0 := by simp [tAt, tgo]
theorem gAt_end (n : Int) (gs : List (Int × Int)) : gAt n gs gs.length = 0 := by simp [gAt, sgo]

theorem tAt_step (ss : List ByteArray) (k : Nat) (hk : k < ss.length) : tAt ss k = if (ss.getD k E0).size < 1 ∨ 300 < (ss.getD k E0).size then 2 else if num (ss.take k) (ss.getD k E0) ≠ 0 then 7 else tAt ss (k + 1) := by
  unfold tAt
  rw [drop_cons ss E0 k hk, tgo, take_snoc ss E0 k hk]

theorem gAt_step (n : Int) (gs : List (Int × Int)) (k : Nat) (hk : k < gs.length) : gAt n gs k =
    if ¬ (1 ≤ (gs.getD k G0).1 ∧ (gs.getD k G0).1 ≤ 999 ∧ 1 ≤ (gs.getD k G0).2 ∧ (gs.getD k G0).2 ≤ n) then 3 else if num (gs.take k) (gs.getD k G0) ≠ 0 then 7 else gAt n gs (k + 1) := by
  unfold gAt
  rw [drop_cons gs G0 k hk, sgo, take_snoc gs G0 k hk]

end Go.Proofs.Ytocgmgcjbmipnaa

namespace Go.Proofs.Ytocgmgcjbmipnaa
open Go.RowKit Go.Maps

theorem Try.infoStr : (Try.prog.info? 9).map (fun i => (i.zero, i.size, i.bytes)) = some (some (.string ByteArray.empty), 1, 16) := by kernel_rfl
theorem Try.infoSig : (Try.prog.info? 71).map (fun i => (i.zero, i.size, i.bytes)) = some (some (.agg #[.int .i64 0, .int .i64 0]), 2, 16) := by kernel_rfl

/-- The slice value '.slice a n _' leads to the texts ss. -/
def SAt (w : World) (a : Option Addr) (n : Nat) (ss : List ByteArray) : Prop :=
  ss.length = n ∧ (n = 0 ∨ ∃ b off, a = some ⟨b, off, none⟩ ∧ b < w.heap.size ∧ ∀ j, j < n → w.cell? ⟨b, off + j, none⟩ = some (.string (ss.getD j E0)))

/-- The slice value '.slice a n _' leads to the signatures gs, two cells each. -/
def GAt (w : World) (a : Option Addr) (n : Nat) (gs : List (Int × Int)) : Prop :=
  gs.length = n ∧ (n = 0 ∨ ∃ b off, a = some ⟨b, off, none⟩ ∧ b < w.heap.size ∧
    ∀ j, j < n → w.cell? ⟨b, off + j * 2, none⟩ = some (.int .i64 (gs.getD j G0).1) ∧ w.cell? ⟨b, off + j * 2 + 1, none⟩ = some (.int .i64 (gs.getD j G0).2))

theorem SAt.below {w w' : World} {a : Option Addr} {n : Nat} {ss : List ByteArray} (h : SAt w a n ss) {B : Nat} (hb : Below B w w') (hB : w.heap.size ≤ B) : SAt w' a n ss := by
  obtain ⟨hn, h | ⟨b, off, rfl, hlt, hc⟩⟩ := h
  · exact ⟨hn, .inl h⟩
  · exact ⟨hn, .inr ⟨b, off, rfl, Nat.lt_of_lt_of_le hlt hb.size, fun j hj => (hb.cell (p := ⟨b, off + j, none⟩) (Nat.lt_of_lt_of_le hlt hB)).trans (hc j hj)⟩⟩

theorem GAt.below {w w' : World} {a : Option Addr} {n : Nat} {gs : List (Int × Int)} (h : GAt w a n gs) {B : Nat} (hb : Below B w w') (hB : w.heap.size ≤ B) : GAt w' a n gs := by
  obtain ⟨hn, h | ⟨b, off, rfl, hlt, hc⟩⟩ := h
  · exact ⟨hn, .inl h⟩
  · exact ⟨hn, .inr ⟨b, off, rfl, Nat.lt_of_lt_of_le hlt hb.size, fun j hj =>
      ⟨(hb.cell (p := ⟨b, off + j * 2, none⟩) (Nat.lt_of_lt_of_le hlt hB)).trans (hc j hj).1, (hb.cell (p := ⟨b, off + j * 2 + 1, none⟩) (Nat.lt_of_lt_of_le hlt hB)).trans (hc j hj).2⟩⟩⟩

/-- Of a row that the call owns. -/
theorem SAt.owned {w : World} {base n cap g : Nat} {ss : List ByteArray} {e : TypeId} (h : w.ownsRow base e 1 (.slice (some ⟨g, 0, none⟩) n cap) n (ss.map Value.string)) (hn : ss.length = n) : SAt w (some ⟨g, 0, none⟩) n ss := by
  refine ⟨hn, .inr ⟨g, 0, rfl, (h.lt g rfl).2, fun j hj => ?_⟩⟩
  rw [Nat.zero_add, h.cellAt j (by omega)]
  simp [List.getD, show j < ss.length by omega]

def gcells (gs : List (Int × Int)) : List Value := gs.flatMap fun g => [.int .i64 g.1, .int .i64 g.2]

theorem gcells_length (gs : List (Int × Int)) : (gcells gs).length = gs.length * 2 := by
  induction gs with
  | nil => rfl
  | cons g r ih => simp [gcells] at ih ⊢; omega

theorem gcells_at (gs : List (Int × Int)) (j : Nat) (hj : j < gs.length) : (gcells gs)[j * 2]? = some (.int .i64 (gs.getD j G0).1) ∧ (gcells gs)[j * 2 + 1]? = some (.int .i64 (gs.getD j G0).2) := by
  induction gs generalizing j with
  | nil => simp at hj
  | cons g r ih =>
    cases j with
    | zero => simp [gcells]
    | succ j =>
      have := ih j (by simpa using hj)
      have e : gcells (g :: r) = .int .i64 g.1 :: .int .i64 g.2 :: gcells r := by simp [gcells]
      rw [e, show (j + 1) * 2 = j * 2 + 1 + 1 by omega]
      simpa using this

theorem GAt.owned {w : World} {base n cap g : Nat} {gs : List (Int × Int)} {e : TypeId} (h : w.ownsRow base e 2 (.slice (some ⟨g, 0, none⟩) n cap) n (gcells gs)) (hn : gs.length = n) : GAt w (some ⟨g, 0, none⟩) n gs := by
  refine ⟨hn, .inr ⟨g, 0, rfl, (h.lt g rfl).2, fun j hj => ?_⟩⟩
  have := gcells_at gs j (by omega)
  rw [Nat.zero_add, h.cellAt (j * 2) (by omega), h.cellAt (j * 2 + 1) (by omega)]
  exact this

theorem str_yes {s x : ByteArray} (h : s = x) : (s.toList == x.toList) = true := by rw [h]; simp
theorem str_no {s x : ByteArray} (h : ¬ s = x) : (s.toList == x.toList) = false := by
  rw [ByteArray.toList_eq, ByteArray.toList_eq]
  refine Bool.eq_false_iff.2 fun e => h ?_
  have e' : s.data.toList = x.data.toList := by simpa using e
  cases s; cases x
  simpa using e'

theorem ret_int {k : IntKind} {a b : Int} (h : a = b) : Ending.returned (.int k a) = .returned (.int k b) := by rw [h]

def inB (v lo hi : Int) : Bool := decide (lo ≤ v ∧ v ≤ hi)

theorem inB_true {v lo hi : Int} : inB v lo hi = true ↔ lo ≤ v ∧ v ≤ hi := by simp [inB]
theorem inB_false {v lo hi : Int} : inB v lo hi = false ↔ ¬ (lo ≤ v ∧ v ≤ hi) := by simp [inB]

theorem SAt.take {w : World} {a : Option Addr} {n k : Nat} {ss : List ByteArray} (h : SAt w a n ss) (hk : k ≤ n) : SAt w a k (ss.take k) := by
  obtain ⟨hn, h⟩ := h
  refine ⟨by simp; omega, ?_⟩
  rcases h with h | ⟨b, off, rfl, hb, hc⟩
  · exact .inl (by omega)
  · refine .inr ⟨b, off, rfl, hb, fun j hj => ?_⟩
    rw [hc j (by omega)]
    simp [List.getD, hj]

theorem GAt.take {w : World} {a : Option Addr} {n k : Nat} {gs : List (Int × Int)} (h : GAt w a n gs) (hk : k ≤ n) : GAt w a k (gs.take k) := by
  obtain ⟨hn, h⟩ := h
  refine ⟨by simp; omega, ?_⟩
  rcases h with h | ⟨b, off, rfl, hb, hc⟩
  · exact .inl (by omega)
  · refine .inr ⟨b, off, rfl, hb, fun j hj => ?_⟩
    rw [(hc j (by omega)).1, (hc j (by omega)).2]
    simp [List.getD, hj]

/-- What a step of the texts' loop comes to. -/
theorem t_short {ss : List ByteArray} {n k : Nat} {s : ByteArray} (hn : ss.length = n) (hlt : k < n) (hs : s = ss.getD k E0) (h : s.size < 1 ∨ 300 < s.size) (hi : tgo [] ss = tAt ss k) : tgo [] ss = 2 := by
  rw [hi, tAt_step ss k (by omega), ← hs, if_pos h]
theorem t_taken {ss : List ByteArray} {n k : Nat} {s : ByteArray} (hn : ss.length = n) (hlt : k < n) (hs : s = ss.getD k E0) (h : ¬ (s.size < 1 ∨ 300 < s.size)) (h2 : num (ss.take k) s ≠ 0) (hi : tgo [] ss = tAt ss k) : tgo [] ss = 7 := by
  rw [hi, tAt_step ss k (by omega), ← hs, if_neg h, if_pos h2]
theorem t_next {ss : List ByteArray} {n k : Nat} {s : ByteArray} (hn : ss.length = n) (hlt : k < n) (hs : s = ss.getD k E0) (h : ¬ (s.size < 1 ∨ 300 < s.size)) (h2 : num (ss.take k) s = 0) (hi : tgo [] ss = tAt ss k) : Hid (tgo [] ss = tAt ss (k + 1)) := by
  show tgo [] ss = _
  rw [hi, tAt_step ss k (by omega), ← hs, if_neg h, if_neg (by omega)]
theorem t_done {ss : List ByteArray} {n k : Nat} (hn : ss.length = n) (hk : k ≤ n) (hlt : ¬ k < n) (hi : tgo [] ss = tAt ss k) : tgo [] ss = 0 := by
  rw [hi, show k = ss.length by omega, tAt_end]

theorem g_range {gs : List (Int × Int)} {n : Int} {m k : Nat} {g : Int × Int} (hn : gs.length = m) (hlt : k < m) (hs : g = gs.getD k G0) (h : ¬ (1 ≤ g.1 ∧ g.1 ≤ 999 ∧ 1 ≤ g.2 ∧ g.2 ≤ n)) (hi : sgo n [] gs = gAt n gs k) : sgo n [] gs = 3 := by
  rw [hi, gAt_step n gs k (by omega), ← hs, if_pos h]
theorem g_taken {gs : List (Int × Int)} {n : Int} {m k : Nat} {g : Int × Int} (hn : gs.length = m) (hlt : k < m) (hs : g = gs.getD k G0) (h : 1 ≤ g.1 ∧ g.1 ≤ 999 ∧ 1 ≤ g.2 ∧ g.2 ≤ n) (h2 : num (gs.take k) g ≠ 0) (hi : sgo n [] gs = gAt n gs k) : sgo n [] gs = 7 := by
  rw [hi, gAt_step n gs k (by omega), ← hs, if_neg (fun e => e h), if_pos h2]
theorem g_next {gs : List (Int × Int)} {n : Int} {m k : Nat} {g : Int × Int} (hn : gs.length = m) (hlt : k < m) (hs : g = gs.getD k G0) (h : 1 ≤ g.1 ∧ g.1 ≤ 999 ∧ 1 ≤ g.2 ∧ g.2 ≤ n) (h2 : num (gs.take k) g = 0) (hi : sgo n [] gs = gAt n gs k) : Hid (sgo n [] gs = gAt n gs (k + 1)) := by
  show sgo n [] gs = _
  rw [hi, gAt_step n gs k (by omega), ← hs, if_neg (fun e => e h), if_neg (by omega)]
theorem g_done {gs : List (Int × Int)} {n : Int} {m k : Nat} (hn : gs.length = m) (hk : k ≤ m) (hlt : ¬ k < m) (hi : sgo n [] gs = gAt n gs k) : sgo n [] gs = 0 := by
  rw [hi, show k = gs.length by omega, gAt_end]

theorem flt_many {ss : List ByteArray} {gs : List (Int × Int)} {n m : Nat} (hn : ss.length = n) (hm : gs.length = m) (h : 60 < n ∨ 120 < m) : flt ss gs = 2 := by
  unfold flt; rw [if_pos (by omega)]
theorem flt_texts {ss : List ByteArray} {gs : List (Int × Int)} {n m : Nat} (hn : ss.length = n) (hm : gs.length = m) (h : ¬ (60 < n ∨ 120 < m)) {c : Int} (hc : tgo [] ss = c) (h0 : c ≠ 0) : flt ss gs = c := by
  unfold flt; rw [if_neg (by omega), if_pos (by rw [hc]; exact h0), hc]
theorem flt_signs {ss : List ByteArray} {gs : List (Int × Int)} {n m : Nat} (hn : ss.length = n) (hm : gs.length = m) (h : ¬ (60 < n ∨ 120 < m)) (hc : tgo [] ss = 0) {c : Int} (h0 : sgo n [] gs = c) : flt ss gs = c := by
  unfold flt; rw [if_neg (by omega), if_neg (by simp [hc]), hn, h0]

theorem two_set {w : World} {b : Nat} {c0 c1 : Value} {t : TypeId} (h : w.heap[b]? = some (.cells #[c0, c1] t (0, 0))) (v0 v1 : Value) :
    (w.setCell ⟨b, 0, none⟩ v0).cell? ⟨b, 0, none⟩ = some v0 ∧ ((w.setCell ⟨b, 0, none⟩ v0).setCell ⟨b, 1, none⟩ v1).cell? ⟨b, 1, none⟩ = some v1 ∧ ((w.setCell ⟨b, 0, none⟩ v0).setCell ⟨b, 1, none⟩ v1).cell? ⟨b, 0, none⟩ = some v0 := by
  have h1 : (w.setCell ⟨b, 0, none⟩ v0).heap[b]? = some (.cells #[v0, c1] t (0, 0)) := by
    have := Joins.block_setCell (i := 0) h v0
    simpa using this
  have h2 : ((w.setCell ⟨b, 0, none⟩ v0).setCell ⟨b, 1, none⟩ v1).heap[b]? = some (.cells #[v0, v1] t (0, 0)) := by
    have := Joins.block_setCell (i := 1) h1 v1
    simpa using this
  exact ⟨by unfold World.cell?; rw [h1]; rfl, by unfold World.cell?; rw [h2]; rfl, by unfold World.cell?; rw [h2]; rfl⟩

/-- What is known of the block of the result behind a call. -/
theorem res_cells {w w2 : World} {b : Nat} {c0 c1 : Value} {t : TypeId} {B : Nat} (h : w.heap[b]? = some (.cells #[c0, c1] t (0, 0))) (hb : Below B w w2) (hB : b < B) :
    w2.cell? ⟨b, 0, none⟩ = some c0 ∧ w2.cell? ⟨b, 1, none⟩ = some c1 ∧ w2.frozen? ⟨b, 0, none⟩ = false ∧ w2.frozen? ⟨b, 1, none⟩ = false ∧ Hid (w2.heap[b]? = some (.cells #[c0, c1] t (0, 0))) := by
  have h2 := (hb.block b hB).trans h
  exact ⟨by unfold World.cell?; rw [h2]; rfl, by unfold World.cell?; rw [h2]; rfl, Joins.unfrozen_of_block h2 0, Joins.unfrozen_of_block h2 1, h2⟩

end Go.Proofs.Ytocgmgcjbmipnaa
