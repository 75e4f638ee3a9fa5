/- Plain mathematics of the ledger: what a list of texts and a list of signatures answer when they are asked for faults, element by element, and the number of an element in a list. No program is named here. -/
import Derived.Maps.OwnSet
namespace Go.Proofs.Ytaopblgnmmhjfaa

/-- The number of x in l: its first place and 1; 0: it is not there. -/
def num {A : Type} [DecidableEq A] : List A → A → Nat
  | [], _ => 0
  | y :: l, x => if y = x then 1 else if num l x = 0 then 0 else num l x + 1

section
variable {A : Type} [DecidableEq A]

theorem num_zero (l : List A) (x : A) : num l x = 0 ↔ x ∉ l := by
  induction l with
  | nil => simp [num]
  | cons y l ih =>
    unfold num
    by_cases h : y = x
    · simp [h]
    · by_cases h2 : num l x = 0
      · have := ih.1 h2
        simp [h, h2]
        exact ⟨fun e => h e.symm, this⟩
      · have h3 : x ∈ l := Classical.byContradiction fun hn => h2 (ih.2 hn)
        simp [h, h2, h3]

theorem num_le (l : List A) (x : A) : num l x ≤ l.length := by
  induction l with
  | nil => simp [num]
  | cons y l ih =>
    unfold num; simp only [List.length_cons]
    split
    · omega
    · split <;> omega

theorem num_snoc (l : List A) (x y : A) (hx : x ∉ l) : num (l ++ [x]) y = if y = x then l.length + 1 else num l y := by
  induction l with
  | nil =>
    simp only [List.nil_append, num, List.length_nil]
    by_cases h : x = y
    · simp [h]
    · simp [fun e : x = y => h e, show ¬ y = x from fun e => h e.symm]
  | cons z l ih =>
    have hxz : ¬ z = x := fun e => hx (by simp [e])
    have ih' := ih (fun h => hx (List.mem_cons_of_mem _ h))
    simp only [List.cons_append, num, ih', List.length_cons]
    by_cases hyx : y = x
    · subst hyx
      simp [hxz]
    · simp [hyx]

theorem num_hit (l : List A) (x : A) (d : A) (k : Nat) (hk : k < l.length) (he : l.getD k d = x) (hn : x ∉ l.take k) : num l x = k + 1 := by
  induction l generalizing k with
  | nil => simp at hk
  | cons y l ih =>
    cases k with
    | zero => simp at he; simp [num, he]
    | succ k =>
      simp at hk he hn
      have := ih k hk (by simpa using he) hn.2
      have hyx : ¬ y = x := fun e => hn.1 e.symm
      simp [num, hyx, this]

omit [DecidableEq A] in
theorem take_snoc (l : List A) (d : A) (k : Nat) (hk : k < l.length) : l.take (k + 1) = l.take k ++ [l.getD k d] := by
  rw [List.take_succ_eq_append_getElem hk]
  simp [List.getD, hk]

omit [DecidableEq A] in
theorem drop_cons (l : List A) (d : A) (k : Nat) (hk : k < l.length) : l.drop k = l.getD k d :: l.drop (k + 1) := by
  rw [List.drop_eq_getElem_cons hk]
  simp [List.getD, hk]

omit [DecidableEq A] in
theorem getD_mem_take_iff (l : List A) (d x : A) (k : Nat) (hk : k ≤ l.length) : x ∈ l.take k ↔ ∃ j, j < k ∧ l.getD j d = x := by
  constructor
  · intro h
    obtain ⟨j, hj, e⟩ := List.mem_iff_getElem.1 h
    have hj' : j < k ∧ j < l.length := by simp at hj; omega
    refine ⟨j, hj'.1, ?_⟩
    simp [List.getD, hj'.2]
    simpa using e
  · rintro ⟨j, hj, rfl⟩
    have hl : j < l.length := by omega
    exact List.mem_iff_getElem.2 ⟨j, by simp; omega, by simp [List.getD, hl]⟩
end

instance : DecidableEq ByteArray := fun a b => decidable_of_iff (a.data = b.data) ⟨fun h => by cases a; cases b; simp_all, fun h => by rw [h]⟩

/-- What the texts answer from one on, 'seen' those ahead of it. -/
def tgo (seen : List ByteArray) : List ByteArray → Int
  | [] => 0
  | s :: r => if s.size < 1 ∨ 300 < s.size then 2 else if num seen s ≠ 0 then 7 else tgo (seen ++ [s]) r

/-- What the signatures answer from one on. -/
def sgo (n : Int) (seen : List (Int × Int)) : List (Int × Int) → Int
  | [] => 0
  | g :: r => if ¬ (1 ≤ g.1 ∧ g.1 ≤ 999 ∧ 1 ≤ g.2 ∧ g.2 ≤ n) then 3 else if num seen g ≠ 0 then 7 else sgo n (seen ++ [g]) r

/-- The ledger's fault. -/
def flt (ss : List ByteArray) (gs : List (Int × Int)) : Int :=
  if 60 < ss.length ∨ 120 < gs.length then 2 else if tgo [] ss ≠ 0 then tgo [] ss else sgo ss.length [] gs

def E0 : ByteArray := ByteArray.empty
def G0 : Int × Int := (0, 0)

def tAt (ss : List ByteArray) (k : Nat) : Int := tgo (ss.take k) (ss.drop k)
def gAt (n : Int) (gs : List (Int × Int)) (k : Nat) : Int := sgo n (gs.take k) (gs.drop k)

theorem tAt_zero (ss : List ByteArray) : tAt ss 0 = tgo [] ss := rfl
theorem gAt_zero (n : Int) (gs : List (Int × Int)) : gAt n gs 0 = sgo n [] gs := rfl
theorem tAt_end (ss : List ByteArray) : tAt ss ss.length = 0 := by simp [tAt, tgo]
theorem gAt_end (n : Int) (gs : List (Int × Int)) : gAt n gs gs.length = 0 := by simp [gAt, sgo]

theorem tAt_step (ss : List ByteArray) (k : Nat) (hk : k < ss.length) : tAt ss k = if (ss.getD k E0).size < 1 ∨ 300 < (ss.getD k E0).size then 2 else if num (ss.take k) (ss.getD k E0) ≠ 0 then 7 else tAt ss (k + 1) := by
  unfold tAt
  rw [drop_cons ss E0 k hk, tgo, take_snoc ss E0 k hk]

theorem gAt_step (n : Int) (gs : List (Int × Int)) (k : Nat) (hk : k < gs.length) : gAt n gs k =
    if ¬ (1 ≤ (gs.getD k G0).1 ∧ (gs.getD k G0).1 ≤ 999 ∧ 1 ≤ (gs.getD k G0).2 ∧ (gs.getD k G0).2 ≤ n) then 3 else if num (gs.take k) (gs.getD k G0) ≠ 0 then 7 else gAt n gs (k + 1) := by
  unfold gAt
  rw [drop_cons gs G0 k hk, sgo, take_snoc gs G0 k hk]

theorem tgo_vals (seen l : List ByteArray) : tgo seen l = 0 ∨ tgo seen l = 2 ∨ tgo seen l = 7 := by
  induction l generalizing seen with
  | nil => simp [tgo]
  | cons s r ih =>
    unfold tgo
    split
    · simp
    · split
      · simp
      · exact ih _

theorem sgo_vals (n : Int) (seen l : List (Int × Int)) : sgo n seen l = 0 ∨ sgo n seen l = 3 ∨ sgo n seen l = 7 := by
  induction l generalizing seen with
  | nil => simp [sgo]
  | cons s r ih =>
    unfold sgo
    split
    · simp
    · split
      · simp
      · exact ih _

end Go.Proofs.Ytaopblgnmmhjfaa
