/- The program's machine that reads numbers: what it comes to, and that it does. -/
import Derived.Test.YtlacmcedpphphaaDoorGc
import Derived.Test.YtlacmcedpphphaaDoorGd
import Derived.Scope
import Derived.WalkMore
namespace Go.Proofs.YtlacmcedpphphaaDoor
open Go.RowKit Go.Shelf Go.Maps Go.WideMaps

/-- As Q; by a goto to a label: J of that label. -/
def jumps (J : Nat → Act → World → Prop) (Q : Exit → Act → World → Prop) : Exit → Act → World → Prop
  | .goto l, a, w => J l a w
  | e, a, w => Q e a w
/-- A scope through which the run jumps to and fro between four labels. -/
theorem wp_scope4 {P : Program} {a : Act} {w : World} {Q : Exit → Act → World → Prop} {c y0 y1 y2 y3 : Code} (J : Nat → Act → World → Prop) (μ : Nat → Act → World → Nat) (hJ : ∀ l a w, J l a w → l = 0 ∨ l = 1 ∨ l = 2 ∨ l = 3)
    (f0 : findLabel c 0 = some (Code.seq Code.skip y0)) (f1 : findLabel c 1 = some (Code.seq Code.skip y1)) (f2 : findLabel c 2 = some (Code.seq Code.skip y2)) (f3 : findLabel c 3 = some (Code.seq Code.skip y3))
    (p0 : ∀ a w, J 0 a w → y0.wp P (jumps (fun l a' w' => J l a' w' ∧ μ l a' w' < μ 0 a w) Q) a w)
    (p2 : ∀ a w, J 2 a w → y2.wp P (jumps (fun l a' w' => J l a' w' ∧ μ l a' w' < μ 2 a w) Q) a w) (p3 : ∀ a w, J 3 a w → y3.wp P (jumps (fun l a' w' => J l a' w' ∧ μ l a' w' < μ 3 a w) Q) a w)
    (q1 : (∀ a w, J 3 a w → y3.wp P (jumps (fun l a' w' => J l a' w' ∧ μ l a' w' < μ 3 a w) Q) a w) → ∀ a w, J 1 a w → y1.wp P (jumps (fun l a' w' => J l a' w' ∧ μ l a' w' < μ 1 a w) Q) a w)
    (qf : (∀ a w, J 1 a w → y1.wp P (jumps (fun l a' w' => J l a' w' ∧ μ l a' w' < μ 1 a w) Q) a w) → c.wp P (jumps J Q) a w) : (Code.scope c).wp P Q a w := by
  have p1 := q1 p3
  have first := qf p1
  intro b k cs
  have found : ∀ l a w, J l a w → ∃ r, findLabel c l = some r ∧ r.wp P (jumps (fun l' a' w' => J l' a' w' ∧ μ l' a' w' < μ l a w) Q) a w := by
    intro l a w h
    rcases hJ l a w h with rfl | rfl | rfl | rfl
    · exact ⟨_, f0, wp_seq (wp_skip (p0 a w h))⟩
    · exact ⟨_, f1, wp_seq (wp_skip (p1 a w h))⟩
    · exact ⟨_, f2, wp_seq (wp_skip (p2 a w h))⟩
    · exact ⟨_, f3, wp_seq (wp_skip (p3 a w h))⟩
  have key : ∀ n l a w, μ l a w = n → J l a w → ∀ r, findLabel c l = some r → ∃ e a' w', Q e a' w' ∧ Arrives P (lone (b.at a (.code r :: .inScope c :: k)) cs w) b k cs e a' w' := by
    intro n
    induction n using Nat.strongRecOn with
    | _ n ih =>
      intro l a w hn hj r hr
      obtain ⟨r', hr', hp⟩ := found l a w hj
      obtain rfl : r' = r := Option.some.inj (hr'.symm.trans hr)
      obtain ⟨e, a₁, w₁, hq, harr⟩ := hp b (.inScope c :: k) cs
      cases e with
      | normal => exact ⟨.normal, a₁, w₁, hq, Steps.trans harr (.one step_inScope)⟩
      | exit id => exact ⟨.exit id, a₁, w₁, hq, fun k' hk => harr k' (by simp [exitTo, hk])⟩
      | goto l' =>
        obtain ⟨hj', hlt⟩ := hq
        obtain ⟨r2, hr2, _⟩ := found l' a₁ w₁ hj'
        obtain ⟨e₂, a₂, w₂, hq₂, harr₂⟩ := ih _ (by omega) l' a₁ w₁ rfl hj' r2 hr2
        have hg : gotoIn l' (.inScope c :: k) = some (.code r2 :: .inScope c :: k) := by simp [gotoIn, hr2]
        exact ⟨e₂, a₂, w₂, hq₂, .of_steps (harr _ hg) harr₂⟩
      | ret => exact ⟨_, a₁, w₁, hq, harr⟩
      | panic ch => exact ⟨_, a₁, w₁, hq, harr⟩
      | outgrown => exact ⟨_, a₁, w₁, hq, harr⟩
  obtain ⟨e, a₁, w₁, hq, harr⟩ := first b (.inScope c :: k) cs
  cases e with
  | normal => exact ⟨.normal, a₁, w₁, hq, .head step_scope (Steps.trans harr (.one step_inScope))⟩
  | exit id => exact ⟨.exit id, a₁, w₁, hq, fun k' hk => .head step_scope (harr k' (by simp [exitTo, hk]))⟩
  | goto l' =>
    have hj' : J l' a₁ w₁ := hq
    obtain ⟨r2, hr2, _⟩ := found l' a₁ w₁ hj'
    obtain ⟨e₂, a₂, w₂, hq₂, harr₂⟩ := key _ l' a₁ w₁ rfl hj' r2 hr2
    have hg : gotoIn l' (.inScope c :: k) = some (.code r2 :: .inScope c :: k) := by simp [gotoIn, hr2]
    exact ⟨e₂, a₂, w₂, hq₂, .of_steps (.head step_scope (harr _ hg)) harr₂⟩
  | ret => exact ⟨_, a₁, w₁, hq, .of_steps (.one step_scope) harr⟩
  | panic ch => exact ⟨_, a₁, w₁, hq, .of_steps (.one step_scope) harr⟩
  | outgrown => exact ⟨_, a₁, w₁, hq, .of_steps (.one step_scope) harr⟩

def markC (n : Nat) : UInt8 := if n ≤ 3 then 32 else 43
def lim (n : Nat) : Bool := decide (999 < n)
theorem lim_yes {n : Nat} (h : 999 < n) : lim n = true := decide_eq_true h
theorem lim_no {n : Nat} (h : ¬ 999 < n) : lim n = false := decide_eq_false h
def addD (v : Nat) (d : UInt8) : Nat := v * 10 + (d.toNat - 48)
def valA (v : Nat) (t : List UInt8) : Nat := t.foldl addD v
theorem valA_le (t : List UInt8) : ∀ v, v ≤ valA v t := by
  induction t with
  | nil => intro v; exact Nat.le_refl _
  | cons d t ih =>
    intro v
    have h := ih (addD v d)
    have h2 : v ≤ addD v d := by unfold addD; omega
    exact Nat.le_trans h2 h
/-- What stands behind the first word, read: the numbers, if they are some. -/
def rdF : Nat → List UInt8 → List Int → Option (List Int)
  | 0, _, _ => none
  | f + 1, r, ns => match r with
    | [] => if 3 ≤ ns.length then some ns else none
    | b :: r' => if b = markC ns.length then (if ns.length = 3 ∧ r' = [45] then some ns else match r' with
      | [] => none
      | d :: r'' => if isDg d = true then (if lim (valA 0 ((d :: r'').takeWhile isDg)) = true then none else rdF f ((d :: r'').dropWhile isDg) (ns ++ [((valA 0 ((d :: r'').takeWhile isDg) : Nat) : Int)])) else none) else none
/-- Within a number. -/
def rdD (f : Nat) (r : List UInt8) (v : Nat) (ns : List Int) : Option (List Int) := if lim (valA v (r.takeWhile isDg)) = true then none else rdF f (r.dropWhile isDg) (ns ++ [((valA v (r.takeWhile isDg) : Nat) : Int)])
theorem rdF_nil (f : Nat) (ns : List Int) : rdF (f + 1) [] ns = if 3 ≤ ns.length then some ns else none := rfl
theorem rdF_wrong {f : Nat} {b : UInt8} {r : List UInt8} {ns : List Int} (h : ¬ b = markC ns.length) : rdF (f + 1) (b :: r) ns = none := by simp only [rdF, if_neg h]
theorem rdF_end {f : Nat} {b : UInt8} {r : List UInt8} {ns : List Int} (h : b = markC ns.length) (h1 : ns.length = 3) (h2 : r = [45]) : rdF (f + 1) (b :: r) ns = some ns := by simp only [rdF, if_pos h, if_pos (And.intro h1 h2)]
theorem rdF_short {f : Nat} {b : UInt8} {ns : List Int} : rdF (f + 1) [b] ns = none := by
  by_cases h : b = markC ns.length
  · simp only [rdF, if_pos h]; rw [if_neg (by simp)]
  · exact rdF_wrong h
theorem rdF_nodg {f : Nat} {b d : UInt8} {r : List UInt8} {ns : List Int} (h : b = markC ns.length) (h1 : ¬ (ns.length = 3 ∧ d :: r = [45])) (hd : ¬ isDg d = true) : rdF (f + 1) (b :: d :: r) ns = none := by
  simp only [rdF, if_pos h]; rw [if_neg h1, if_neg hd]
theorem rdF_dig {f : Nat} {b d : UInt8} {r : List UInt8} {ns : List Int} (h : b = markC ns.length) (h1 : ¬ (ns.length = 3 ∧ d :: r = [45])) (hd : isDg d = true) : rdF (f + 1) (b :: d :: r) ns = rdD f (d :: r) 0 ns := by
  simp only [rdF, if_pos h]; rw [if_neg h1, if_pos hd]; rfl
theorem rdD_step {f : Nat} {d : UInt8} {r : List UInt8} {v : Nat} {ns : List Int} (hd : isDg d = true) : rdD f (d :: r) v ns = rdD f r (addD v d) ns := by
  unfold rdD
  rw [List.takeWhile_cons_of_pos hd, List.dropWhile_cons_of_pos hd]
  rfl
theorem rdD_big {f : Nat} {r : List UInt8} {v : Nat} {ns : List Int} (h : 999 < v) : rdD f r v ns = none := by
  unfold rdD
  rw [if_pos (lim_yes (Nat.lt_of_lt_of_le h (valA_le _ v)))]
theorem rdD_stop {f : Nat} {b : UInt8} {r : List UInt8} {v : Nat} {ns : List Int} (h : ¬ 999 < v) (hb : ¬ isDg b = true) : rdD f (b :: r) v ns = rdF f (b :: r) (ns ++ [(v : Int)]) := by
  unfold rdD
  rw [List.takeWhile_cons_of_neg hb, List.dropWhile_cons_of_neg hb]
  show (if lim v = true then none else rdF f (b :: r) (ns ++ [(v : Int)])) = _
  rw [lim_no h]; rfl
theorem rdD_last {f : Nat} {v : Nat} {ns : List Int} (h : ¬ 999 < v) : rdD f [] v ns = rdF f [] (ns ++ [(v : Int)]) := by
  unfold rdD
  show (if lim v = true then none else rdF f [] (ns ++ [(v : Int)])) = _
  rw [lim_no h]; rfl
theorem drop_get {t : List UInt8} {k : Nat} {x : UInt8} (hk : k < t.length) (hx : x = t.getD k 0) : t.drop k = x :: t.drop (k + 1) := by
  rw [List.drop_eq_getElem_cons hk, hx]
  simp [List.getD, hk]

theorem markAhead_any (n : Nat) (w : World) (hn : n ≤ 4000000) : Calls Tryd.prog 51 #[.int .i64 n] w fun e w' => e = .returned (.int .u8 ((markC n).toNat : Int)) ∧ w' = w := by
  by_cases h : n ≤ 3
  · have e : markC n = 32 := by unfold markC; rw [if_pos h]
    have hd : decide ((n : Int) ≤ 3) = true := by simp; omega
    rw [e]
    go_enter Tryd.func51, Tryd.ntmps51
    go_wp2
    go_ret
    exact ⟨rfl, rfl⟩
  · have e : markC n = 43 := by unfold markC; rw [if_neg h]
    have hd : decide ((n : Int) ≤ 3) = false := by simp; omega
    rw [e]
    go_enter Tryd.func51, Tryd.ntmps51
    go_wp2
    go_ret
    exact ⟨rfl, rfl⟩
theorem isDigit_any (b : UInt8) (w : World) : Calls Tryd.prog 52 #[.int .u8 (b.toNat : Int)] w fun e w' => e = .returned (.bool (isDg b)) ∧ w' = w := by
  by_cases h1 : 48 ≤ b.toNat
  · have e1 : decide ((48 : Int) ≤ (b.toNat : Int)) = true := by simp; omega
    have e : isDg b = decide ((b.toNat : Int) ≤ 57) := by unfold isDg; simp [h1]; omega
    rw [e]
    go_enter Tryd.func52, Tryd.ntmps52
    go_wp2
    go_ret
    exact ⟨rfl, rfl⟩
  · have e1 : decide ((48 : Int) ≤ (b.toNat : Int)) = false := by simp; omega
    have e : isDg b = false := by unfold isDg; simp; omega
    rw [e]
    go_enter Tryd.func52, Tryd.ntmps52
    go_wp2
    go_ret
    exact ⟨rfl, rfl⟩

end Go.Proofs.YtlacmcedpphphaaDoor
