/- What is put is there, what is taken is gone, and no value is lost: the plain mathematics. -/
import Derived.Test.YtagokfoimokniaaGreatDoorQr
import Derived.Test.YtagokfoimokniaaGreatDoorJn9
import Derived.Test.YtagokfoimokniaaGreatDoorJn5
import Derived.Test.YtagokfoimokniaaGreatDoorJn2
import Derived.Test.YtagokfoimokniaaGreatDoorTxX
import Derived.Test.YtagokfoimokniaaGreatDoorSr
namespace Go.Proofs.YtagokfoimokniaaGreatDoor
open Go.RowKit Go.Maps Go.WideMaps

/-- What is known where coins are put without a code. -/
structure PutOk (cs : List Co) (t h : Int) (m : Bool) (os : List Ou) (rs : List Co) : Prop where
  c : coinsR cs = 0
  r : rs = addCs cs (newCs t h m os os.length)
  no : hasT cs t = false
  t : 1 ≤ t ∧ t ≤ 60
  h : 0 ≤ h ∧ h ≤ 999
  n : os.length ≤ 4
  o : outsR os = 0
  l : cs.length + os.length ≤ 40
theorem putOk {cs : List Co} {t h : Int} {m : Bool} {os : List Ou} (h0 : (putR cs t os h m).1 = 0) : PutOk cs t h m os (putR cs t os h m).2 := by
  unfold putR at h0 ⊢
  by_cases h1 : coinsR cs ≠ 0
  · rw [if_pos h1] at h0; exact absurd h0 h1
  rw [if_neg h1] at h0 ⊢
  have h2 : coinsR cs = 0 := by simpa using h1
  by_cases h3 : putsR cs.length (hasT cs t) t os h ≠ 0
  · rw [if_pos h3] at h0; exact absurd h0 h3
  rw [if_neg h3]
  have h4 : putsR cs.length (hasT cs t) t os h = 0 := by simpa using h3
  have hp : putFR t os h = 0 ∧ hasT cs t = false ∧ cs.length + os.length ≤ 40 := by
    unfold putsR at h4
    by_cases a : putFR t os h ≠ 0
    · rw [if_pos a] at h4; exact absurd h4 a
    rw [if_neg a] at h4
    split at h4
    · cases h4
    · rename_i hb
      split at h4
      · cases h4
      · exact ⟨by simpa using a, by simpa using hb, by omega⟩
  have hq : (inB t 1 60 = true ∧ inB h 0 999 = true) ∧ os.length ≤ 4 ∧ outsR os = 0 := by
    have := hp.1
    unfold putFR at this
    split at this
    · cases this
    · rename_i ha
      split at this
      · cases this
      · refine ⟨⟨?_, ?_⟩, by omega, this⟩
        · cases e : inB t 1 60
          · exact absurd (.inl e) ha
          · rfl
        · cases e : inB h 0 999
          · exact absurd (.inr e) ha
          · rfl
  exact ⟨h2, rfl, hp.2.1, inB_true.1 hq.1.1, inB_true.1 hq.1.2, hq.2.1, hq.2.2, hp.2.2⟩
theorem outs_each : ∀ {os : List Ou}, outsR os = 0 → ∀ o ∈ os, (1 ≤ o.v ∧ o.v ≤ 1000000) ∧ ruleR o.l o.x o.y = 0
  | [], _, o, ho => by cases ho
  | x :: t, h, o, ho => by
    unfold outsR at h
    split at h
    · cases h
    rename_i h1
    split at h
    · rename_i h2; exact absurd h h2
    rename_i h2
    rcases List.mem_cons.1 ho with rfl | ho
    · exact ⟨inB_true.1 (by simpa using h1), by simpa using h2⟩
    · exact outs_each h o ho
theorem newCs_mem {t h : Int} {m : Bool} {os : List Ou} {k : Nat} {c : Co} (hc : c ∈ newCs t h m os k) : ∃ j, j < k ∧ c = newC t h m (os.getD j O0) j := by
  unfold newCs at hc
  obtain ⟨j, hj, e⟩ := List.mem_map.1 hc
  exact ⟨j, by simpa using hj, e.symm⟩
theorem newC_ok {cs rs : List Co} {t h : Int} {m : Bool} {os : List Ou} (H : PutOk cs t h m os rs) {j : Nat} (hj : j < os.length) : coinR (newC t h m (os.getD j O0) j) = 0 := by
  have hm : os.getD j O0 ∈ os := by
    rw [List.getD_eq_getElem?_getD, List.getElem?_eq_getElem hj]; exact List.getElem_mem hj
  obtain ⟨a, b⟩ := outs_each H.o _ hm
  have h1 : refB (t, (j : Int)) = true := by
    unfold refB
    rw [Bool.and_eq_true, inB_true, inB_true]
    have := H.n
    have := H.t
    exact ⟨this, by show (0 : Int) ≤ j; omega, by show (j : Int) ≤ 3; omega⟩
  have h2 : inB h 0 999 = true := inB_true.2 H.h
  show (if refB (t, (j : Int)) = false ∨ inB h 0 999 = false then 3 else outR (os.getD j O0).v (os.getD j O0).l (os.getD j O0).x (os.getD j O0).y) = 0
  have h3 : ¬ (refB (t, (j : Int)) = false ∨ inB h 0 999 = false) := fun q => q.elim (fun e => by rw [h1] at e; cases e) (fun e => by rw [h2] at e; cases e)
  rw [if_neg h3]
  unfold outR
  rw [if_neg (by rw [inB_true.2 a]; simp)]
  exact b
theorem putOk_rise {cs rs : List Co} {t h : Int} {m : Bool} {os : List Ou} (H : PutOk cs t h m os rs) : rs.Pairwise (fun x y => 0 < cmpR (y.p, y.q) (x.p, x.q)) := by
  have := coins_rise H.c
  rw [H.r]
  exact addCs_rise this.2.2 (new_apart this.2.2 H.no)
theorem putOk_right {cs rs : List Co} {t h : Int} {m : Bool} {os : List Ou} (H : PutOk cs t h m os rs) : coinsR rs = 0 := by
  have h1 := coins_rise H.c
  refine coinsR_back ?_ (fun c hc => ?_) (putOk_rise H)
  · rw [H.r, addCs_len]; exact H.l
  · rw [H.r, addCs_mem] at hc
    rcases List.mem_append.1 hc with q | q
    · exact h1.2.1 c q
    · obtain ⟨j, hj, e⟩ := newCs_mem q
      rw [e]; exact newC_ok H hj
theorem filter_addC {p : Co → Bool} {x : Co} (hx : p x = false) : ∀ cs : List Co, (addC cs x).filter p = cs.filter p
  | [] => by simp [addC, hx]
  | a :: l => by
    unfold addC
    split
    · rw [List.filter_cons, List.filter_cons, filter_addC hx l]
    · rw [List.filter_cons, hx]; rfl
theorem filter_addCs {p : Co → Bool} : ∀ (xs cs : List Co), (∀ x ∈ xs, p x = false) → (addCs cs xs).filter p = cs.filter p
  | [], cs, _ => rfl
  | x :: t, cs, h => by
    show (addCs (addC cs x) t).filter p = _
    rw [filter_addCs t (addC cs x) (fun y hy => h y (List.mem_cons_of_mem _ hy)), filter_addC (h x (List.mem_cons_self ..))]
theorem valsR_addC (x : Co) : ∀ cs : List Co, valsR (addC cs x) = valsR cs + x.v
  | [] => by simp [addC, valsR]
  | a :: l => by
    unfold addC
    split
    · simp only [valsR, valsR_addC x l]; omega
    · simp only [valsR]; omega
theorem valsR_addCs : ∀ xs cs : List Co, valsR (addCs cs xs) = valsR cs + valsR xs
  | [], cs => by simp [addCs, valsR]
  | x :: t, cs => by
    show valsR (addCs (addC cs x) t) = _
    rw [valsR_addCs t (addC cs x), valsR_addC]
    simp only [valsR]; omega
/-- The first outs' values. -/
def outV (os : List Ou) (k : Nat) : Int := valsR (newCs 0 0 false os k)
theorem outV_succ (os : List Ou) (k : Nat) : outV os (k + 1) = outV os k + (os.getD k O0).v := by
  unfold outV
  rw [newCs_succ, valsR_append]
  simp [valsR, newC]
theorem newV (t h : Int) (m : Bool) (os : List Ou) : ∀ k, valsR (newCs t h m os k) = outV os k
  | 0 => rfl
  | k + 1 => by rw [newCs_succ, valsR_append, newV t h m os k, outV_succ]; simp [valsR, newC]
theorem putOk_vals {cs rs : List Co} {t h : Int} {m : Bool} {os : List Ou} (H : PutOk cs t h m os rs) : valsR rs = valsR cs + outV os os.length := by
  rw [H.r, valsR_addCs, newV]
theorem vals_part : ∀ {cs : List Co} (p : Co → Bool), (∀ c ∈ cs, 0 ≤ c.v) → 0 ≤ valsR (cs.filter p) ∧ valsR (cs.filter p) ≤ valsR cs
  | [], p, _ => by simp [valsR]
  | c :: t, p, h => by
    have h1 := vals_part (cs := t) p fun d hd => h d (List.mem_cons_of_mem _ hd)
    have h2 := h c (List.mem_cons_self ..)
    rw [List.filter_cons]
    split
    · simp only [valsR]; omega
    · simp only [valsR]; omega
theorem vals_top : ∀ {cs : List Co}, (∀ c ∈ cs, c.v ≤ 1000000) → valsR cs ≤ 1000000 * cs.length
  | [], _ => by simp [valsR]
  | c :: t, h => by
    have h1 := vals_top (cs := t) fun d hd => h d (List.mem_cons_of_mem _ hd)
    have h2 := h c (List.mem_cons_self ..)
    simp only [valsR, List.length_cons]
    omega
theorem vals_right {cs : List Co} (h : coinsR cs = 0) : ∀ c ∈ cs, 1 ≤ c.v ∧ c.v ≤ 1000000 := fun c hc => by
  have := (coins_rise h).2.1 c hc
  unfold coinR at this
  split at this
  · cases this
  unfold outR at this
  split at this
  · cases this
  · rename_i a
    exact inB_true.1 (by simpa using a)
end Go.Proofs.YtagokfoimokniaaGreatDoor
