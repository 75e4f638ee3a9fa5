/- Who is chosen, as data: those with fewer than so many ahead of them by rank, each put in its place; and that these are the first so many by rank, sorted. -/
import Derived.Test.YtolpbichkmeaaaaXk
namespace Go.Proofs.Ytolpbichkmeaaaa
open Go.RowKit Go.Maps Go.WideMaps Go.Shelf

/-- Is x ahead of y by rank? -/
def ahB (s x y : Int) : Bool := decide (rankR x s < rankR y s ∨ (rankR x s = rankR y s ∧ x < y))
/-- How many of a list are ahead of y. -/
def cntA (s : Int) (l : List Int) (y : Int) : Nat := (l.filter fun x => ahB s x y).length
/-- How many stand at the front that are below x. -/
def putN (out : List Int) (x : Int) : Nat := (out.takeWhile fun y => decide (y < x)).length
def insX (out : List Int) (x : Int) : List Int := out.take (putN out x) ++ x :: out.drop (putN out x)
def chG (s : Int) (l : List Int) (m : Int) : Nat → List Int
  | 0 => []
  | k + 1 => if m ≤ (cntA s l (l.getD k 0) : Int) then chG s l m k else insX (chG s l m k) (l.getD k 0)

theorem putN_le (out : List Int) (x : Int) : putN out x ≤ out.length := (List.takeWhile_prefix _).length_le
theorem insX_length (out : List Int) (x : Int) : (insX out x).length = out.length + 1 := by
  have := putN_le out x
  unfold insX
  simp
  omega
theorem chG_length (s : Int) (l : List Int) (m : Int) (k : Nat) : (chG s l m k).length ≤ k := by
  induction k with
  | zero => simp [chG]
  | succ k ih =>
    unfold chG
    split
    · omega
    · rw [insX_length]; omega
theorem putN_lt {out : List Int} {x : Int} {j : Nat} (h : j < putN out x) : out.getD j 0 < x := by
  unfold putN at h
  have e : (out.takeWhile fun y => decide (y < x))[j]? = out[j]? := by
    have hp : (out.takeWhile fun y => decide (y < x)) <+: out := List.takeWhile_prefix _
    obtain ⟨t, ht⟩ := hp
    rw [← ht, List.getElem?_append_left h]
    rw [ht]
  have hm := List.getElem_mem h
  have := List.all_takeWhile (p := fun y => decide (y < x)) (l := out)
  have h3 := List.all_eq_true.1 this _ hm
  have e2 : out.getD j 0 = (out.takeWhile fun y => decide (y < x))[j] := by
    unfold List.getD
    rw [← e, List.getElem?_eq_getElem h]
    rfl
  rw [e2]
  simpa using h3
theorem putN_at {out : List Int} {x : Int} {k : Nat} (hk : k ≤ out.length) (h1 : ∀ j, j < k → out.getD j 0 < x) (h2 : k < out.length → ¬ out.getD k 0 < x) : putN out x = k := by
  unfold putN
  induction out generalizing k with
  | nil => simp at hk; subst hk; rfl
  | cons a t ih =>
    cases k with
    | zero =>
      have := h2 (by simp)
      simp at this
      rw [List.takeWhile_cons]
      simp [this]
    | succ k =>
      have h0 : a < x := h1 0 (by omega)
      rw [List.takeWhile_cons, if_pos (by simpa using h0), List.length_cons, ih (by simpa using hk) (fun j hj => by simpa using h1 (j + 1) (by omega)) (fun h => by simpa using h2 (by simpa using h))]

theorem putN_stop : ∀ {out : List Int} {x : Int}, putN out x < out.length → ¬ out.getD (putN out x) 0 < x
  | [], x, h => by simp [putN] at h
  | a :: t, x, h => by
    by_cases ha : a < x
    · have e : putN (a :: t) x = putN t x + 1 := by unfold putN; rw [List.takeWhile_cons, if_pos (by simpa using ha), List.length_cons]
      rw [e] at h ⊢
      have := putN_stop (out := t) (x := x) (by simpa using h)
      simpa [List.getD] using this
    · have e : putN (a :: t) x = 0 := by unfold putN; rw [List.takeWhile_cons, if_neg (by simpa using ha)]; rfl
      rw [e]
      simpa using ha

/-- Strictly rising lists with the same members are one. -/
theorem rise_unique : ∀ {a b : List Int}, a.Pairwise (· < ·) → b.Pairwise (· < ·) → (∀ x, x ∈ a ↔ x ∈ b) → a = b
  | [], [], _, _, _ => rfl
  | [], y :: t, _, _, h => absurd ((h y).2 (List.mem_cons_self ..)) (by simp)
  | x :: t, [], _, _, h => absurd ((h x).1 (List.mem_cons_self ..)) (by simp)
  | x :: t, y :: u, ha, hb, h => by
    obtain ⟨ha1, ha2⟩ := List.pairwise_cons.1 ha
    obtain ⟨hb1, hb2⟩ := List.pairwise_cons.1 hb
    have hxy : x = y := by
      rcases List.mem_cons.1 ((h x).1 (List.mem_cons_self ..)) with e | e
      · exact e
      · rcases List.mem_cons.1 ((h y).2 (List.mem_cons_self ..)) with e2 | e2
        · exact e2.symm
        · have := ha1 y e2
          have := hb1 x e
          omega
    subst hxy
    rw [rise_unique ha2 hb2 (fun z => ?_)]
    constructor
    · intro hz
      rcases List.mem_cons.1 ((h z).1 (List.mem_cons_of_mem _ hz)) with e | e
      · subst e; have := ha1 z hz; omega
      · exact e
    · intro hz
      rcases List.mem_cons.1 ((h z).2 (List.mem_cons_of_mem _ hz)) with e | e
      · subst e; have := hb1 z hz; omega
      · exact e

theorem insX_mem {out : List Int} {x y : Int} : y ∈ insX out x ↔ y = x ∨ y ∈ out := by
  unfold insX
  rw [List.mem_append, List.mem_cons]
  have e : y ∈ out ↔ y ∈ out.take (putN out x) ∨ y ∈ out.drop (putN out x) := by rw [← List.mem_append, List.take_append_drop]
  rw [e]
  constructor
  · rintro (h | h | h)
    · exact .inr (.inl h)
    · exact .inl h
    · exact .inr (.inr h)
  · rintro (h | h | h)
    · exact .inr (.inl h)
    · exact .inl h
    · exact .inr (.inr h)
theorem insX_rise {out : List Int} {x : Int} (h : out.Pairwise (· < ·)) (hx : x ∉ out) : (insX out x).Pairwise (· < ·) := by
  have hsplit : out.take (putN out x) ++ out.drop (putN out x) = out := List.take_append_drop _ _
  have h2 := h
  rw [← hsplit, List.pairwise_append] at h2
  obtain ⟨p1, p2, p3⟩ := h2
  have lo : ∀ y ∈ out.take (putN out x), y < x := fun y hy => by
    obtain ⟨j, hj, rfl⟩ := List.getElem_of_mem hy
    rw [List.length_take] at hj
    have := putN_lt (out := out) (x := x) (j := j) (by omega)
    rw [List.getElem_take]
    have e : out.getD j 0 = out[j]'(by omega) := by simp [List.getD, List.getElem?_eq_getElem (show j < out.length by omega)]
    rwa [e] at this
  have hi : ∀ y ∈ out.drop (putN out x), x < y := by
    by_cases hlt : putN out x < out.length
    · have e0 : out.drop (putN out x) = out[putN out x] :: out.drop (putN out x + 1) := (List.drop_eq_getElem_cons hlt)
      have hge : ¬ out[putN out x] < x := by
        have := putN_stop hlt
        have e : out.getD (putN out x) 0 = out[putN out x] := by simp [List.getD, List.getElem?_eq_getElem hlt]
        rwa [e] at this
      intro y hy
      rw [e0] at hy p2
      obtain ⟨q1, _⟩ := List.pairwise_cons.1 p2
      have hne : out[putN out x] ≠ x := fun e => hx (e ▸ List.getElem_mem hlt)
      rcases List.mem_cons.1 hy with e | e
      · subst e; omega
      · have := q1 y e; omega
    · rw [List.drop_of_length_le (by omega)]
      intro y hy
      cases hy
  unfold insX
  rw [List.pairwise_append]
  refine ⟨p1, List.pairwise_cons.2 ⟨hi, p2⟩, fun y hy z hz => ?_⟩
  rcases List.mem_cons.1 hz with e | e
  · subst e; exact lo y hy
  · exact p3 y hy z e

theorem take_succ_getD {l : List Int} {k : Nat} (hk : k < l.length) : l.take (k + 1) = l.take k ++ [l.getD k 0] := by
  rw [List.take_add_one, List.getElem?_eq_getElem hk]
  simp [List.getD, List.getElem?_eq_getElem hk]
theorem chG_sound {s : Int} {l : List Int} {m : Int} (hnd : l.Nodup) : ∀ k, k ≤ l.length → (chG s l m k).Pairwise (· < ·) ∧ ∀ x, x ∈ chG s l m k ↔ x ∈ l.take k ∧ (cntA s l x : Int) < m
  | 0, _ => ⟨List.Pairwise.nil, fun x => by simp [chG]⟩
  | k + 1, hk => by
    obtain ⟨h1, h2⟩ := chG_sound (s := s) (m := m) hnd k (by omega)
    have hlk := take_succ_getD (l := l) (k := k) (by omega)
    obtain ⟨y, hy⟩ : ∃ y, y = l.getD k 0 := ⟨_, rfl⟩
    have hny : y ∉ l.take k := by
      have h3 : (l.take (k + 1)).Nodup := hnd.sublist (List.take_sublist _ _)
      rw [hlk, ← hy, List.nodup_append] at h3
      intro hc
      exact h3.2.2 y hc y (List.mem_singleton.2 rfl) rfl
    unfold chG
    rw [← hy] at hlk ⊢
    by_cases hc : m ≤ (cntA s l y : Int)
    · rw [if_pos hc]
      refine ⟨h1, fun x => ?_⟩
      rw [h2 x, hlk, List.mem_append, List.mem_singleton]
      constructor
      · rintro ⟨a, b⟩; exact ⟨.inl a, b⟩
      · rintro ⟨a | a, b⟩
        · exact ⟨a, b⟩
        · subst a; omega
    · rw [if_neg hc]
      refine ⟨insX_rise h1 (fun hm => hny ((h2 y).1 hm).1), fun x => ?_⟩
      rw [insX_mem, h2 x, hlk, List.mem_append, List.mem_singleton]
      constructor
      · rintro (a | ⟨a, b⟩)
        · subst a; exact ⟨.inr rfl, by omega⟩
        · exact ⟨.inl a, b⟩
      · rintro ⟨a | a, b⟩
        · exact .inr ⟨a, b⟩
        · exact .inl a

theorem sort_parts (cf : Int → Int → Int) (hO : Sort.SWO (ltOf cf)) (l : List Int) : (l.mergeSort fun x y => !(ltOf cf) y x).Perm l ∧ (l.mergeSort fun x y => !(ltOf cf) y x).Pairwise fun x y => ltOf cf y x = false := by
  refine ⟨List.mergeSort_perm _ _, ?_⟩
  have := List.pairwise_mergeSort (le := fun x y => !(ltOf cf) y x) (fun a b c h1 h2 => by
    simp only [Bool.not_eq_true'] at *
    exact hO.ntrans c b a h2 h1) (fun a b => by
    cases h : ltOf cf b a
    · rfl
    · have : ltOf cf a b = false := by
        cases h2 : ltOf cf a b
        · rfl
        · have := hO.trans a b a h2 h
          rw [hO.irrefl a] at this
          cases this
      simp [this]) l
  exact this.imp fun h => by simpa using h
theorem strict_of {cf : Int → Int → Int} (hT : ∀ x y, (ltOf cf) x y = false → (ltOf cf) y x = false → x = y) {l : List Int} (hnd : l.Nodup) (h : l.Pairwise fun x y => ltOf cf y x = false) : l.Pairwise fun x y => ltOf cf x y = true := by
  have h2 := List.nodup_iff_pairwise_ne.1 hnd
  have h3 := h.and h2
  refine h3.imp ?_
  rintro a b ⟨h4, h5⟩
  cases e : ltOf cf a b
  · exact absurd (hT a b e h4) h5
  · rfl
theorem count_at {R : Int → Int → Bool} (hir : ∀ x, R x x = false) (hasy : ∀ x y, R x y = true → R y x = false) {l : List Int} (h : l.Pairwise fun x y => R x y = true) {i : Nat} (hi : i < l.length) : (l.filter fun x => R x l[i]).length = i := by
  have e : l = l.take i ++ l[i] :: l.drop (i + 1) := by rw [← List.drop_eq_getElem_cons hi, List.take_append_drop]
  have h2 := h
  rw [e, List.pairwise_append] at h2
  obtain ⟨_, p2, p3⟩ := h2
  obtain ⟨q1, _⟩ := List.pairwise_cons.1 p2
  obtain ⟨y, hy⟩ : ∃ y, y = l[i] := ⟨_, rfl⟩
  rw [← hy] at e q1 p3 ⊢
  rw [e, List.filter_append, List.filter_cons, hir y]
  have f1 : (l.take i).filter (fun x => R x y) = l.take i := List.filter_eq_self.2 fun a ha => p3 a ha y (List.mem_cons_self ..)
  have f2 : (l.drop (i + 1)).filter (fun x => R x y) = [] := List.filter_eq_nil_iff.2 fun a ha => by rw [hasy y a (q1 a ha)]; simp
  rw [f1, f2]
  simp
  omega

theorem ahB_lt (s x y : Int) : ahB s x y = ltOf (rcmp s) x y := (ltRc s x y).symm
theorem choL_sound {l : List Int} {s : Int} {m : Nat} (hnd : l.Nodup) (hm : m ≤ l.length) : (choL l s m).Pairwise (· < ·) ∧ ∀ x, x ∈ choL l s m ↔ x ∈ l ∧ cntA s l x < m := by
  have hO : Sort.SWO (ltOf (rcmp s)) := ⟨fun x => by rw [ltRc]; simp, fun x y z h1 h2 => by rw [ltRc] at *; simp at *; omega, fun x y z h1 h2 => by rw [ltRc] at *; simp at *; omega⟩
  have hT : ∀ x y, (ltOf (rcmp s)) x y = false → (ltOf (rcmp s)) y x = false → x = y := fun x y h1 h2 => by rw [ltRc] at *; simp at *; omega
  have hO2 : Sort.SWO (ltOf cmpI) := ⟨fun x => by rw [ltCi]; simp, fun x y z h1 h2 => by rw [ltCi] at *; simp at *; omega, fun x y z h1 h2 => by rw [ltCi] at *; simp at *; omega⟩
  have hT2 : ∀ x y, (ltOf cmpI) x y = false → (ltOf cmpI) y x = false → x = y := fun x y h1 h2 => by rw [ltCi] at *; simp at *; omega
  have hasy : ∀ x y, ltOf (rcmp s) x y = true → ltOf (rcmp s) y x = false := fun a b h => by
    cases e : ltOf (rcmp s) b a
    · rfl
    · have := hO.trans a b a h e
      rw [hO.irrefl] at this
      cases this
  obtain ⟨p1, q1⟩ := sort_parts (rcmp s) hO l
  have eL1 : srt (rcmp s) l l.length = l.mergeSort fun x y => !(ltOf (rcmp s)) y x := by unfold srt; rw [List.take_length, List.drop_length, List.append_nil]
  obtain ⟨L1, hL1⟩ : ∃ L, L = l.mergeSort fun x y => !(ltOf (rcmp s)) y x := ⟨_, rfl⟩
  rw [← hL1] at p1 q1 eL1
  have hlen : L1.length = l.length := p1.length_eq
  have hnd1 : L1.Nodup := p1.nodup_iff.2 hnd
  have st := strict_of hT hnd1 q1
  obtain ⟨p2, q2⟩ := sort_parts cmpI hO2 (L1.take m)
  have hnd2 : (L1.take m).Nodup := hnd1.sublist (List.take_sublist _ _)
  have eC : choL l s m = (L1.take m).mergeSort fun x y => !(ltOf cmpI) y x := by
    unfold choL
    rw [eL1]
    unfold srt
    rw [List.take_append_of_le_length (by rw [List.length_mergeSort, List.length_take]; omega), List.take_of_length_le (by rw [List.length_mergeSort, List.length_take]; omega)]
  rw [eC]
  refine ⟨?_, fun x => ?_⟩
  · refine (strict_of hT2 (p2.nodup_iff.2 hnd2) q2).imp ?_
    intro a b h
    rw [ltCi] at h
    simpa using h
  · rw [p2.mem_iff]
    have hcnt : ∀ y, cntA s l y = (L1.filter fun x => ltOf (rcmp s) x y).length := fun y => by
      unfold cntA
      rw [(p1.filter (fun x => ltOf (rcmp s) x y)).length_eq]
      simp only [ahB_lt]
    constructor
    · intro hx
      obtain ⟨i, hi, rfl⟩ := List.getElem_of_mem hx
      rw [List.length_take] at hi
      rw [List.getElem_take]
      refine ⟨p1.mem_iff.1 (List.getElem_mem _), ?_⟩
      rw [hcnt, count_at (R := fun x y => ltOf (rcmp s) x y) hO.irrefl hasy st (by omega)]
      omega
    · rintro ⟨hx, hc⟩
      obtain ⟨i, hi, rfl⟩ := List.getElem_of_mem (p1.mem_iff.2 hx)
      rw [hcnt, count_at (R := fun x y => ltOf (rcmp s) x y) hO.irrefl hasy st hi] at hc
      rw [show L1[i] = (L1.take m)[i]'(by rw [List.length_take]; omega) by rw [List.getElem_take]]
      exact List.getElem_mem _
/-- The specification's list and the program's are one. -/
theorem choose_same {l : List Int} {s : Int} {m : Nat} (hnd : l.Nodup) (hm : m ≤ l.length) : chG s l (m : Int) l.length = choL l s m := by
  obtain ⟨a1, a2⟩ := chG_sound (s := s) (m := (m : Int)) hnd l.length (Nat.le_refl _)
  obtain ⟨b1, b2⟩ := choL_sound (s := s) hnd hm
  refine rise_unique a1 b1 fun x => ?_
  rw [a2, b2, List.take_length, Int.ofNat_lt]

theorem rise_lt : ∀ {p : Int} {l : List Int}, riseB p l = true ↔ (∀ x ∈ l, p < x) ∧ l.Pairwise (· < ·)
  | p, [] => by simp [riseB]
  | p, x :: t => by
    simp only [riseB, Bool.and_eq_true, decide_eq_true_eq, rise_lt (p := x) (l := t), List.pairwise_cons, List.mem_cons]
    constructor
    · rintro ⟨h1, h2, h3⟩
      refine ⟨?_, h2, h3⟩
      rintro y (e | e)
      · subst e; exact h1
      · have := h2 y e; omega
    · rintro ⟨h1, h2, h3⟩
      exact ⟨h1 x (.inl rfl), h2, h3⟩
/-- Keys that are sorted rise just where none stands twice. -/
theorem twins_iff {l : List Int} (hk : allK l = true) : riseB 0 ((srt cmpI l l.length).take l.length) = true ↔ l.Nodup := by
  have hO2 : Sort.SWO (ltOf cmpI) := ⟨fun x => by rw [ltCi]; simp, fun x y z h1 h2 => by rw [ltCi] at *; simp at *; omega, fun x y z h1 h2 => by rw [ltCi] at *; simp at *; omega⟩
  have hT2 : ∀ x y, (ltOf cmpI) x y = false → (ltOf cmpI) y x = false → x = y := fun x y h1 h2 => by rw [ltCi] at *; simp at *; omega
  obtain ⟨p1, q1⟩ := sort_parts cmpI hO2 l
  have e : (srt cmpI l l.length).take l.length = l.mergeSort fun x y => !(ltOf cmpI) y x := by
    unfold srt
    rw [List.take_length, List.drop_length, List.append_nil, List.take_of_length_le (by rw [List.length_mergeSort]; exact Nat.le_refl _)]
  rw [e, rise_lt]
  constructor
  · rintro ⟨_, h⟩
    refine p1.nodup_iff.1 (List.nodup_iff_pairwise_ne.2 (h.imp fun h2 => by omega))
  · intro hnd
    refine ⟨fun x hx => ?_, (strict_of hT2 (p1.nodup_iff.2 hnd) q1).imp fun h => by rw [ltCi] at h; simpa using h⟩
    have := List.all_eq_true.1 hk x (p1.mem_iff.1 hx)
    have := inB_true.1 this
    omega

end Go.Proofs.Ytolpbichkmeaaaa
