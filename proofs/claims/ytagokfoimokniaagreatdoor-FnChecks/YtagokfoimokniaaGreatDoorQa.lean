/- A transaction is taken back: what it comes to, without a world. -/
import Derived.Test.YtagokfoimokniaaGreatDoorJn8
import Derived.Test.YtagokfoimokniaaGreatDoorTxX
namespace Go.Proofs.YtagokfoimokniaaGreatDoor
open Go.RowKit Go.Maps Go.WideMaps

abbrev RiseC (cs : List Co) : Prop := cs.Pairwise (fun x y => 0 < cmpR (y.p, y.q) (x.p, x.q))
/-- The coins of a number, the others, those of some refs. -/
def ofC (cs : List Co) (id : Int) : List Co := cs.filter fun c => decide (c.p = id)
def offC (cs : List Co) (id : Int) : List Co := cs.filter fun c => decide (c.p ≠ id)
def inC (cs : List Co) (rs : List (Int × Int)) : List Co := cs.filter fun c => memB rs (c.p, c.q)
def outC (c : Co) : Ou := ⟨c.v, c.l, c.x, c.y⟩
def placeB (c : Co) (o : Ou) (j : Nat) : Bool := decide (c.q = (j : Int)) && sameO (outC c) o
def madeB (ms : List Co) (os : List Ou) : Bool := decide (ms.length = os.length) && (List.range ms.length).all fun j => placeB (ms.getD j C0) (os.getD j O0) j
def fitO (os : List Ou) (c : Co) : Bool := decide (c.q < (os.length : Int)) && sameO (outC c) (os.getD c.q.toNat O0)
def madeS (ms : List Co) (os : List Ou) : Bool := ms.all (fitO os) && decide (ms.length = os.length)
theorem memB_here {gs : List (Int × Int)} {x : Int × Int} : memB gs x = true ↔ x ∈ gs := by
  have := num_zero gs x
  unfold memB
  by_cases h : x ∈ gs
  · simp [h] at this; simp [h, this]
  · simp [h] at this; simp [h, this]
theorem sub_back {α : Type} [DecidableEq α] : ∀ (a b : List α), a.Nodup → (∀ x ∈ a, x ∈ b) → b.length ≤ a.length → ∀ x ∈ b, x ∈ a
  | [], b, _, _, hl, x, hx => by have : b = [] := List.eq_nil_of_length_eq_zero (by simpa using hl); rw [this] at hx; exact hx
  | y :: a, b, hn, hs, hl, x, hx => by
    rw [List.nodup_cons] at hn
    obtain ⟨s1, s2, rfl⟩ := List.append_of_mem (hs y (by simp))
    have h1 : ∀ z ∈ a, z ∈ s1 ++ s2 := fun z hz => by
      have h2 := hs z (by simp [hz])
      have h3 : z ≠ y := fun e => hn.1 (e ▸ hz)
      simp at h2 ⊢
      rcases h2 with h2 | h2 | h2
      · exact .inl h2
      · exact absurd h2 h3
      · exact .inr h2
    have h4 := sub_back a (s1 ++ s2) hn.2 h1 (by simp at hl ⊢; omega)
    simp at hx
    rcases hx with h | h | h
    · exact List.mem_cons_of_mem _ (h4 x (by simp [h]))
    · simp [h]
    · exact List.mem_cons_of_mem _ (h4 x (by simp [h]))
theorem sub_length {α : Type} [DecidableEq α] : ∀ (a b : List α), a.Nodup → (∀ x ∈ a, x ∈ b) → a.length ≤ b.length
  | [], b, _, _ => by simp
  | y :: a, b, hn, hs => by
    rw [List.nodup_cons] at hn
    obtain ⟨s1, s2, rfl⟩ := List.append_of_mem (hs y (by simp))
    have h1 : ∀ z ∈ a, z ∈ s1 ++ s2 := fun z hz => by
      have h2 := hs z (by simp [hz])
      have h3 : z ≠ y := fun e => hn.1 (e ▸ hz)
      simp at h2 ⊢
      rcases h2 with h2 | h2 | h2
      · exact .inl h2
      · exact absurd h2 h3
      · exact .inr h2
    have h4 := sub_length a (s1 ++ s2) hn.2 h1
    simp at h4 ⊢
    omega
def refsC (cs : List Co) : List (Int × Int) := cs.map fun c => (c.p, c.q)
theorem refs_nodup {cs : List Co} (h : RiseC cs) : (refsC cs).Nodup := by
  unfold refsC List.Nodup
  rw [List.pairwise_map]
  exact h.imp fun {a b} k e => by
    have := cmpR_pos.1 k
    simp at e
    omega
theorem hasC_iff {cs : List Co} {r : Int × Int} : hasC cs r = true ↔ r ∈ refsC cs := by
  unfold hasC refsC
  rw [List.any_eq_true, List.mem_map]
  constructor
  · rintro ⟨c, h1, h2⟩; exact ⟨c, h1, by simpa using h2⟩
  · rintro ⟨c, h1, h2⟩; exact ⟨c, h1, by simpa using h2⟩

/-- Numbers that rise from 0 on, all below how many there are, are their own places. -/
theorem own_place : ∀ {l : List Co} {lo : Nat}, l.Pairwise (fun a b => a.q < b.q) → (∀ c ∈ l, (lo : Int) ≤ c.q) → (∀ c ∈ l, c.q < ((lo + l.length : Nat) : Int)) → ∀ j, j < l.length → (l.getD j C0).q = ((lo + j : Nat) : Int)
  | [], _, _, _, _, j, hj => by simp at hj
  | a :: l, lo, h, h1, h2, j, hj => by
    rw [List.pairwise_cons] at h
    have ha : a.q = (lo : Int) := by
      by_cases e : a.q = (lo : Int)
      · exact e
      · exfalso
        have h0 := h1 a (by simp)
        have key : ∀ (t : List Co) (b : Int), t.Pairwise (fun a b => a.q < b.q) → (∀ c ∈ t, b ≤ c.q) → (∀ c ∈ t, c.q < ((lo + (l.length + 1) : Nat) : Int)) → (t.length : Int) ≤ max 0 (((lo + (l.length + 1) : Nat) : Int) - b) := by
          intro t
          induction t with
          | nil => intro b _ _ _; simp; omega
          | cons x t ih =>
            intro b g1 g2 g3
            rw [List.pairwise_cons] at g1
            have i1 := ih (b + 1) g1.2 (fun c hc => by have := g1.1 c hc; have := g2 x (by simp); omega) (fun c hc => g3 c (by simp [hc]))
            have i2 := g2 x (by simp)
            have i3 := g3 x (by simp)
            simp only [List.length_cons]
            omega
        have := key l (a.q + 1) h.2 (fun c hc => by have := h.1 c hc; omega) (fun c hc => by have := h2 c (by simp [hc]); simp at this ⊢; omega)
        have := h2 a (by simp)
        simp at this
        omega
    cases j with
    | zero => simpa using ha
    | succ j =>
      have := own_place (l := l) (lo := lo + 1) h.2 (fun c hc => by have := h.1 c hc; omega) (fun c hc => by have := h2 c (by simp [hc]); simp at this ⊢; omega) j (by simpa using hj)
      simp at this ⊢
      omega

theorem getC_mem {l : List Co} {j : Nat} (hj : j < l.length) : l.getD j C0 ∈ l := by
  rw [List.getD, List.getElem?_eq_getElem hj]
  exact List.getElem_mem _
theorem mem_getC {l : List Co} {c : Co} (h : c ∈ l) : ∃ j, j < l.length ∧ l.getD j C0 = c := by
  obtain ⟨j, hj, rfl⟩ := List.getElem_of_mem h
  exact ⟨j, hj, by rw [List.getD, List.getElem?_eq_getElem hj]; rfl⟩
/-- The coins of a number: as the specification asks them. -/
theorem made_same {cs : List Co} {id : Int} {os : List Ou} (h : RiseC cs) (hq : ∀ c ∈ cs, 0 ≤ c.q) : madeS (ofC cs id) os = madeB (ofC cs id) os := by
  have hp : ∀ c ∈ ofC cs id, c.p = id := fun c hc => by have := (List.mem_filter.1 hc).2; simpa using this
  have hq' : ∀ c ∈ ofC cs id, 0 ≤ c.q := fun c hc => hq c (List.mem_filter.1 hc).1
  have hr : (ofC cs id).Pairwise (fun a b => a.q < b.q) := by
    have h1 : RiseC (ofC cs id) := h.filter _
    refine (List.pairwise_iff_getElem.2 fun i j hi hj hij => ?_)
    have := cmpR_pos.1 (List.pairwise_iff_getElem.1 h1 i j hi hj hij)
    have a := hp _ (List.getElem_mem hi)
    have b := hp _ (List.getElem_mem hj)
    omega
  obtain ⟨ms, hms⟩ : ∃ ms, ms = ofC cs id := ⟨_, rfl⟩
  rw [← hms] at hq' hr ⊢
  rw [Bool.eq_iff_iff]
  unfold madeS madeB
  simp only [Bool.and_eq_true, decide_eq_true_eq, List.all_eq_true, List.mem_range]
  constructor
  · rintro ⟨h1, h2⟩
    refine ⟨h2, fun j hj => ?_⟩
    have h3 := h1 _ (getC_mem hj)
    unfold fitO at h3
    simp only [Bool.and_eq_true, decide_eq_true_eq] at h3
    have h4 := own_place (lo := 0) hr (fun c hc => by simpa using hq' c hc) (fun c hc => by
      have := h1 c hc
      unfold fitO at this
      simp only [Bool.and_eq_true, decide_eq_true_eq] at this
      rw [Nat.zero_add, h2]
      exact this.1) j hj
    rw [Nat.zero_add] at h4
    unfold placeB
    simp only [Bool.and_eq_true, decide_eq_true_eq]
    refine ⟨h4, ?_⟩
    have h5 := h3.2
    rw [h4] at h5
    simpa using h5
  · rintro ⟨h1, h2⟩
    refine ⟨fun c hc => ?_, h1⟩
    obtain ⟨j, hj, rfl⟩ := mem_getC hc
    have h3 := h2 j hj
    unfold placeB at h3
    simp only [Bool.and_eq_true, decide_eq_true_eq] at h3
    unfold fitO
    simp only [Bool.and_eq_true, decide_eq_true_eq]
    rw [h3.1]
    exact ⟨by omega, by simpa using h3.2⟩

theorem refs_facts : ∀ {rs seen : List (Int × Int)}, refsR seen rs = 0 → (∀ r ∈ rs, refB r = true ∧ r ∉ seen) ∧ rs.Nodup
  | [], _, _ => ⟨fun r hr => (by cases hr), List.nodup_nil⟩
  | r :: t, seen, h => by
    unfold refsR at h
    by_cases h1 : refB r = false
    · rw [if_pos h1] at h; cases h
    · rw [if_neg h1] at h
      by_cases h2 : memB seen r = true
      · rw [if_pos h2] at h; cases h
      · rw [if_neg h2] at h
        obtain ⟨i1, i2⟩ := refs_facts h
        have h3 : r ∉ seen := fun e => h2 (memB_here.2 e)
        refine ⟨fun x hx => ?_, List.nodup_cons.2 ⟨fun e => (i1 r e).2 (by simp), i2⟩⟩
        rcases List.mem_cons.1 hx with rfl | hx
        · exact ⟨by simpa using h1, h3⟩
        · exact ⟨(i1 x hx).1, fun e => (i1 x hx).2 (by simp [e])⟩
theorem tx_facts {k f : Int} {rs : List (Int × Int)} {os : List Ou} (h : txR k f rs os = 0) : (∀ r ∈ rs, refB r = true) ∧ rs.Nodup ∧ rs.length ≤ 4 ∧ os.length ≤ 4 := by
  unfold txR at h
  by_cases h1 : inB k 0 2 = false ∨ ¬ (k = 0 ↔ f = 0)
  · rw [if_pos h1] at h; cases h
  rw [if_neg h1] at h
  by_cases h2 : k ≠ 0 ∧ inB f 1 999 = false
  · rw [if_pos h2] at h; cases h
  rw [if_neg h2] at h
  by_cases h3 : inB rs.length 1 4 = false ∨ inB os.length 1 4 = false
  · rw [if_pos h3] at h; cases h
  rw [if_neg h3] at h
  by_cases h4 : refsR [] rs ≠ 0
  · rw [if_pos h4] at h; exact absurd h h4
  obtain ⟨i1, i2⟩ := refs_facts (show refsR [] rs = 0 by simpa using h4)
  have h5 : inB rs.length 1 4 = true := by cases e : inB rs.length 1 4; exact absurd (.inl e) h3; rfl
  have h6 : inB os.length 1 4 = true := by cases e : inB os.length 1 4; exact absurd (.inr e) h3; rfl
  simp [inB] at h5 h6
  exact ⟨fun r hr => (i1 r hr).1, i2, by omega, by omega⟩
theorem ref_wf {r : Int × Int} (h : refB r = true) : (Lit.int .i64 r.1).wf = true ∧ (Lit.int .i64 r.2).wf = true := by
  simp [refB, inB] at h
  exact ⟨WalkArith.wf_i64 (by omega), WalkArith.wf_i64 (by omega)⟩

theorem of_off (cs : List Co) (id : Int) : (ofC cs id).length + (offC cs id).length = cs.length := by
  unfold ofC offC
  induction cs with
  | nil => rfl
  | cons c t ih =>
    by_cases e : c.p = id
    · rw [List.filter_cons_of_pos (by simp [e]), List.filter_cons_of_neg (by simp [e]), List.length_cons, List.length_cons]; omega
    · rw [List.filter_cons_of_neg (by simp [e]), List.filter_cons_of_pos (by simp [e]), List.length_cons, List.length_cons]; omega
end Go.Proofs.YtagokfoimokniaaGreatDoor
