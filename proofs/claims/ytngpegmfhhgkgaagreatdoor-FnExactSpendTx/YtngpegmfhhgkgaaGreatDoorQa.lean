/- A transaction is taken back: what it comes to, without a world. -/
import Derived.Test.YtngpegmfhhgkgaaGreatDoorDq
import Derived.Test.YtngpegmfhhgkgaaGreatDoorTxA
import Derived.Test.YtngpegmfhhgkgaaGreatDoorRu
import Derived.Test.YtngpegmfhhgkgaaGreatDoorTxS
namespace Go.Proofs.YtngpegmfhhgkgaaGreatDoor
open Go.RowKit Go.Maps Go.WideMaps

abbrev RiseC (cs : List Co) : Prop := cs.Pairwise (fun x y => 0 < cmpR (y.p, y.q) (x.p, x.q))
def inC (cs : List Co) (rs : List (Int × Int)) : List Co := cs.filter fun c => memB rs (c.p, c.q)
theorem memB_here {gs : List (Int × Int)} {x : Int × Int} : memB gs x = true ↔ x ∈ gs := by
  have := num_zero gs x
  unfold memB
  by_cases h : x ∈ gs
  · simp [h] at this; simp [h, this]
  · simp [h] at this; simp [h, this]
theorem sub_back {α : Type} [DecidableEq α] : ∀ (a b : List α), a.Nodup → (∀ x ∈ a, x ∈ b) → b.length ≤ a.length → ∀ x ∈ b, x ∈ a
  | [], b, _, _, hl, x, hx => by have : b = [] := List.eq_nil_of_length_eq_zero (by simpa using hl); rw [this] at hx; exact hx
  | y :: a, b, hn, hs, hl, x, hx => by
    rw [List.nodup_cons] at hn
    obtain ⟨s1, s2, rfl⟩ := List.append_of_mem (hs y (by simp))
    have h1 : ∀ z ∈ a, z ∈ s1 ++ s2 := fun z hz => by
      have h2 := hs z (by simp [hz])
      have h3 : z ≠ y := fun e => hn.1 (e ▸ hz)
      simp at h2 ⊢
      rcases h2 with h2 | h2 | h2
      · exact .inl h2
      · exact absurd h2 h3
      · exact .inr h2
    have h4 := sub_back a (s1 ++ s2) hn.2 h1 (by simp at hl ⊢; omega)
    simp at hx
    rcases hx with h | h | h
    · exact List.mem_cons_of_mem _ (h4 x (by simp [h]))
    · simp [h]
    · exact List.mem_cons_of_mem _ (h4 x (by simp [h]))
theorem sub_length {α : Type} [DecidableEq α] : ∀ (a b : List α), a.Nodup → (∀ x ∈ a, x ∈ b) → a.length ≤ b.length
  | [], b, _, _ => by simp
  | y :: a, b, hn, hs => by
    rw [List.nodup_cons] at hn
    obtain ⟨s1, s2, rfl⟩ := List.append_of_mem (hs y (by simp))
    have h1 : ∀ z ∈ a, z ∈ s1 ++ s2 := fun z hz => by
      have h2 := hs z (by simp [hz])
      have h3 : z ≠ y := fun e => hn.1 (e ▸ hz)
      simp at h2 ⊢
      rcases h2 with h2 | h2 | h2
      · exact .inl h2
      · exact absurd h2 h3
      · exact .inr h2
    have h4 := sub_length a (s1 ++ s2) hn.2 h1
    simp at h4 ⊢
    omega
def refsC (cs : List Co) : List (Int × Int) := cs.map fun c => (c.p, c.q)
theorem refs_nodup {cs : List Co} (h : RiseC cs) : (refsC cs).Nodup := by
  unfold refsC List.Nodup
  rw [List.pairwise_map]
  exact h.imp fun {a b} k e => by
    have := cmpR_pos.1 k
    simp at e
    omega
theorem hasC_iff {cs : List Co} {r : Int × Int} : hasC cs r = true ↔ r ∈ refsC cs := by
  unfold hasC refsC
  rw [List.any_eq_true, List.mem_map]
  constructor
  · rintro ⟨c, h1, h2⟩; exact ⟨c, h1, by simpa using h2⟩
  · rintro ⟨c, h1, h2⟩; exact ⟨c, h1, by simpa using h2⟩

theorem getC_mem {l : List Co} {j : Nat} (hj : j < l.length) : l.getD j C0 ∈ l := by
  rw [List.getD, List.getElem?_eq_getElem hj]
  exact List.getElem_mem _
theorem refs_facts : ∀ {rs seen : List (Int × Int)}, refsR seen rs = 0 → (∀ r ∈ rs, refB r = true ∧ r ∉ seen) ∧ rs.Nodup
  | [], _, _ => ⟨fun r hr => (by cases hr), List.nodup_nil⟩
  | r :: t, seen, h => by
    unfold refsR at h
    by_cases h1 : refB r = false
    · rw [if_pos h1] at h; cases h
    · rw [if_neg h1] at h
      by_cases h2 : memB seen r = true
      · rw [if_pos h2] at h; cases h
      · rw [if_neg h2] at h
        obtain ⟨i1, i2⟩ := refs_facts h
        have h3 : r ∉ seen := fun e => h2 (memB_here.2 e)
        refine ⟨fun x hx => ?_, List.nodup_cons.2 ⟨fun e => (i1 r e).2 (by simp), i2⟩⟩
        rcases List.mem_cons.1 hx with rfl | hx
        · exact ⟨by simpa using h1, h3⟩
        · exact ⟨(i1 x hx).1, fun e => (i1 x hx).2 (by simp [e])⟩
theorem tx_facts {k f : Int} {rs : List (Int × Int)} {os : List Ou} (h : txR k f rs os = 0) : (∀ r ∈ rs, refB r = true) ∧ rs.Nodup ∧ rs.length ≤ 4 ∧ os.length ≤ 4 := by
  unfold txR at h
  by_cases h1 : inB k 0 2 = false ∨ ¬ (k = 0 ↔ f = 0)
  · rw [if_pos h1] at h; cases h
  rw [if_neg h1] at h
  by_cases h2 : k ≠ 0 ∧ inB f 1 999 = false
  · rw [if_pos h2] at h; cases h
  rw [if_neg h2] at h
  by_cases h3 : inB rs.length 1 4 = false ∨ inB os.length 1 4 = false
  · rw [if_pos h3] at h; cases h
  rw [if_neg h3] at h
  by_cases h4 : refsR [] rs ≠ 0
  · rw [if_pos h4] at h; exact absurd h h4
  obtain ⟨i1, i2⟩ := refs_facts (show refsR [] rs = 0 by simpa using h4)
  have h5 : inB rs.length 1 4 = true := by cases e : inB rs.length 1 4; exact absurd (.inl e) h3; rfl
  have h6 : inB os.length 1 4 = true := by cases e : inB os.length 1 4; exact absurd (.inr e) h3; rfl
  simp [inB] at h5 h6
  exact ⟨fun r hr => (i1 r hr).1, i2, by omega, by omega⟩
theorem ref_wf {r : Int × Int} (h : refB r = true) : (Lit.int .i64 r.1).wf = true ∧ (Lit.int .i64 r.2).wf = true := by
  simp [refB, inB] at h
  exact ⟨WalkArith.wf_i64 (by omega), WalkArith.wf_i64 (by omega)⟩

end Go.Proofs.YtngpegmfhhgkgaaGreatDoor
