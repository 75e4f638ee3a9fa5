/- The program's PutCoins keeps its contract. -/
import Derived.Test.YtngpegmfhhgkgaaGreatDoorDp
import Derived.Test.YtngpegmfhhgkgaaGreatDoorDi
namespace Go.Proofs.YtngpegmfhhgkgaaGreatDoor
open Go.RowKit Go.Maps Go.WideMaps

/-- A coin put into its place; coins put, one after another. -/
def addC : List Co → Co → List Co
  | [], x => [x]
  | a :: l, x => if cmpR (a.p, a.q) (x.p, x.q) < 0 then a :: addC l x else x :: a :: l
def addCs (cs xs : List Co) : List Co := xs.foldl addC cs
theorem addC_mem {x : Co} : ∀ {cs : List Co} {c : Co}, c ∈ addC cs x ↔ c = x ∨ c ∈ cs
  | [], c => by simp [addC]
  | a :: l, c => by
    unfold addC
    by_cases e : cmpR (a.p, a.q) (x.p, x.q) < 0
    · rw [if_pos e, List.mem_cons, addC_mem, List.mem_cons]
      constructor <;> (rintro (h | h | h) <;> simp [h])
    · rw [if_neg e, List.mem_cons]
theorem addC_rise {x : Co} : ∀ {cs : List Co}, cs.Pairwise (fun x y => 0 < cmpR (y.p, y.q) (x.p, x.q)) → (∀ c ∈ cs, ¬ (c.p = x.p ∧ c.q = x.q)) → (addC cs x).Pairwise (fun x y => 0 < cmpR (y.p, y.q) (x.p, x.q))
  | [], _, _ => List.pairwise_singleton _ _
  | a :: l, h, hn => by
    rw [List.pairwise_cons] at h
    unfold addC
    by_cases e : cmpR (a.p, a.q) (x.p, x.q) < 0
    · rw [if_pos e, List.pairwise_cons]
      refine ⟨fun y hy => ?_, addC_rise h.2 fun c hc => hn c (by simp [hc])⟩
      rcases addC_mem.1 hy with rfl | hy
      · have := cmpR_neg.1 e
        exact cmpR_pos.2 (by omega)
      · exact h.1 y hy
    · rw [if_neg e, List.pairwise_cons]
      have h1 : ¬ (a.p < x.p ∨ (a.p = x.p ∧ a.q < x.q)) := fun q => e (cmpR_neg.2 q)
      have h2 := hn a (by simp)
      refine ⟨fun y hy => ?_, List.pairwise_cons.2 h⟩
      rcases List.mem_cons.1 hy with rfl | hy
      · exact cmpR_pos.2 (by omega)
      · have := cmpR_pos.1 (h.1 y hy)
        exact cmpR_pos.2 (by omega)
theorem addCs_mem : ∀ {xs cs : List Co} {c : Co}, c ∈ addCs cs xs ↔ c ∈ cs ++ xs
  | [], cs, c => by simp [addCs]
  | x :: xs, cs, c => by
    show c ∈ addCs (addC cs x) xs ↔ _
    rw [addCs_mem, List.mem_append, addC_mem, List.mem_append, List.mem_cons]
    constructor
    · rintro ((h | h) | h) <;> simp [h]
    · rintro (h | h | h) <;> simp [h]
theorem addCs_rise : ∀ {xs cs : List Co}, cs.Pairwise (fun x y => 0 < cmpR (y.p, y.q) (x.p, x.q)) → (cs ++ xs).Pairwise (fun x y => ¬ (x.p = y.p ∧ x.q = y.q)) → (addCs cs xs).Pairwise (fun x y => 0 < cmpR (y.p, y.q) (x.p, x.q))
  | [], cs, h, _ => h
  | x :: xs, cs, h, hn => by
    show (addCs (addC cs x) xs).Pairwise _
    rw [List.pairwise_append, List.pairwise_cons] at hn
    refine addCs_rise (addC_rise h fun c hc => hn.2.2 c hc x (by simp)) ?_
    rw [List.pairwise_append]
    refine ⟨?_, hn.2.1.2, fun a ha b hb => ?_⟩
    · exact (addC_rise h fun c hc => hn.2.2 c hc x (by simp)).imp fun {a b} q => by have := cmpR_pos.1 q; omega
    · rcases addC_mem.1 ha with rfl | ha
      · exact hn.2.1.1 b hb
      · exact hn.2.2 a ha b (by simp [hb])

def hasT (cs : List Co) (t : Int) : Bool := cs.any fun c => decide (c.p = t)
theorem hasT_map (ps : List (Co × Value)) (t : Int) : hasT (ps.map (·.1)) t = txIn ps t := by
  unfold hasT txIn
  rw [List.any_map]
  rfl
def putR (cs : List Co) (t : Int) (os : List Ou) (h : Int) (m : Bool) : Int × List Co :=
  if coinsR cs ≠ 0 then (coinsR cs, []) else if putsR cs.length (hasT cs t) t os h ≠ 0 then (putsR cs.length (hasT cs t) t os h, []) else (0, addCs cs (newCs t h m os os.length))
theorem new_apart {cs : List Co} {t h : Int} {m : Bool} {os : List Ou} (hri : cs.Pairwise (fun x y => 0 < cmpR (y.p, y.q) (x.p, x.q))) (hno : hasT cs t = false) : (cs ++ newCs t h m os os.length).Pairwise (fun x y => ¬ (x.p = y.p ∧ x.q = y.q)) := by
  rw [List.pairwise_append]
  refine ⟨hri.imp fun {a b} q => by have := cmpR_pos.1 q; omega, ?_, fun a ha b hb => ?_⟩
  · unfold newCs
    rw [List.pairwise_map]
    refine List.pairwise_lt_range.imp ?_
    intro i j hij e
    have : (i : Int) = (j : Int) := e.2
    omega
  · unfold newCs at hb
    obtain ⟨j, _, rfl⟩ := List.mem_map.1 hb
    unfold hasT at hno
    rw [List.any_eq_false] at hno
    have := hno a ha
    intro e
    have e1 : a.p = t := e.1
    exact absurd e1 (by simpa using this)
theorem puts_taken {n : Nat} {ti : Bool} {t h : Int} {os : List Ou} (e : putsR n ti t os h = 0) : ti = false ∧ n + os.length ≤ 40 := by
  unfold putsR at e
  by_cases h1 : putFR t os h ≠ 0
  · rw [if_pos h1] at e; exact absurd e h1
  · rw [if_neg h1] at e
    by_cases h2 : ti = true
    · rw [if_pos h2] at e; cases e
    · rw [if_neg h2] at e
      by_cases h3 : 40 < n + os.length
      · rw [if_pos h3] at e; cases e
      · exact ⟨by simpa using h2, by omega⟩

end Go.Proofs.YtngpegmfhhgkgaaGreatDoor
