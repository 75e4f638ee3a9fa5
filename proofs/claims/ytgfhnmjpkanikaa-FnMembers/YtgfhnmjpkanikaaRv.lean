/- A region that draws its order, by what holds whatever has been done of it. -/
import Derived.Test.YtgfhnmjpkanikaaJn1
import Derived.Deep.RegionLaw
namespace Go.Proofs.Ytgfhnmjpkanikaa
open Go.RowKit

section
variable {P : Program} {md : Region.Mode} {ops : Array Oper} {Q : Exit → Act → World → Prop}
theorem count_set_lt {l : List Bool} {i : Nat} (h : l[i]? = some false) : (l.set i true).count false + 1 = l.count false := by
  induction l generalizing i with
  | nil => simp at h
  | cons b t ih =>
    cases i with
    | zero =>
      simp at h
      subst h
      simp
    | succ i =>
      simp at h
      have := ih h
      cases b <;> simp at this ⊢ <;> omega
theorem listed_false {L : Array Bool} {i : Nat} (h : L.getD i true = false) : L.toList[i]? = some false := by
  by_cases hi : i < L.size
  · simp [Array.getD, hi] at h
    simp [hi, h]
  · simp [Array.getD, hi] at h
theorem wpAny_inv (Inv : Array Bool → Act → World → Prop)
    (hs : ∀ L a w i, Inv L a w → i ∈ Region.ready md ops L → wpOp P ops Q i (Inv (L.setIfInBounds i true)) a w)
    (he : ∀ L a w, Inv L a w → Region.ready md ops L = [] → Q .normal a w) :
    ∀ (fuel : Nat) (L : Array Bool) (a : Act) (w : World), L.toList.count false ≤ fuel → Inv L a w → wpAny P md ops Q fuel L a w
  | 0, L, a, w, hc, hI => by
    have hr : Region.ready md ops L = [] := by
      refine List.eq_nil_iff_forall_not_mem.2 fun i hi => ?_
      have h1 := listed_false (mem_ready.1 hi).1
      have h2 := List.count_pos_iff.2 (List.mem_of_getElem? h1)
      omega
    exact ⟨hr, he L a w hI hr⟩
  | fuel + 1, L, a, w, hc, hI => by
    refine ⟨fun h0 => he L a w hI h0, fun i hi => wpOp_mono (fun a' w' h' => wpAny_inv Inv hs he fuel _ a' w' ?_ h') (hs L a w i hI hi)⟩
    have h1 := count_set_lt (listed_false (mem_ready.1 hi).1)
    rw [Array.toList_setIfInBounds]
    omega
/-- Each waits for earlier ones alone. -/
def backB (md : Region.Mode) (ops : Array Oper) : Bool := (List.range ops.size).all fun i => match ops[i]? with
  | some o => o.after.toList.all fun e => !Region.binds md e || decide (e.on < i)
  | none => true
theorem ready_all {L : Array Bool} (hb : backB md ops = true) (h : Region.ready md ops L = []) : ∀ i, i < ops.size → L.getD i true = true := by
  intro i
  induction i using Nat.strongRecOn with
  | ind i ih =>
    intro hi
    cases hL : L.getD i true with
    | true => rfl
    | false =>
      exfalso
      have ho : ops[i]? = some ops[i] := Array.getElem?_eq_getElem hi
      have : i ∈ Region.ready md ops L := mem_ready.2 ⟨hL, _, ho, fun e he hbi => by
        unfold backB at hb
        rw [List.all_eq_true] at hb
        have h1 := hb i (List.mem_range.2 hi)
        rw [ho] at h1
        simp only [List.all_eq_true] at h1
        have h2 : e.on < i := by
          have h0 := h1 e (by simpa using he)
          rw [hbi] at h0
          simpa using h0
        have h3 := ih e.on h2 (by omega)
        have h4 := listed_false hL
        have h5 : i < L.size := by
          have := (List.getElem?_eq_some_iff.1 h4).1
          simpa using this
        simp [Array.getD, show e.on < L.size by omega] at h3 ⊢
        exact h3⟩
      rw [h] at this
      cases this
/-- Does one wait for another? -/
def depB (md : Region.Mode) (ops : Array Oper) (i d : Nat) : Bool := match ops[i]? with
  | some o => o.after.toList.any fun e => Region.binds md e && e.on == d
  | none => false
theorem ready_dep {L : Array Bool} {i d : Nat} (hi : i ∈ Region.ready md ops L) (hd : depB md ops i d = true) : L.getD d false = true := by
  obtain ⟨_, o, ho, ha⟩ := mem_ready.1 hi
  unfold depB at hd
  rw [ho] at hd
  simp only [List.any_eq_true, Bool.and_eq_true, beq_iff_eq] at hd
  obtain ⟨e, he, h1, h2⟩ := hd
  rw [← h2]
  exact ha e (by simpa using he) h1
theorem ready_lt {L : Array Bool} {i : Nat} (hi : i ∈ Region.ready md ops L) : i < ops.size := by
  obtain ⟨_, o, ho, _⟩ := mem_ready.1 hi
  exact (Array.getElem?_eq_some_iff.1 ho).1
theorem ready_new {L : Array Bool} {i : Nat} (hi : i ∈ Region.ready md ops L) : L.getD i true = false := (mem_ready.1 hi).1
theorem wpOp_run {i : Nat} {o : Oper} {a : Act} {w : World} {K : Act → World → Prop} (ho : ops[i]? = some o)
    (h : ∀ K' : Act → World → Prop, (∀ a w, K a w → K' a w) → if Region.wanted o (yielded ops a.tmps) = true then Oper.wp P o a w K' Q else K' (a.put o.dst undef) w) : wpOp P ops Q i K a w := by
  unfold wpOp
  rw [ho]
  have := h K (fun _ _ h => h)
  simp only
  split
  · rename_i hw
    rw [if_pos hw] at this
    exact .inl this
  · rename_i hw
    rw [if_neg hw] at this
    exact this
end

end Go.Proofs.Ytgfhnmjpkanikaa
