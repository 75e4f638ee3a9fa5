/- What is spent and taken back: the plain mathematics. -/
import Derived.Test.YtagokfoimokniaaGreatDoorOq
import Derived.Test.YtagokfoimokniaaGreatDoorQw
import Derived.Test.YtagokfoimokniaaGreatDoorQh
import Derived.Test.YtagokfoimokniaaGreatDoorJn2
import Derived.Test.YtagokfoimokniaaGreatDoorSr
import Derived.Test.YtagokfoimokniaaGreatDoorJn8
import Derived.Test.YtagokfoimokniaaGreatDoorQg
namespace Go.Proofs.YtagokfoimokniaaGreatDoor
open Go.RowKit Go.Maps Go.WideMaps

theorem coin_ref {c : Co} (h : coinR c = 0) : refB (c.p, c.q) = true := by
  unfold coinR at h
  split at h
  · cases h
  · rename_i a
    cases e : refB (c.p, c.q)
    · exact absurd (.inl e) a
    · rfl
/-- What is known where a transaction is spent without a code. -/
structure SpOk (cs : List Co) (k f : Int) (rs : List (Int × Int)) (os : List Ou) (id h : Int) (out : List Co) : Prop where
  c : coinsR cs = 0
  t : txR k f rs os = 0
  a : rs.all (hasC cs) = true
  no : hasT cs id = false
  put : PutOk (outC2 cs rs) id h false os out
theorem spOk {cs : List Co} {k f : Int} {rs : List (Int × Int)} {os : List Ou} {id h : Int} (h0 : (spendR cs k f rs os id h).1 = 0) : SpOk cs k f rs os id h (spendR cs k f rs os id h).2 := by
  unfold spendR at h0 ⊢
  by_cases h1 : (spentR cs k f rs os).1 ≠ 0
  · rw [if_pos h1] at h0; exact absurd h0 h1
  rw [if_neg h1] at h0 ⊢
  have h2 : (spentR cs k f rs os).1 = 0 := by simpa using h1
  obtain ⟨a, b, c⟩ := spentR_facts h2
  by_cases h3 : hasT cs id = true
  · rw [if_pos h3] at h0; cases h0
  rw [if_neg h3] at h0 ⊢
  exact ⟨a, b, c, by simpa using h3, putOk h0⟩
section
variable {cs : List Co} {k f : Int} {rs : List (Int × Int)} {os : List Ou} {id h : Int} {out : List Co}
theorem SpOk.spent (H : SpOk cs k f rs os id h out) : spentR cs k f rs os = (0, inC cs rs) := by
  unfold spentR
  rw [if_neg (by simp [H.c]), if_neg (by simp [H.t]), if_pos H.a]
theorem SpOk.rise (H : SpOk cs k f rs os id h out) : RiseC cs := (coins_rise H.c).2.2
theorem SpOk.off (H : SpOk cs k f rs os id h out) {c : Co} (hc : c ∈ cs) : c.p ≠ id := fun e => by
  have := H.no
  unfold hasT at this
  rw [List.any_eq_false] at this
  exact this c hc (by simp [e])
theorem SpOk.mem (H : SpOk cs k f rs os id h out) {c : Co} (hc : c ∈ out) : (c ∈ cs ∧ memB rs (c.p, c.q) = false) ∨ ∃ j, j < os.length ∧ c = newC id h false (os.getD j O0) j := by
  rw [H.put.r, addCs_mem] at hc
  rcases List.mem_append.1 hc with q | q
  · unfold outC2 at q
    have := List.mem_filter.1 q
    exact .inl ⟨this.1, by simpa using this.2⟩
  · exact .inr (newCs_mem q)
/-- What was spent is gone. -/
theorem SpOk.gone (H : SpOk cs k f rs os id h out) {r : Int × Int} (hr : r ∈ rs) : hasC out r = false := by
  cases e : hasC out r
  · rfl
  exfalso
  obtain ⟨c, hc, rfl⟩ := List.mem_map.1 (hasC_iff.1 e)
  rcases H.mem hc with ⟨_, h2⟩ | ⟨j, _, h2⟩
  · rw [memB_here.2 hr] at h2; cases h2
  · have h3 := List.all_eq_true.1 H.a _ hr
    obtain ⟨d, hd, e2⟩ := List.mem_map.1 (hasC_iff.1 h3)
    have h4 : d.p = id := by
      have : d.p = c.p := congrArg Prod.fst e2
      rw [this, h2]; rfl
    exact H.off hd h4
theorem SpOk.at (H : SpOk cs k f rs os id h out) {r : Int × Int} (hr : r ∈ rs) : atR out r = (4, []) := by
  have h1 := H.gone hr
  unfold atR
  rw [if_neg (by simp [putOk_right H.put])]
  have h2 : out.find? (fun c => decide ((c.p, c.q) = r)) = none := by
    rw [List.find?_eq_none]
    unfold hasC at h1
    rw [List.any_eq_false] at h1
    exact h1
  rw [h2]
theorem SpOk.rest (H : SpOk cs k f rs os id h out) : offC out id = outC2 cs rs := by
  unfold offC
  rw [H.put.r, filter_addCs]
  · rw [List.filter_eq_self]
    intro c hc
    unfold outC2 at hc
    simpa using H.off (List.mem_filter.1 hc).1
  · intro x hx
    obtain ⟨j, _, e⟩ := newCs_mem hx
    rw [e]
    simp [newC]
theorem SpOk.made (H : SpOk cs k f rs os id h out) : madeB (ofC out id) os = true := by
  have hr := putOk_right H.put
  have hx := coins_rise hr
  rw [← made_same hx.2.2 fun c hc => by
    have := coin_ref (hx.2.1 c hc)
    unfold refB at this
    rw [Bool.and_eq_true, inB_true, inB_true] at this
    exact this.2.1]
  have hlen : (ofC out id).length = os.length := by
    have h1 := of_off out id
    have h2 : out.length = (outC2 cs rs).length + os.length := by rw [H.put.r, addCs_len]
    rw [H.rest] at h1
    omega
  unfold madeS
  rw [Bool.and_eq_true, decide_eq_true_eq, List.all_eq_true]
  refine ⟨fun c hc => ?_, hlen⟩
  unfold ofC at hc
  obtain ⟨h1, h2⟩ := List.mem_filter.1 hc
  rcases H.mem h1 with ⟨h3, _⟩ | ⟨j, hj, e⟩
  · exact absurd (by simpa using h2) (H.off h3)
  · rw [e]
    unfold fitO
    rw [Bool.and_eq_true, decide_eq_true_eq]
    refine ⟨by show (j : Int) < (os.length : Int); omega, ?_⟩
    show sameO (outC (newC id h false (os.getD j O0) j)) (os.getD ((j : Int)).toNat O0) = true
    rw [Int.toNat_natCast]
    simp [sameO, sameR, outC, newC]
theorem SpOk.right (H : SpOk cs k f rs os id h out) : coinsR (inC cs rs) = 0 := by
  obtain ⟨a, b, c⟩ := coins_rise H.c
  exact coinsR_back (Nat.le_trans (List.length_filter_le _ _) a) (fun x hx => b x (List.mem_filter.1 hx).1) (c.filter _)
end
/-- Coins with the first twice are no good coins. -/
theorem twice_bad {cs0 : List Co} (h : 0 < cs0.length) : coinsR (cs0 ++ [cs0.getD 0 C0]) ≠ 0 := fun e => by
  have hr := (coins_rise e).2.2
  have hm : cs0.getD 0 C0 ∈ cs0 := by
    rw [List.getD_eq_getElem?_getD, List.getElem?_eq_getElem h]; exact List.getElem_mem _
  have := (List.pairwise_append.1 hr).2.2 _ hm _ (List.mem_singleton.2 rfl)
  have := cmpR_pos.1 this
  omega
end Go.Proofs.YtagokfoimokniaaGreatDoor
