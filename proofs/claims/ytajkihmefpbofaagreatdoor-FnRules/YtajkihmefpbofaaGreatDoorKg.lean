/- What signing a number comes to: pure. -/
import Derived.Test.YtajkihmefpbofaaGreatDoorX2
import Derived.Test.YtajkihmefpbofaaGreatDoorHasSign
import Derived.Test.YtajkihmefpbofaaGreatDoorSignsOf
import Derived.Test.YtajkihmefpbofaaGreatDoorLOwnedBy
import Derived.Test.YtajkihmefpbofaaGreatDoorDrG
namespace Go.Proofs.YtajkihmefpbofaaGreatDoor
open Go.RowKit

theorem memB_yes {gs : List (Int × Int)} {x : Int × Int} : memB gs x = true ↔ x ∈ gs := by
  unfold memB
  have := num_zero gs x
  by_cases e : num gs x = 0
  · simp [e, this.1 e]
  · simp only [bne_iff_ne, ne_eq, e, not_false_eq_true, true_iff]
    exact Decidable.not_not.1 fun h => e (this.2 h)
theorem sgo_snoc {n : Int} {g : Int × Int} (hg : 1 ≤ g.1 ∧ g.1 ≤ 999 ∧ 1 ≤ g.2 ∧ g.2 ≤ n) : ∀ (l seen : List (Int × Int)), sgo n seen l = 0 → num (seen ++ l) g = 0 → sgo n seen (l ++ [g]) = 0
  | [], seen, _, h => by
    rw [List.nil_append, sgo, if_neg (by simpa using hg), if_neg (by simpa using h)]
    rfl
  | s :: r, seen, h, hn => by
    rw [sgo] at h
    rw [List.cons_append, sgo]
    split at h
    · cases h
    · rename_i h1
      rw [if_neg h1]
      split at h
      · cases h
      · rename_i h2
        rw [if_neg h2]
        exact sgo_snoc hg r (seen ++ [s]) h (by simpa using hn)
/-- What holds of a ledger in which was signed. -/
structure Signd (ss : List ByteArray) (gs : List (Int × Int)) (a b : Int) (g2 : List (Int × Int)) : Prop where
  ok : flt ss g2 = 0
  old : flt ss gs = 0
  mem : ∀ k i, memB g2 (k, i) = (memB gs (k, i) || (decide (k = a) && decide (i = b)))
  again : signR ss g2 a b = ⟨0, b, ss, g2⟩
  sel : hasK (signsR ss g2 b).2 a = true
  fine : Fine ss gs → Fine ss g2
theorem sel_mem {gs : List (Int × Int)} {a b : Int} (h : (a, b) ∈ gs) : hasK (selK gs b gs.length) a = true := by
  refine hasK_yes ?_
  unfold selK
  rw [List.take_length]
  exact List.mem_map.2 ⟨(a, b), List.mem_filter.2 ⟨h, by simp⟩, rfl⟩
theorem signd_of {ss : List ByteArray} {gs : List (Int × Int)} {a b : Int} (h : (signR ss gs a b).c = 0) : ∃ g2, signR ss gs a b = ⟨0, b, ss, g2⟩ ∧ Signd ss gs a b g2 := by
  by_cases hf : flt ss gs = 0
  · obtain ⟨f1, f2, f3, f4⟩ := flt_parts hf
    by_cases h1 : inB a 1 999 = true
    · by_cases h2 : inB b 1 ss.length = true
      · have r1 := inB_true.1 h1
        have r2 := inB_true.1 h2
        cases hm : memB gs (a, b) with
        | true =>
          have e := signR_old rfl hf.symm h1 h2 hm.symm
          refine ⟨gs, e, hf, hf, fun k i => ?_, e, ?_, fun x => x⟩
          · by_cases e1 : k = a
            · by_cases e2 : i = b
              · subst e1 e2; rw [hm]; simp
              · simp [e2]
            · simp [e1]
          · rw [signsR_ok rfl rfl hf.symm h2]
            exact sel_mem (memB_yes.1 hm)
        | false =>
          by_cases h120 : 120 ≤ gs.length
          · rw [signR_full rfl rfl hf.symm h1 h2 hm.symm h120] at h; cases h
          have hnm : num gs (a, b) = 0 := (num_zero gs (a, b)).2 (fun hh => by rw [memB_yes.2 hh] at hm; cases hm)
          have hok : flt ss (gs ++ [(a, b)]) = 0 := flt_make f1 (by simp; omega) f3 (sgo_snoc ⟨r1.1, r1.2, r2.1, r2.2⟩ gs [] f4 (by simpa using hnm))
          have hin : (a, b) ∈ gs ++ [(a, b)] := by simp
          have hmm : memB (gs ++ [(a, b)]) (a, b) = true := memB_yes.2 hin
          refine ⟨gs ++ [(a, b)], signR_new rfl rfl hf.symm h1 h2 hm.symm h120, hok, hf, fun k i => ?_, signR_old rfl hok.symm h1 h2 hmm.symm, ?_, fun x => ⟨x.s, fun j => ?_⟩⟩
          · rw [Bool.eq_iff_iff]
            simp only [memB_yes, List.mem_append, List.mem_singleton, Prod.mk.injEq, Bool.or_eq_true, Bool.and_eq_true, decide_eq_true_eq]
          · rw [signsR_ok rfl rfl hok.symm h2]
            exact sel_mem hin
          · by_cases hj : j < gs.length
            · have := x.g j
              simp only [List.getD] at this ⊢
              rw [List.getElem?_append_left hj]
              exact this
            · by_cases hj2 : j = gs.length
              · subst hj2
                simp only [List.getD, List.getElem?_append_right (Nat.le_refl _), Nat.sub_self, List.getElem?_cons_zero, Option.getD_some]
                exact ⟨wf_small (by omega) (by omega), wf_small (by omega) (by omega)⟩
              · rw [List.getD, List.getElem?_eq_none (by simp; omega)]
                exact ⟨by decide, by decide⟩
      · rw [signR_range rfl hf.symm (.inr (by simpa using h2))] at h; cases h
    · rw [signR_range rfl hf.symm (.inl (by simpa using h1))] at h; cases h
  · rw [signR_bad rfl hf] at h
    exact absurd h hf
end Go.Proofs.YtajkihmefpbofaaGreatDoor
