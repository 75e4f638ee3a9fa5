/- The law on SpendTx answers true, whatever comes in, and writes nothing that was there. -/
import Derived.Test.YtagokfoimokniaaGreatDoorQw
import Derived.Test.YtagokfoimokniaaGreatDoorQt
import Derived.Test.YtagokfoimokniaaGreatDoorLSpentBy
import Derived.Test.YtagokfoimokniaaGreatDoorQh
import Derived.Test.YtagokfoimokniaaGreatDoorJn4
import Derived.Test.YtagokfoimokniaaGreatDoorJn8
import Derived.Test.YtagokfoimokniaaGreatDoorJn6
import Derived.Test.YtagokfoimokniaaGreatDoorJn3
import Derived.Deep.DeepCutAuto
namespace Go.Proofs.YtagokfoimokniaaGreatDoor
open Go.RowKit Go.Maps Go.WideMaps

theorem spendF_facts {cs : List Co} {k f : Int} {rs : List (Int × Int)} {os : List Ou} {id h : Int} (e : spendF cs k f rs os id h = 0) : hasT cs id = false ∧ putsR (outC2 cs rs).length false id os h = 0 := by
  unfold spendF at e
  by_cases h1 : txR k f rs os ≠ 0
  · rw [if_pos h1] at e; exact absurd e h1
  rw [if_neg h1] at e
  by_cases h2 : rs.all (hasC cs) = false
  · rw [if_pos h2] at e; cases e
  rw [if_neg h2] at e
  by_cases h3 : hasT cs id = true
  · rw [if_pos h3] at e; cases e
  rw [if_neg h3] at e
  exact ⟨by simpa using h3, e⟩
theorem spendR_few {cs : List Co} {k f : Int} {rs : List (Int × Int)} {os : List Ou} {id h : Int} : (spendR cs k f rs os id h).2.length ≤ 1000 ∧ ∀ c ∈ (spendR cs k f rs os id h).2, c.l.length ≤ 1048576 := by
  rw [spendR_eq]
  by_cases h0 : coinsR cs ≠ 0
  · rw [if_pos h0]; exact ⟨by simp, fun c hc => by cases hc⟩
  rw [if_neg h0]
  by_cases h1 : spendF cs k f rs os id h ≠ 0
  · rw [if_pos h1]; exact ⟨by simp, fun c hc => by cases hc⟩
  rw [if_neg h1]
  obtain ⟨_, g2⟩ := spendF_facts (show spendF cs k f rs os id h = 0 by simpa using h1)
  obtain ⟨_, a2, _⟩ := coins_rise (show coinsR cs = 0 by simpa using h0)
  have g3 := (puts_taken g2).2
  refine ⟨?_, fun c hc => ?_⟩
  · show (addCs (outC2 cs rs) (newCs id h false os os.length)).length ≤ 1000
    rw [addCs_count]
    simp [newCs]
    omega
  · have hc' : c ∈ addCs (outC2 cs rs) (newCs id h false os os.length) := hc
    rw [addCs_mem, List.mem_append] at hc'
    rcases hc' with hc' | hc'
    · have := (coin_more (a2 c (List.mem_filter.1 hc').1)).2.2.2; omega
    · unfold newCs at hc'
      obtain ⟨j, hj, rfl⟩ := List.mem_map.1 hc'
      have hjl := List.mem_range.1 hj
      have := (puts_outs2 g2 (os.getD j O0) (by rw [List.getD, List.getElem?_eq_getElem hjl]; exact List.getElem_mem _)).2
      show (os.getD j O0).l.length ≤ 1048576
      omega

end Go.Proofs.YtagokfoimokniaaGreatDoor
