/- The specification's SpentBy keeps its contract. -/
import Derived.Test.YtagokfoimokniaaGreatDoorQh
import Derived.Test.YtagokfoimokniaaGreatDoorQg
namespace Go.Proofs.YtagokfoimokniaaGreatDoor
open Go.RowKit Go.Maps Go.WideMaps

def spentR (cs : List Co) (k f : Int) (rs : List (Int × Int)) (os : List Ou) : Int × List Co :=
  if coinsR cs ≠ 0 then (coinsR cs, []) else if txR k f rs os ≠ 0 then (txR k f rs os, []) else if rs.all (hasC cs) = true then (0, inC cs rs) else (4, [])
/-- All are there just where as many are found as are wanted. -/
theorem in_full {cs : List Co} {rs : List (Int × Int)} (h : RiseC cs) (hr : rs.Nodup) : decide ((inC cs rs).length = rs.length) = rs.all (hasC cs) := by
  have hn : (refsC (inC cs rs)).Nodup := refs_nodup (h.filter _)
  have hl : (refsC (inC cs rs)).length = (inC cs rs).length := by simp [refsC]
  have hsub : ∀ x ∈ refsC (inC cs rs), x ∈ rs := fun x hx => by
    obtain ⟨c, hc, rfl⟩ := List.mem_map.1 hx
    exact memB_here.1 (List.mem_filter.1 hc).2
  rw [Bool.eq_iff_iff, decide_eq_true_eq, List.all_eq_true]
  constructor
  · intro e r hrr
    have := sub_back _ rs hn hsub (by omega) r hrr
    obtain ⟨c, hc, rfl⟩ := List.mem_map.1 this
    exact hasC_iff.2 (List.mem_map.2 ⟨c, (List.mem_filter.1 hc).1, rfl⟩)
  · intro e
    have a := sub_length _ rs hn hsub
    have b := sub_length rs (refsC (inC cs rs)) hr fun r hrr => by
      obtain ⟨c, hc, rfl⟩ := List.mem_map.1 (hasC_iff.1 (e r hrr))
      exact List.mem_map.2 ⟨c, List.mem_filter.2 ⟨hc, memB_here.2 hrr⟩, rfl⟩
    omega

end Go.Proofs.YtagokfoimokniaaGreatDoor
