/- Is there anything against it that a transaction is taken back? -/
import Derived.Test.YtagokfoimokniaaGreatDoorQb
import Derived.Test.YtagokfoimokniaaGreatDoorJn8
import Derived.Maps.RangeWalk
import Derived.Test.YtagokfoimokniaaGreatDoorJn3
import Derived.Test.YtagokfoimokniaaGreatDoorTxX
import Derived.Test.YtagokfoimokniaaGreatDoorSr
import Derived.Lib.QuietBelow
namespace Go.Proofs.YtagokfoimokniaaGreatDoor
open Go.RowKit Go.Maps Go.WideMaps

theorem hasC_mem {a b : List Co} (h : ∀ c, c ∈ a ↔ c ∈ b) (r : Int × Int) : hasC a r = hasC b r := by
  rw [Bool.eq_iff_iff]
  unfold hasC
  rw [List.any_eq_true, List.any_eq_true]
  constructor
  · rintro ⟨c, h1, h2⟩; exact ⟨c, (h c).1 h1, h2⟩
  · rintro ⟨c, h1, h2⟩; exact ⟨c, (h c).2 h1, h2⟩
theorem len_mem {ps : List (Co × Value)} {cs : List Co} (hr : ps.Pairwise fun x y => refOf x ≠ refOf y) (hc : RiseC cs) (h : ∀ c, c ∈ cs ↔ c ∈ ps.map (·.1)) : ps.length = cs.length := by
  have h1 : (ps.map refOf).Nodup := by unfold List.Nodup; rw [List.pairwise_map]; exact hr
  have a := sub_length (ps.map refOf) (refsC cs) h1 fun r hr => by
    obtain ⟨x, hx, rfl⟩ := List.mem_map.1 hr
    exact List.mem_map.2 ⟨x.1, (h x.1).2 (List.mem_map.2 ⟨x, hx, rfl⟩), rfl⟩
  have b := sub_length (refsC cs) (ps.map refOf) (refs_nodup hc) fun r hr => by
    obtain ⟨c, hc, rfl⟩ := List.mem_map.1 hr
    obtain ⟨x, hx, rfl⟩ := List.mem_map.1 ((h c).1 hc)
    exact List.mem_map.2 ⟨x, hx, rfl⟩
  simp [refsC] at a b
  omega
/-- A purse in any order, and the coins that it holds, rising. -/
structure Holds (w : World) (lo B : Nat) (ps : List (Co × Value)) (cs : List Co) : Prop where
  pu : Pu w lo B ps
  rise : RiseC cs
  mem : ∀ c, c ∈ cs ↔ c ∈ ps.map (·.1)
  good : ∀ c ∈ cs, c.l.length ≤ 1048576
  few : cs.length ≤ 500
theorem Holds.len {w : World} {lo B : Nat} {ps : List (Co × Value)} {cs : List Co} (h : Holds w lo B ps cs) : ps.length = cs.length := len_mem h.pu.refs h.rise h.mem
theorem Holds.below {w w' : World} {lo B : Nat} {ps : List (Co × Value)} {cs : List Co} (h : Holds w lo B ps cs) (hb : Below w.heap.size w w') : Holds w' lo B ps cs := ⟨h.pu.below hb, h.rise, h.mem, h.good, h.few⟩

end Go.Proofs.YtagokfoimokniaaGreatDoor
