/- Results that hold a block: alike, marked, held. -/
import Derived.Test.YtlacmcedpphphaaDoorGj
namespace Go.Proofs.YtlacmcedpphphaaDoor
open Go.RowKit Go.Shelf Go.Maps Go.WideMaps

theorem pbR_len (t : List UInt8) : (pbR t).2.2.2.2.length ≤ 6 := by
  unfold pbR
  by_cases e : (parB t).2 = true
  · rw [if_pos e]; exact (bl_ok (parB_sound e).1).n
  · rw [if_neg e]; simp

end Go.Proofs.YtlacmcedpphphaaDoor
