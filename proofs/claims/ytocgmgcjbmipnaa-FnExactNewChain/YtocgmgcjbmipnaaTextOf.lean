/- What TextOf and HasSign answer: the specification's and the program's. -/
import Derived.Test.YtocgmgcjbmipnaaIdOf
namespace Go.Proofs.Ytocgmgcjbmipnaa
open Go.RowKit Go.Maps Go.WideMaps

theorem flt_le {ss : List ByteArray} {gs : List (Int × Int)} (h : 0 = flt ss gs) : ss.length ≤ 60 ∧ gs.length ≤ 120 := by
  by_cases hb : 60 < ss.length ∨ 120 < gs.length
  · rw [flt_many rfl rfl hb] at h; omega
  · omega

end Go.Proofs.Ytocgmgcjbmipnaa
