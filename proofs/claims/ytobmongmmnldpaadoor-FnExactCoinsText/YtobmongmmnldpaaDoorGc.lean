/- Numbers and blocks, written and read back: no program in it. -/
import Derived.Test.YtobmongmmnldpaaDoorRtS
import Derived.Test.YtobmongmmnldpaaDoorTtX
import Derived.Test.YtobmongmmnldpaaDoorCnB
import Derived.Test.YtobmongmmnldpaaDoorIdOf
import Derived.OneCell
import Derived.Test.YtobmongmmnldpaaDoorCnC
import Derived.Maps.OwnSet
import Derived.Maps.Range
import Derived.Test.YtobmongmmnldpaaDoorGb
import Derived.Test.YtobmongmmnldpaaDoorRtI
import Derived.Test.YtobmongmmnldpaaDoorFc
namespace Go.Proofs.YtobmongmmnldpaaDoor
open Go.RowKit Go.Shelf Go.Maps Go.WideMaps

theorem dgt_toNat {u : Nat} (h : u < 10) : (UInt8.ofNat (48 + u)).toNat = 48 + u := by
  simp [UInt8.toNat_ofNat']; omega
theorem dgt_is {u : Nat} (h : u < 10) : isDg (UInt8.ofNat (48 + u)) = true := by
  unfold isDg; rw [dgt_toNat h]; simp; omega
theorem digs_all (u : Nat) : (Lib.decDigits u).all isDg = true := by
  induction u using Nat.strongRecOn with
  | _ u ih =>
    rw [Lib.decDigits]
    by_cases h : u < 10
    · rw [dif_pos h, List.all_cons, dgt_is h]; rfl
    · rw [dif_neg h, List.all_append, ih (u / 10) (by omega)]
      rw [List.all_cons, dgt_is (show u % 10 < 10 by omega)]; rfl
theorem dec_dg (v : Int) : ∀ b ∈ dec v, 48 ≤ b.toNat ∧ b.toNat ≤ 57 := fun b hb => dg_le (List.all_eq_true.1 (digs_all v.toNat) b hb)
theorem not_dec {c : UInt8} (hc : c.toNat < 48) (v : Int) : c ∉ dec v := fun h => by have := dec_dg v c h; omega
end Go.Proofs.YtobmongmmnldpaaDoor
