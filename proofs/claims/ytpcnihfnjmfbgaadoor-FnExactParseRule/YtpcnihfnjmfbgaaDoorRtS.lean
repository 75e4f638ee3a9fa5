/- The specification's text of a rule. -/
import Derived.Test.YtpcnihfnjmfbgaaDoorRu
import Derived.Lib.ItoaMem
import Derived.Lib.ItoaNum
import Derived.Laws.BytesArg
import Derived.Deep.RegionWith
namespace Go.Proofs.YtpcnihfnjmfbgaaDoor
open Go.RowKit Go.Shelf Go.Maps Go.WideMaps

def str (l : List UInt8) : ByteArray := ⟨l.toArray⟩

theorem str_append (a b : List UInt8) : str a ++ str b = str (a ++ b) := by
  apply ByteArray.ext
  simp [str]
theorem digits_len (q : Nat) (h : q ≤ 1000000000) : (Lib.decDigits q).length ≤ 10 := by
  have key : ∀ k q : Nat, q < 10 ^ k → 1 ≤ k → (Lib.decDigits q).length ≤ k := by
    intro k
    induction k with
    | zero => intro q _ h; omega
    | succ k ih =>
      intro q hq _
      rw [Lib.decDigits]
      split
      · simp
      · rw [List.length_append]
        have hk : 1 ≤ k := by
          rcases Nat.eq_zero_or_pos k with rfl | h
          · simp at hq; omega
          · exact h
        have := ih (q / 10) (by rw [Nat.pow_succ] at hq; omega) hk
        simp; omega
  exact key 10 q (by omega) (by omega)

end Go.Proofs.YtpcnihfnjmfbgaaDoor
