/- The program's and the specification's MemberOf. -/
import Derived.Test.YtglpbkicmpmepaaEe
import Derived.Test.YtglpbkicmpmepaaTxA
import Derived.Test.YtglpbkicmpmepaaTxS
import Derived.Test.YtglpbkicmpmepaaITx
namespace Go.Proofs.Ytglpbkicmpmepaa
open Go.RowKit Go.Maps Go.WideMaps

/-- Where the specification finds a key. -/
def AtK (ms : List Mb) (n : Nat) (key : Int) (i : Int) : Prop := (i = -1 ∧ ∀ t, t < n → (ms.getD t Z3).1 ≠ key) ∨ ∃ k : Nat, k < n ∧ i = k ∧ (∀ t, t < k → (ms.getD t Z3).1 ≠ key) ∧ (ms.getD k Z3).1 = key

end Go.Proofs.Ytglpbkicmpmepaa
