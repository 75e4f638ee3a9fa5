/- Plain mathematics of the ledger: what a list of texts and a list of signatures answer when they are asked for faults, element by element, and the number of an element in a list. No program is named here. Closed facts of the translation, and what it says that a slice value leads to a list of texts or of signatures. -/
import Derived.Maps.OwnSet
import Derived.Test.YtpcgkgjmcnncdaaProg
import Derived.WalkKit
import Derived.WalkSpells
import Derived.WalkLawsBesides
import Derived.Maps.Own
import Derived.Maps.OwnOps
import Derived.Lib.SmallJoins
namespace Go.Proofs.Ytpcgkgjmcnncdaa


instance : DecidableEq ByteArray := fun a b => decidable_of_iff (a.data = b.data) ⟨fun h => by cases a; cases b; simp_all, fun h => by rw [h]⟩

end Go.Proofs.Ytpcgkgjmcnncdaa

namespace Go.Proofs.Ytpcgkgjmcnncdaa
open Go.RowKit Go.Maps

def inB (v lo hi : Int) : Bool := decide (lo ≤ v ∧ v ≤ hi)

theorem inB_true {v lo hi : Int} : inB v lo hi = true ↔ lo ≤ v ∧ v ≤ hi := by simp [inB]
end Go.Proofs.Ytpcgkgjmcnncdaa
