/- Nodes of numbers, all of them; ForkOf: the program's. -/
import Derived.Test.YtggfkflbohgikaaNf
import Derived.Test.YtggfkflbohgikaaLd
import Derived.WalkMore
import Derived.Test.YtggfkflbohgikaaSignsOf
namespace Go.Proofs.Ytggfkflbohgikaa
open Go.RowKit Go.Maps Go.WideMaps

def blkOf (ms : List Mb) (bs : List Nat) (x : Int) : Nat := bs.getD (nAt ms x).toNat 0
theorem ptr_blk {ms : List Mb} {bs : List Nat} {x : Int} (h : 0 ≤ nAt ms x) : ptrOf ms bs x = .pointer (some ⟨blkOf ms bs x, 0, none⟩) := by unfold ptrOf ptB blkOf; rw [if_neg (by omega)]
end Go.Proofs.Ytggfkflbohgikaa
