/- A ledger that comes in as a law's argument, read as data, gives its texts and its signatures. The law on TxFault answers true, whatever transaction comes in, and writes nothing that was there: where the program's TxFault keeps its contract. -/
import Derived.Test.YtohhdeecdikopaaGreatDoorRows
import Derived.Test.YtohhdeecdikopaaGreatDoorJn1
import Derived.ProofKit
import Derived.OpenShut
import Derived.ShutString
import Derived.ChangeOld
import Derived.SliceStrings
import Derived.Deep.SlicePairs
import Derived.Test.YtohhdeecdikopaaGreatDoorJn2
import Derived.Deep.Slices
namespace Go.Proofs.YtohhdeecdikopaaGreatDoor
open Go.ChangeShapes Go.WideShapes Go.ChangeAt Go.RowKit Go.Joins Go.Deep
open Go.ChangeMaps (open_string shut_string)

theorem Tryz.own : ownKnob Tryz.prog.godebug = none := by kernel_rfl

end Go.Proofs.YtohhdeecdikopaaGreatDoor

namespace Go.Proofs.YtohhdeecdikopaaGreatDoor
open Go.RowKit Go.Maps Go.WideMaps

/-- A transaction in a block of its own, all old memory below as it was. -/
structure TBx (w v : World) (k f : Int) (ia : Option Addr) (n c : Nat) (oa : Option Addr) (m d : Nat) (t : TypeId) : Prop where
  box : v.heap[w.heap.size]? = some (.cells #[.int .i64 k, .int .i64 f, .slice ia n c, .slice oa m d] t (0, 0))
  bel : Below w.heap.size w v
section
variable {w v v' : World} {k f : Int} {ia oa : Option Addr} {n c m d : Nat} {t : TypeId} {rs : List (Int × Int)} {os : List Ou}
theorem TBx.start : TBx w (w.alloc (.cells #[.int .i64 k, .int .i64 f, .slice ia n c, .slice oa m d] t)) k f ia n c oa m d t := ⟨heap_alloc_new _ _, below_box _⟩
theorem TBx.step (h : TBx w v k f ia n c oa m d t) (hb : Below v.heap.size v v') : TBx w v' k f ia n c oa m d t := ⟨(keepb h.box hb).out, h.bel.trans (hb.mono h.bel.size)⟩
theorem TBx.at (h : TBx w v k f ia n c oa m d t) (hI : TxAt w ia n oa m rs os) : TxAt v ia n oa m rs os := hI.below h.bel (Nat.le_refl _)
theorem TBx.lt (h : TBx w v k f ia n c oa m d t) : w.heap.size < v.heap.size := lt_of_block h.box
end
end Go.Proofs.YtohhdeecdikopaaGreatDoor
