/- A transaction written and read back: no program in it. -/
import Derived.Test.YtgfhnmjpkanikaaJn1
import Derived.Lib.ItoaMem
import Derived.Lib.ItoaNum
import Derived.Laws.BytesArg
import Derived.Deep.RegionWith
import Derived.Test.YtgfhnmjpkanikaaTtX
import Derived.Test.YtgfhnmjpkanikaaCv
import Derived.Test.YtgfhnmjpkanikaaRtT
import Derived.Stop.RegionWithIn
import Derived.Maps.AppendAt
import Derived.RangeFuncWrites
import Derived.Lib.AppendIntMem
import Derived.Lib.Join
import Derived.Test.YtgfhnmjpkanikaaFc
import Derived.Lib.IndexMore
import Derived.Lib.ParseIntBTie
import Derived.Test.YtgfhnmjpkanikaaTtT
import Derived.Test.YtgfhnmjpkanikaaTtU
import Derived.Test.YtgfhnmjpkanikaaJn2
import Derived.Lib.SplitLaws
namespace Go.Proofs.Ytgfhnmjpkanikaa
open Go.RowKit Go.Shelf Go.Maps Go.WideMaps

/-- A transaction's data. -/
structure TxV where
  k : Int
  f : Int
  rs : List (Int × Int)
  os : List Ou

/-! ### What the specification reads -/
/-- A reading that is right and tells just that text. -/
def TxV.fits (x : TxV) (t : List UInt8) : Prop := txR x.k x.f x.rs x.os = 0 ∧ txT x.k x.f x.rs x.os = t ∧ t.length ≤ 300
instance (x : TxV) (t : List UInt8) : Decidable (x.fits t) := by unfold TxV.fits; infer_instance
def kept (o : Option TxV) (t : List UInt8) : Option TxV := match o with
  | some x => if x.fits t then some x else none
  | none => none
/-! ### What the program reads -/
/-! ### Round trips -/
end Go.Proofs.Ytgfhnmjpkanikaa
