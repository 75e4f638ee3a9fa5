/- The program's fault of a ledger is the specification's, and the law that asks it answers true. -/
import Derived.Test.YtfoidaljamjpgaaTw
import Derived.Test.YtfoidaljamjpgaaSp
import Derived.Test.YtfoidaljamjpgaaLw
namespace Go.Proofs.Ytfoidaljamjpgaa
open Go.RowKit Go.Maps Go.WideMaps

/-- What the lists hold are values of Go: texts no longer than a length is, numbers of 64 bits. -/
structure Fine (ss : List ByteArray) (gs : List (Int × Int)) : Prop where
  s : ∀ j, (ss.getD j E0).size ≤ maxLen
  g : ∀ j, (Lit.int .i64 (gs.getD j G0).1).wf = true ∧ (Lit.int .i64 (gs.getD j G0).2).wf = true


end Go.Proofs.Ytfoidaljamjpgaa
