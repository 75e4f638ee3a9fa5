/- SupplyTo: the program's, the specification's, and the law's walk. -/
import Derived.Test.YtlacmcedpphphaaDoorFb
namespace Go.Proofs.YtlacmcedpphphaaDoor
open Go.RowKit Go.Maps Go.WideMaps

theorem fieldInt (a b : Value) (W : World) : (Instr.field 38 (.agg #[a, b]) 1).run Tryd.prog W = .ok b W := by
  kernel_rfl

end Go.Proofs.YtlacmcedpphphaaDoor
