/- Nodes that come in: their size is told, they are copied into new memory, two lists are compared. -/
import Derived.Test.YtinlhghlmfcbfaaEa
namespace Go.Proofs.Ytinlhghlmfcbfaa
open Go.RowKit Go.Maps Go.WideMaps

theorem Try.infoNd : (Try.prog.info? 40).map (fun i => (i.zero, i.size, i.bytes)) = some (some (.agg #[.int .i64 0, .int .i64 0, .int .i64 0]), 3, 24) := by kernel_rfl

end Go.Proofs.Ytinlhghlmfcbfaa
