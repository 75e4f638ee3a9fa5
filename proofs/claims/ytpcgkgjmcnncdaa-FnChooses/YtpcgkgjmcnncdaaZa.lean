/- Choices and voters that come in: their size is told, they are copied into new memory, two are compared. -/
import Derived.Test.YtpcgkgjmcnncdaaEa
namespace Go.Proofs.Ytpcgkgjmcnncdaa
open Go.RowKit Go.Maps Go.WideMaps

theorem Try.infoCho : (Try.prog.info? 44).map (fun i => (i.zero, i.size, i.bytes)) = some (some (.agg #[.int .i64 0, .int .i64 0, .int .i64 0]), 3, 24) := by kernel_rfl

end Go.Proofs.Ytpcgkgjmcnncdaa
