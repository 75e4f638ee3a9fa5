/- What a voter answers that votes, for a block and for a coin: the vote, and the voter with choices of its own. -/
import Derived.Test.YtdnjckeajfbmfaaZc
import Derived.Test.YtdnjckeajfbmfaaTxA
import Derived.Test.YtdnjckeajfbmfaaRu
import Derived.Test.YtdnjckeajfbmfaaOp
import Derived.Deep.Slices
import Derived.Test.YtdnjckeajfbmfaaEe
import Derived.Test.YtdnjckeajfbmfaaEa
import Derived.Lib.QuietBelow
import Derived.BigRegion
import Derived.Test.YtdnjckeajfbmfaaZe
import Derived.Deep.DeepCutAuto
import Derived.Deep.RegionHeld3
namespace Go.Proofs.Ytdnjckeajfbmfaa
open Go.RowKit Go.Maps Go.WideMaps

/-- A result with a voter: its choices lie in new memory. -/
def OutVr (w w' : World) (e : Ending) (r : Vr) : Prop :=
  ∃ va vc, e = .returned (.agg #[.int .i64 r.c, .int .i64 r.v.k, .int .i64 r.v.d, .int .i64 r.v.b, .int .i64 r.v.p, .int .i64 r.v.q, .int .i64 r.v.t, .int .i64 r.k, .int .i64 r.l, .slice va r.ms.length vc]) ∧ w'.ownsRow w.heap.size 80 3 (.slice va r.ms.length vc) r.ms.length (mcells r.ms) ∧ Below w.heap.size w w'
end Go.Proofs.Ytdnjckeajfbmfaa
