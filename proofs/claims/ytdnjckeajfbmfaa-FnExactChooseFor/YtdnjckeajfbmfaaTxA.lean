/- Refs that come in: their size is told, they are copied, two lists are compared. Outs that come in: their size is told, they are copied, two lists are compared. Outs and transactions that come in are copied into new memory. Lists of outs that come in are copied into new memory. Transactions that come in: two are compared, their size is told, they are copied. Transactions that come in are copied into new memory. -/
import Derived.Test.YtdnjckeajfbmfaaRu
import Derived.Test.YtdnjckeajfbmfaaMk
import Derived.Test.YtdnjckeajfbmfaaIdOf
import Derived.Deep.RegionLaw
namespace Go.Proofs.Ytdnjckeajfbmfaa
open Go.RowKit Go.Maps

theorem toRef_any (a b : Int) (w : World) : Calls Try.prog 25 #[.agg #[.int .i64 a, .int .i64 b]] w fun e w' => e = .returned (.agg #[.int .i64 a, .int .i64 b]) ∧ Below w.heap.size w w' := by
  go_enter Try.func25, Try.ntmps25
  go_wp2
  refine bodyPost_ret (v := .agg #[.int .i64 a, .int .i64 b]) (by simp [results, Try.results25, go_sem]) rfl ⟨rfl, ?_⟩
  exact (((Below.refl _ _).alloc (Nat.le_refl _) _).alloc (by simp) _).alloc (by simp; omega) _

theorem eqRef_any (a b : Int) (w : World) : Calls Try.prog 55 #[.agg #[.int .i64 a, .int .i64 b], .agg #[.int .i64 a, .int .i64 b]] w fun e w' => e = .returned (.bool true) ∧ Below w.heap.size w w' := by
  go_enter Try.func55, Try.ntmps55
  go_wp2
  go_ret
  exact ⟨rfl, ((Below.refl _ _).alloc (Nat.le_refl _) _).alloc (by simp) _⟩

end Go.Proofs.Ytdnjckeajfbmfaa

namespace Go.Proofs.Ytdnjckeajfbmfaa
open Go.RowKit Go.Maps

end Go.Proofs.Ytdnjckeajfbmfaa

namespace Go.Proofs.Ytdnjckeajfbmfaa
open Go.RowKit Go.Maps Go.WideMaps

end Go.Proofs.Ytdnjckeajfbmfaa

namespace Go.Proofs.Ytdnjckeajfbmfaa
open Go.RowKit Go.Maps Go.WideMaps

end Go.Proofs.Ytdnjckeajfbmfaa

namespace Go.Proofs.Ytdnjckeajfbmfaa
open Go.RowKit Go.Maps Go.WideMaps

end Go.Proofs.Ytdnjckeajfbmfaa

namespace Go.Proofs.Ytdnjckeajfbmfaa
open Go.RowKit Go.Maps Go.WideMaps


end Go.Proofs.Ytdnjckeajfbmfaa
