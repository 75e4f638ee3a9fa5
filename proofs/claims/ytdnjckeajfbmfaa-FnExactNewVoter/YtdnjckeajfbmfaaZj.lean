/- A result with a voter in a block of its own; what a copy of a voter or of nodes gives to read. -/
import Derived.Test.YtdnjckeajfbmfaaZe
import Derived.Test.YtdnjckeajfbmfaaZh
namespace Go.Proofs.Ytdnjckeajfbmfaa
open Go.RowKit Go.Maps Go.WideMaps

theorem mkv_one {w : World} {f : Nat} {v : Value} {K K1 : Nat} {Q : World → Prop} (hK : K = K1) (h : Calls Try.prog f #[v, .int .i64 ((1 : Nat) : Int)] w fun e w' => e = .returned (.int .i64 (K : Nat)) ∧ Q w') : Calls Try.prog f #[v, .int .i64 1] w fun e w' => e = .returned (.int .i64 (K1 : Nat)) ∧ Q w' := by subst hK; exact h
end Go.Proofs.Ytdnjckeajfbmfaa
