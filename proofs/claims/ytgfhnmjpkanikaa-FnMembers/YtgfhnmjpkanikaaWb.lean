/- A tree that is drawn right. -/
import Derived.Test.YtgfhnmjpkanikaaLc
import Derived.Test.YtgfhnmjpkanikaaJn1
import Derived.Maps.OwnSet
import Derived.Test.YtgfhnmjpkanikaaCv
import Derived.Test.YtgfhnmjpkanikaaEe
import Derived.Test.YtgfhnmjpkanikaaEh
import Derived.Test.YtgfhnmjpkanikaaEi
import Derived.Test.YtgfhnmjpkanikaaDr
namespace Go.Proofs.Ytgfhnmjpkanikaa
open Go.RowKit Go.Maps Go.WideMaps

theorem l1Chance_any (SB cn cc t : Nat) (ca : Option Addr) (l : List Int) (k : Int) (w v : World) (hk : k ≤ 200) (ht : t ≤ 1000) (hcn : cn ≤ 1048576) (hB : BAt w ca cn l) (h : Src w v SB ca cn cc t) :
    Calls Try.prog 15 #[.pointer (some ⟨SB, 0, none⟩), .int .i64 k] v fun e v' => ∃ r : Bool, e = .returned (.bool r) ∧ Src w v' SB ca cn cc (t + 1) ∧ Chg v v' SB (SB + 1) := by
  have hx := l1Next_any SB cn cc t ca l k w v hk ht hcn hB h
  clear h
  go_enter Try.func15, Try.ntmps15
  go_wp2_with (go_at_call 17; (with_reducible refine hx.mono ?_); clear hx; rintro e v1 ⟨r, rfl, _, hS, hc⟩)
  go_ret
  exact ⟨_, rfl, hS, hc⟩
end Go.Proofs.Ytgfhnmjpkanikaa
