/- The specification's TakeCoins. -/
import Derived.Test.YtjgilpkkfpbefaaGreatDoorJn5
import Derived.Test.YtjgilpkkfpbefaaGreatDoorCz
import Derived.Test.YtjgilpkkfpbefaaGreatDoorJn3
namespace Go.Proofs.YtjgilpkkfpbefaaGreatDoor
open Go.RowKit Go.Maps Go.WideMaps

theorem own_at2 {w : World} {lo hi n : Nat} {a : Option Addr} {c : Nat} {cs : List Co} {kv : Nat → Value} (h : COwn w lo hi (.slice a n c) n (fun j => cs.getD j C0) kv) (hn : cs.length = n) (hl : ∀ j, j < n → (cs.getD j C0).l.length ≤ 1048576) : CAt w a n cs := by
  obtain ⟨a', c', e, h2⟩ := h.at hn (fun j _ => rfl) hl
  cases e
  exact h2

end Go.Proofs.YtjgilpkkfpbefaaGreatDoor
