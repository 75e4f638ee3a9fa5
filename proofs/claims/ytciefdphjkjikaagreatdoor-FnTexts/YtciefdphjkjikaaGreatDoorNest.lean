/- An iterator that itself ranges over an iterator: those keys of a rule that signed are told one by one, and counted. -/
import Derived.RangeFuncNested
import Derived.RangeFuncWrites
import Derived.Test.YtciefdphjkjikaaGreatDoorJn1
namespace Go.Proofs.YtciefdphjkjikaaGreatDoor
open Go.RowKit Go.Shelf Go.Maps Go.WideMaps
attribute [local go_sem] Oper.semAt_some

theorem round_any {n m l f : Nat} {tmps : Array Value} {assign body : Code} {w : World} {R : Ending → World → Prop} (h : RoundIn Fence.wide n Tryz.prog l f tmps assign body w R) : RoundIn Fence.wide m Tryz.prog l f tmps assign body w R :=
  ⟨trivial, fun c cs _ => h.2 c cs (fun d hd => by cases hd)⟩

end Go.Proofs.YtciefdphjkjikaaGreatDoor
