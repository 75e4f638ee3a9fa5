/- A voter is drawn, whatever the bytes are. -/
import Derived.Test.YtmnahhojfcigmaaZh
import Derived.Test.YtmnahhojfcigmaaSignsOf
import Derived.Test.YtmnahhojfcigmaaINt
import Derived.Test.YtmnahhojfcigmaaCp
import Derived.Laws.OwnMore
import Derived.Deep.RegionWith
import Derived.Test.YtmnahhojfcigmaaZj
import Derived.Deep.RegionHeld3
namespace Go.Proofs.Ytmnahhojfcigmaa
open Go.RowKit Go.Maps Go.WideMaps

theorem step_append_runZ {P : Program} {w : World} {ops : Array Oper} {o : Oper} {a : Act} {K : Act → World → Prop} {Q : Exit → Act → World → Prop} {E : Prop} (hgd : o.guard = none) (s x : Operand) (t : TypeId)
    (ho : o.op = .call { callee := .builtin .append, args := #[s, x], argTypes := #[t, t] }) {v u v' : Value} {w' : World} (hs : a.eval s = v) (hx : a.eval x = u) (hrun : (Builtin.append_ #[t, t] o.type #[v, u]).run P w = .ok v' w') (h : K (a.put o.dst v') w') :
    if Region.wanted o (yielded ops a.tmps) = true then Oper.wp P o a w K Q else E := by
  have hw : Region.wanted o (yielded ops a.tmps) = true := by simp [Region.wanted, hgd]
  rw [if_pos hw]
  unfold Oper.wp
  simp [execOp, ho, resolve, invoke, builtin, hs, hx, hrun, Result.andThen]
  exact h
end Go.Proofs.Ytmnahhojfcigmaa
