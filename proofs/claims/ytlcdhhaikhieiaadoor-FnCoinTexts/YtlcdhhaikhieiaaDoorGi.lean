/- The program's readBlock keeps its contract. -/
import Derived.Test.YtlcdhhaikhieiaaDoorGd
import Derived.Test.YtlcdhhaikhieiaaDoorX3
import Derived.Scope
import Derived.WalkMore
import Derived.Deep.DeepCutAuto
namespace Go.Proofs.YtlcdhhaikhieiaaDoor
open Go.RowKit Go.Shelf Go.Maps Go.WideMaps

/-- An append in a region that draws its order, out of its own run. -/
theorem step_append_runD {P : Program} {w : World} {ops : Array Oper} {o : Oper} {a : Act} {K : Act → World → Prop} {Q : Exit → Act → World → Prop} {E : Prop} (hgd : o.guard = none) (s x : Operand) (t : TypeId)
    (ho : o.op = .call { callee := .builtin .append, args := #[s, x], argTypes := #[t, t] }) {v u v' : Value} {w' : World} (hs : a.eval s = v) (hx : a.eval x = u) (hrun : (Builtin.append_ #[t, t] o.type #[v, u]).run P w = .ok v' w') (h : K (a.put o.dst v') w') :
    if Region.wanted o (yielded ops a.tmps) = true then Oper.wp P o a w K Q else E := by
  have hw : Region.wanted o (yielded ops a.tmps) = true := by simp [Region.wanted, hgd]
  rw [if_pos hw]
  unfold Oper.wp
  simp [execOp, ho, resolve, invoke, builtin, hs, hx, hrun, Result.andThen]
  exact h
end Go.Proofs.YtlcdhhaikhieiaaDoor
