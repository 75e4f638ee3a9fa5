/- The program's bench: who is deleted. -/
import Derived.Test.YtmnahhojfcigmaaEe
import Derived.Test.YtmnahhojfcigmaaTxA
import Derived.Test.YtmnahhojfcigmaaRu
import Derived.Test.YtmnahhojfcigmaaOpR
import Derived.Deep.Slices
import Derived.Laws.IdiomCopy
import Derived.Deep.DeepAppendRoom
namespace Go.Proofs.Ytmnahhojfcigmaa
open Go.RowKit Go.Maps Go.WideMaps

theorem wpList_clear_run {P : Program} {w : World} {ops : Array Oper} {rest : List Oper} {o : Oper} {a : Act} {Q : Exit → Act → World → Prop} (hgd : o.guard = none) (s : Operand) (t : TypeId)
    (hop : o.op = .call { callee := .builtin .clear, args := #[s], argTypes := #[t] }) {v v' : Value} {w' : World} (hs : a.eval s = v) (hrun : (Builtin.clear_ #[t] o.type #[v]).run P w = .ok v' w') (h : wpList P ops Q rest (a.put o.dst v') w') :
    wpList P ops Q (o :: rest) a w :=
  wpList_plain hgd fun _ hK => by
    unfold Oper.wp
    simp [execOp, hop, resolve, invoke, builtin, hs, hrun, Result.andThen]
    exact hK _ _ h
end Go.Proofs.Ytmnahhojfcigmaa
