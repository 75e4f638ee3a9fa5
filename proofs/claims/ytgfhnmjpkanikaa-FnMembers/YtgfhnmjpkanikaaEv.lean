/- A transaction of the call's own: its refs' row and its outs; marks are written into it. -/
import Derived.Test.YtgfhnmjpkanikaaDx
import Derived.Test.YtgfhnmjpkanikaaJn2
import Derived.Test.YtgfhnmjpkanikaaJn1
namespace Go.Proofs.Ytgfhnmjpkanikaa
open Go.RowKit Go.Maps Go.WideMaps

section
variable {w w' : World} {lo mid hi n m g0 c0 g1 c1 : Nat} {rs : List (Int × Int)} {os : List Ou} {kv : Nat → Value}
theorem Chg.wide {lo' hi' : Nat} (h : Chg w w' lo hi) (h1 : lo' ≤ lo) (h2 : hi ≤ hi') : Chg w w' lo' hi' := ⟨h.os, h.tape, h.output, h.size, fun b hb hd => h.block b hb (by omega)⟩
end

end Go.Proofs.Ytgfhnmjpkanikaa
