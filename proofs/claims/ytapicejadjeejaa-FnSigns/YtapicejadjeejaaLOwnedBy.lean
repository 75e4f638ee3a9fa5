/- What a key alone can spend: among keys, the specification's sum and the program's; OwnedBy. -/
import Derived.Test.YtapicejadjeejaaRu
import Derived.Test.YtapicejadjeejaaCp
import Derived.Test.YtapicejadjeejaaOp
import Derived.Deep.Slices
import Derived.Test.YtapicejadjeejaaIdOf
namespace Go.Proofs.Ytapicejadjeejaa
open Go.RowKit Go.Maps Go.WideMaps

theorem mem_take_next {l : List Int} {n k : Nat} {s v : Int} (hn : l.length = n) (hlt : k < n) (hs : s = l.getD k 0) (h : v ∉ l.take k) (hv : ¬ s = v) : v ∉ l.take (k + 1) := by
  rw [take_next hn hlt hs, List.mem_append]
  rintro (h' | h')
  · exact h h'
  · exact hv (List.mem_singleton.1 h').symm
theorem mem_hit {l : List Int} {n k : Nat} {s v : Int} (hn : l.length = n) (hlt : k < n) (hs : s = l.getD k 0) (hv : s = v) : v ∈ l := by
  rw [← hv, hs]
  have e : l.getD k 0 = l[k]'(by omega) := by simp [List.getD, List.getElem?_eq_getElem (show k < l.length by omega)]
  rw [e]; exact List.getElem_mem _

def hasK (l : List Int) (v : Int) : Bool := decide (v ∈ l)
theorem hasK_yes {l : List Int} {v : Int} (h : v ∈ l) : hasK l v = true := decide_eq_true h
theorem hasK_no {l : List Int} {v : Int} (h : v ∉ l) : hasK l v = false := decide_eq_false h

end Go.Proofs.Ytapicejadjeejaa
