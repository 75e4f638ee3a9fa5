/- Is a rule met: the specification's way and the program's. -/
import Derived.Test.YtagokfoimokniaaGreatDoorNes2
import Derived.Test.YtagokfoimokniaaGreatDoorNes3
import Derived.Test.YtagokfoimokniaaGreatDoorHasSign
import Derived.Test.YtagokfoimokniaaGreatDoorJn1
namespace Go.Proofs.YtagokfoimokniaaGreatDoor
open Go.RowKit Go.Shelf Go.Maps Go.WideMaps

def cntK (l : List Int) (gs : List (Int × Int)) (id : Int) : Nat := (l.filter fun k => memB gs (k, id)).length
theorem cntK_next {l : List Int} {n k : Nat} (hn : l.length = n) (hlt : k < n) {s : Int} (hs : s = l.getD k 0) (gs : List (Int × Int)) (id : Int) : cntK (l.take (k + 1)) gs id = cntK (l.take k) gs id + (if memB gs (s, id) = true then 1 else 0) := by
  unfold cntK
  rw [take_next hn hlt hs, List.filter_append, List.length_append]
  congr 1
  by_cases h : memB gs (s, id) = true
  · simp [h]
  · simp [h]

def metR (ss : List ByteArray) (gs : List (Int × Int)) (l : List Int) (x y id h : Int) : Int :=
  if flt ss gs ≠ 0 then flt ss gs else if ruleR l x y ≠ 0 then ruleR l x y else if inB id 1 ss.length = false ∨ inB h 0 999 = false then 3 else if h < y then 9 else if (cntK l gs id : Int) < x then 6 else 0

/-- A ledger and a rule in two blocks, all old memory below as it was. -/
structure LR (w v : World) (tl tr : TypeId) (ta : Option Addr) (n tc : Nat) (ga : Option Addr) (m gc : Nat) (a : Option Addr) (k cap : Nat) (x y : Int) : Prop where
  led : v.heap[w.heap.size]? = some (.cells #[.slice ta n tc, .slice ga m gc] tl (0, 0))
  rul : v.heap[w.heap.size + 1]? = some (.cells #[.slice a k cap, .int .i64 x, .int .i64 y] tr (0, 0))
  bel : Below w.heap.size w v
section
variable {w v v' : World} {tl tr : TypeId} {ta ga a : Option Addr} {n tc m gc k cap : Nat} {x y : Int}
theorem LR.start : LR w ((w.alloc (.cells #[.slice ta n tc, .slice ga m gc] tl)).alloc (.cells #[.slice a k cap, .int .i64 x, .int .i64 y] tr)) tl tr ta n tc ga m gc a k cap x y := ⟨block_at2, heap_alloc_at _ _ _ (by simp), below_box2 _ _⟩
theorem LR.step (h : LR w v tl tr ta n tc ga m gc a k cap x y) (hb : Below v.heap.size v v') : LR w v' tl tr ta n tc ga m gc a k cap x y := ⟨(keepb h.led hb).out, (keepb h.rul hb).out, h.bel.trans (hb.mono h.bel.size)⟩
end

end Go.Proofs.YtagokfoimokniaaGreatDoor
