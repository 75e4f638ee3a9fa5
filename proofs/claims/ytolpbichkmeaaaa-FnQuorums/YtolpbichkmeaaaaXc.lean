/- Quorums that come in: their size is told, they are copied into new memory, two are compared; what keeps a quorum from being one: the specification's code and the program's. -/
import Derived.Test.YtolpbichkmeaaaaXa
import Derived.Test.YtolpbichkmeaaaaXb
namespace Go.Proofs.Ytolpbichkmeaaaa
open Go.RowKit Go.Shelf Go.Maps Go.WideMaps


def quoR (l : List Int) (x : Int) : Int :=
  if inB l.length 1 8 = false then 2 else if allK l = false ∨ inB x 1 l.length = false then 3 else if riseB 0 l = false then 1 else 0

section
variable {l : List Int} {x : Int} {n : Nat}
theorem quoR_many (hn : l.length = n) (h : inB n 1 8 = false) : quoR l x = 2 := by unfold quoR; rw [hn, if_pos h]
theorem quoR_range (hn : l.length = n) (h : inB n 1 8 = true) (h2 : allK l = false ∨ inB x 1 n = false) : quoR l x = 3 := by unfold quoR; rw [hn, if_neg (by simp [h]), if_pos h2]
theorem quoR_form (hn : l.length = n) (h : inB n 1 8 = true) (h1 : allK l = true) (h2 : inB x 1 n = true) (h4 : riseB 0 l = false) : quoR l x = 1 := by unfold quoR; rw [hn, if_neg (by simp [h]), if_neg (by simp [h1, h2]), if_pos h4]
theorem quoR_ok (hn : l.length = n) (h : inB n 1 8 = true) (h1 : allK l = true) (h2 : inB x 1 n = true) (h4 : riseB 0 l = true) : quoR l x = 0 := by unfold quoR; rw [hn, if_neg (by simp [h]), if_neg (by simp [h1, h2]), if_neg (by simp [h4])]
end

/-- A quorum in a block of its own, all old memory below as it was. -/
structure QBx (w v : World) (a : Option Addr) (n cap : Nat) (x : Int) (t : TypeId) : Prop where
  box : v.heap[w.heap.size]? = some (.cells #[.slice a n cap, .int .i64 x] t (0, 0))
  bel : Below w.heap.size w v
section
variable {w v v' : World} {a : Option Addr} {n cap : Nat} {x : Int} {t : TypeId} {l : List Int}
theorem QBx.start : QBx w (w.alloc (.cells #[.slice a n cap, .int .i64 x] t)) a n cap x t := ⟨heap_alloc_new _ _, below_box _⟩
theorem QBx.step (h : QBx w v a n cap x t) (hb : Below v.heap.size v v') : QBx w v' a n cap x t := ⟨(keepb h.box hb).out, h.bel.trans (hb.mono h.bel.size)⟩
theorem QBx.lt (h : QBx w v a n cap x t) : w.heap.size < v.heap.size := lt_of_block h.box
end

theorem quSize_any (a : Option Addr) (n cap : Nat) (x : Int) (w : World) :
    Calls Try.prog 41 #[.agg #[.slice a n cap, .int .i64 x]] w fun e w' => e = .returned (.int .i64 n) ∧ w' = w.alloc (.cells #[.slice a n cap, .int .i64 x] 28) := by
  go_enter Try.func41, Try.ntmps41
  go_wp2
  go_ret
  exact ⟨rfl, rfl⟩

end Go.Proofs.Ytolpbichkmeaaaa
