/- Two lists of coins: the specification holds them against each other. -/
import Derived.Test.YthjolannlefbcaaGreatDoorJn2
import Derived.Test.YthjolannlefbcaaGreatDoorTxX
import Derived.Test.YthjolannlefbcaaGreatDoorSr
namespace Go.Proofs.YthjolannlefbcaaGreatDoor
open Go.RowKit Go.Maps Go.WideMaps

def sameC (a b : Co) : Bool := decide (a.p = b.p) && (decide (a.q = b.q) && (decide (a.h = b.h) && ((a.m == b.m) && (decide (a.v = b.v) && sameR a.l b.l a.x b.x a.y b.y))))
def allC (n : Nat) (cs cs' : List Co) : Bool := (List.range n).all fun j => sameC (cs.getD j C0) (cs'.getD j C0)
theorem allC_next {n : Nat} {cs cs' : List Co} {a b : Co} (ha : a = cs.getD n C0) (hb : b = cs'.getD n C0) (h : allC n cs cs' = true) (h1 : sameC a b = true) : Hid (allC (n + 1) cs cs' = true) := by
  show _ = _
  unfold allC at *
  rw [List.range_succ, List.all_append, h, Bool.true_and, List.all_cons, List.all_nil, Bool.and_true, ← ha, ← hb]
  exact h1
theorem allC_bad {m n : Nat} {cs cs' : List Co} {a b : Co} (hn : n < m) (ha : a = cs.getD n C0) (hb : b = cs'.getD n C0) (h1 : sameC a b = false) : allC m cs cs' = false := by
  unfold allC
  rw [List.all_eq_false]
  exact ⟨n, List.mem_range.2 hn, by rw [← ha, ← hb, h1]; simp⟩
def sameCs (cs cs' : List Co) : Bool := decide (cs.length = cs'.length) && allC cs.length cs cs'

end Go.Proofs.YthjolannlefbcaaGreatDoor
