/- The specification's SameTxs. Two transactions that differ in their kind. Two transactions that differ in their member. Two transactions that differ in how many refs or outs they have. -/
import Derived.Test.YtciefdphjkjikaaGreatDoorJn1
import Derived.Test.YtciefdphjkjikaaGreatDoorSr
import Derived.Test.YtciefdphjkjikaaGreatDoorJn2
namespace Go.Proofs.YtciefdphjkjikaaGreatDoor
open Go.RowKit Go.Maps Go.WideMaps

def sameO (a b : Ou) : Bool := decide (a.v = b.v) && sameR a.l b.l a.x b.x a.y b.y
def allO (n : Nat) (os os' : List Ou) : Bool := (List.range n).all fun j => sameO (os.getD j O0) (os'.getD j O0)
theorem allO_next {n : Nat} {os os' : List Ou} {a b : Ou} (ha : a = os.getD n O0) (hb : b = os'.getD n O0) (h : allO n os os' = true) (h1 : sameO a b = true) : Hid (allO (n + 1) os os' = true) := by
  show _ = _
  unfold allO at *
  rw [List.range_succ, List.all_append, h, Bool.true_and, List.all_cons, List.all_nil, Bool.and_true, ← ha, ← hb]
  exact h1
theorem allO_bad {m n : Nat} {os os' : List Ou} {a b : Ou} (hn : n < m) (ha : a = os.getD n O0) (hb : b = os'.getD n O0) (h1 : sameO a b = false) : allO m os os' = false := by
  unfold allO
  rw [List.all_eq_false]
  exact ⟨n, List.mem_range.2 hn, by rw [← ha, ← hb, h1]; simp⟩

theorem take_sameG {l l' : List (Int × Int)} {n k : Nat} (hn : l.length = n) (hm : l'.length = n) (hlt : k < n) (h : l.take k = l'.take k) {s : Int × Int} (hs : s = l.getD k G0) (ht : s = l'.getD k G0) : Hid (l.take (k + 1) = l'.take (k + 1)) := by
  show _ = _
  have e1 : l[k]? = some s := by rw [hs]; simp [List.getD, show k < l.length by omega]
  have e2 : l'[k]? = some s := by rw [ht]; simp [List.getD, show k < l'.length by omega]
  rw [List.take_add_one, List.take_add_one, h, e1, e2]

def sameT (k f : Int) (n m : Nat) (rs : List (Int × Int)) (os : List Ou) (k' f' : Int) (n' m' : Nat) (rs' : List (Int × Int)) (os' : List Ou) : Bool :=
  if k ≠ k' ∨ f ≠ f' ∨ n ≠ n' ∨ m ≠ m' then false else decide (rs = rs') && allO m os os'

end Go.Proofs.YtciefdphjkjikaaGreatDoor

namespace Go.Proofs.YtciefdphjkjikaaGreatDoor
open Go.RowKit Go.Maps Go.WideMaps

end Go.Proofs.YtciefdphjkjikaaGreatDoor

namespace Go.Proofs.YtciefdphjkjikaaGreatDoor
open Go.RowKit Go.Maps Go.WideMaps

end Go.Proofs.YtciefdphjkjikaaGreatDoor

namespace Go.Proofs.YtciefdphjkjikaaGreatDoor
open Go.RowKit Go.Maps Go.WideMaps

end Go.Proofs.YtciefdphjkjikaaGreatDoor
