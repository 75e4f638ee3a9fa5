/- The specification's SameTxs. Two transactions that differ in their kind. Two transactions that differ in their member. Two transactions that differ in how many refs or outs they have. -/
import Derived.Test.YtglfkjegkoealaaTxW
import Derived.Test.YtglfkjegkoealaaTxS
namespace Go.Proofs.Ytglfkjegkoealaa
open Go.RowKit Go.Maps Go.WideMaps

def sameO (a b : Ou) : Bool := decide (a.v = b.v) && sameR a.l b.l a.x b.x a.y b.y
def allO (n : Nat) (os os' : List Ou) : Bool := (List.range n).all fun j => sameO (os.getD j O0) (os'.getD j O0)
theorem allO_next {n : Nat} {os os' : List Ou} {a b : Ou} (ha : a = os.getD n O0) (hb : b = os'.getD n O0) (h : allO n os os' = true) (h1 : sameO a b = true) : Hid (allO (n + 1) os os' = true) := by
  show _ = _
  unfold allO at *
  rw [List.range_succ, List.all_append, h, Bool.true_and, List.all_cons, List.all_nil, Bool.and_true, ← ha, ← hb]
  exact h1
theorem allO_bad {m n : Nat} {os os' : List Ou} {a b : Ou} (hn : n < m) (ha : a = os.getD n O0) (hb : b = os'.getD n O0) (h1 : sameO a b = false) : allO m os os' = false := by
  unfold allO
  rw [List.all_eq_false]
  exact ⟨n, List.mem_range.2 hn, by rw [← ha, ← hb, h1]; simp⟩

theorem take_sameG {l l' : List (Int × Int)} {n k : Nat} (hn : l.length = n) (hm : l'.length = n) (hlt : k < n) (h : l.take k = l'.take k) {s : Int × Int} (hs : s = l.getD k G0) (ht : s = l'.getD k G0) : Hid (l.take (k + 1) = l'.take (k + 1)) := by
  show _ = _
  have e1 : l[k]? = some s := by rw [hs]; simp [List.getD, show k < l.length by omega]
  have e2 : l'[k]? = some s := by rw [ht]; simp [List.getD, show k < l'.length by omega]
  rw [List.take_add_one, List.take_add_one, h, e1, e2]

def sameT (k f : Int) (n m : Nat) (rs : List (Int × Int)) (os : List Ou) (k' f' : Int) (n' m' : Nat) (rs' : List (Int × Int)) (os' : List Ou) : Bool :=
  if k ≠ k' ∨ f ≠ f' ∨ n ≠ n' ∨ m ≠ m' then false else decide (rs = rs') && allO m os os'

end Go.Proofs.Ytglfkjegkoealaa

namespace Go.Proofs.Ytglfkjegkoealaa
open Go.RowKit Go.Maps Go.WideMaps

set_option maxRecDepth 20000 in
set_option maxHeartbeats 4000000 in
theorem l3Same_k (P Q : Nat) (k k' : Int) (w : World) (p0 : w.cell? ⟨P, 0, none⟩ = some (.int .i64 k)) (q0 : w.cell? ⟨Q, 0, none⟩ = some (.int .i64 k')) (h : ¬ k = k') (hb : (k == k') = false) :
    Calls Try.prog 48 #[.pointer (some ⟨P, 0, none⟩), .pointer (some ⟨Q, 0, none⟩)] w fun e w' => e = .returned (.bool false) ∧ Below w.heap.size w w' := by
  go_enter Try.func48, Try.ntmps48
  have hb2 : (k != k') = true := by simp [bne, hb]
  have hb3 : decide (k = k') = false := by simp [h]
  go_wp2_with fail
  go_quiet (fail)
  go_wp2
  go_ret
  exact ⟨rfl, Joins.below_draws _ _ _⟩

end Go.Proofs.Ytglfkjegkoealaa

namespace Go.Proofs.Ytglfkjegkoealaa
open Go.RowKit Go.Maps Go.WideMaps

set_option maxRecDepth 20000 in
set_option maxHeartbeats 4000000 in
theorem l3Same_f (P Q : Nat) (k f f' : Int) (ia oa ib ob : Option Addr) (n c m d n' c' m' d' : Nat) (w : World) (p0 : w.cell? ⟨P, 0, none⟩ = some (.int .i64 k)) (p1 : w.cell? ⟨P, 1, none⟩ = some (.int .i64 f)) (q0 : w.cell? ⟨Q, 0, none⟩ = some (.int .i64 k)) (q1 : w.cell? ⟨Q, 1, none⟩ = some (.int .i64 f')) (_p2 : w.cell? ⟨P, 2, none⟩ = some (.slice ia n c)) (_q2 : w.cell? ⟨Q, 2, none⟩ = some (.slice ib n' c')) (_p3 : w.cell? ⟨P, 3, none⟩ = some (.slice oa m d)) (_q3 : w.cell? ⟨Q, 3, none⟩ = some (.slice ob m' d')) (h : ¬ f = f') (hb : (f == f') = false) :
    Calls Try.prog 48 #[.pointer (some ⟨P, 0, none⟩), .pointer (some ⟨Q, 0, none⟩)] w fun e w' => e = .returned (.bool false) ∧ Below w.heap.size w w' := by
  go_enter Try.func48, Try.ntmps48
  have hb2 : (f != f') = true := by simp [bne, hb]
  have hb3 : decide (f = f') = false := by simp [h]
  clear h hb
  go_wp2_with fail
  go_quiet (fail)
  go_wp2
  go_ret
  exact ⟨rfl, Joins.below_draws _ _ _⟩

end Go.Proofs.Ytglfkjegkoealaa

namespace Go.Proofs.Ytglfkjegkoealaa
open Go.RowKit Go.Maps Go.WideMaps

set_option maxRecDepth 20000 in
set_option maxHeartbeats 4000000 in
theorem l3Same_n (P Q : Nat) (k f : Int) (ia ib : Option Addr) (n c n' c' : Nat) (w : World) (p0 : w.cell? ⟨P, 0, none⟩ = some (.int .i64 k)) (p1 : w.cell? ⟨P, 1, none⟩ = some (.int .i64 f)) (p2 : w.cell? ⟨P, 2, none⟩ = some (.slice ia n c)) (q0 : w.cell? ⟨Q, 0, none⟩ = some (.int .i64 k)) (q1 : w.cell? ⟨Q, 1, none⟩ = some (.int .i64 f)) (q2 : w.cell? ⟨Q, 2, none⟩ = some (.slice ib n' c')) (h : ¬ (n : Int) = (n' : Int)) (_hb : ((n : Int) == (n' : Int)) = false) :
    Calls Try.prog 48 #[.pointer (some ⟨P, 0, none⟩), .pointer (some ⟨Q, 0, none⟩)] w fun e w' => e = .returned (.bool false) ∧ Below w.heap.size w w' := by
  go_enter Try.func48, Try.ntmps48
  go_wp2
  go_quiet (fail)
  go_wp2
  go_ret
  exact ⟨rfl, Joins.below_draws _ _ _⟩

set_option maxRecDepth 20000 in
set_option maxHeartbeats 4000000 in
theorem l3Same_m (P Q : Nat) (k f : Int) (ia oa ib ob : Option Addr) (n c m d c' m' d' : Nat) (w : World) (p0 : w.cell? ⟨P, 0, none⟩ = some (.int .i64 k)) (p1 : w.cell? ⟨P, 1, none⟩ = some (.int .i64 f)) (p2 : w.cell? ⟨P, 2, none⟩ = some (.slice ia n c)) (p3 : w.cell? ⟨P, 3, none⟩ = some (.slice oa m d)) (q0 : w.cell? ⟨Q, 0, none⟩ = some (.int .i64 k)) (q1 : w.cell? ⟨Q, 1, none⟩ = some (.int .i64 f)) (q2 : w.cell? ⟨Q, 2, none⟩ = some (.slice ib n c')) (q3 : w.cell? ⟨Q, 3, none⟩ = some (.slice ob m' d')) (_h : ¬ (m : Int) = (m' : Int)) (hb : ((m : Int) == (m' : Int)) = false) :
    Calls Try.prog 48 #[.pointer (some ⟨P, 0, none⟩), .pointer (some ⟨Q, 0, none⟩)] w fun e w' => e = .returned (.bool false) ∧ Below w.heap.size w w' := by
  go_enter Try.func48, Try.ntmps48
  go_wp2
  go_quiet (fail)
  go_wp2
  go_ret
  exact ⟨rfl, Joins.below_draws _ _ _⟩

end Go.Proofs.Ytglfkjegkoealaa
