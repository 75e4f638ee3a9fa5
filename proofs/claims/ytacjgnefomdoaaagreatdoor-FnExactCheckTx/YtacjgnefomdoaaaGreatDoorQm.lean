/- Does the purse lack a ref; has it just the refs of a transaction? Two transactions that came in, boxed side by side. Is there anything against it that a transaction is taken back? A transaction is taken back in the program's purse. The program's UndoTx keeps its contract. The specification's SpentBy keeps its contract. -/
import Derived.Test.YtacjgnefomdoaaaGreatDoorDk
import Derived.Test.YtacjgnefomdoaaaGreatDoorLTxFault
import Derived.Maps.RangeWalk
import Derived.Test.YtacjgnefomdoaaaGreatDoorITx
import Derived.Test.YtacjgnefomdoaaaGreatDoorTxA
import Derived.Test.YtacjgnefomdoaaaGreatDoorRu
import Derived.Test.YtacjgnefomdoaaaGreatDoorTxS
import Derived.Lib.QuietBelow
import Derived.Test.YtacjgnefomdoaaaGreatDoorQh
namespace Go.Proofs.YtacjgnefomdoaaaGreatDoor
open Go.RowKit Go.Maps Go.WideMaps

theorem ref_mem {rs : List (Int × Int)} {n j : Nat} {o : Int × Int} (hn : rs.length = n) (hlt : j < n) (ho : o = rs.getD j G0) : o ∈ rs := by
  rw [ho, List.getD, List.getElem?_eq_getElem (by omega)]
  exact List.getElem_mem _
theorem all_get {rs : List (Int × Int)} {n : Nat} {f : Int × Int → Bool} (hn : rs.length = n) (h : ∀ t, t < n → f (rs.getD t G0) = true) : rs.all f = true := by
  rw [List.all_eq_true]
  intro x hx
  obtain ⟨t, ht, rfl⟩ := List.getElem_of_mem hx
  have := h t (by omega)
  rw [List.getD, List.getElem?_eq_getElem ht] at this
  exact this
theorem all_not {rs : List (Int × Int)} {n t : Nat} {f : Int × Int → Bool} (hn : rs.length = n) (ht : t < n) (h : f (rs.getD t G0) = false) : rs.all f = false := by
  rw [List.all_eq_false]
  exact ⟨rs.getD t G0, ref_mem hn ht rfl, by rw [h]; exact Bool.false_ne_true⟩
end Go.Proofs.YtacjgnefomdoaaaGreatDoor

namespace Go.Proofs.YtacjgnefomdoaaaGreatDoor
open Go.RowKit Go.Maps Go.WideMaps

structure T2 (w v : World) (k f : Int) (ia : Option Addr) (n c : Nat) (oa : Option Addr) (m d : Nat) (k' f' : Int) (ib : Option Addr) (n' c' : Nat) (ob : Option Addr) (m' d' : Nat) : Prop where
  p : v.heap[w.heap.size]? = some (.cells #[.int .i64 k, .int .i64 f, .slice ia n c, .slice oa m d] 30 (0, 0))
  q : v.heap[w.heap.size + 1]? = some (.cells #[.int .i64 k', .int .i64 f', .slice ib n' c', .slice ob m' d'] 30 (0, 0))
  bel : Below w.heap.size w v
section
variable {w v v' : World} {k f : Int} {ia : Option Addr} {n c : Nat} {oa : Option Addr} {m d : Nat} {k' f' : Int} {ib : Option Addr} {n' c' : Nat} {ob : Option Addr} {m' d' : Nat}
theorem T2.start : T2 w ((w.alloc (.cells #[.int .i64 k, .int .i64 f, .slice ia n c, .slice oa m d] 30)).alloc (.cells #[.int .i64 k', .int .i64 f', .slice ib n' c', .slice ob m' d'] 30)) k f ia n c oa m d k' f' ib n' c' ob m' d' := ⟨block_at2, heap_alloc_at _ _ _ (by simp), below_box2 _ _⟩
theorem T2.step (h : T2 w v k f ia n c oa m d k' f' ib n' c' ob m' d') (hb : Below v.heap.size v v') : T2 w v' k f ia n c oa m d k' f' ib n' c' ob m' d' := ⟨(keepb h.p hb).out, (keepb h.q hb).out, h.bel.trans (hb.mono h.bel.size)⟩
theorem T2.cells (h : T2 w v k f ia n c oa m d k' f' ib n' c' ob m' d') : (v.cell? ⟨w.heap.size, 0, none⟩ = some (.int .i64 k) ∧ v.cell? ⟨w.heap.size, 1, none⟩ = some (.int .i64 f) ∧ v.cell? ⟨w.heap.size, 2, none⟩ = some (.slice ia n c) ∧ v.cell? ⟨w.heap.size, 3, none⟩ = some (.slice oa m d)) ∧ (v.cell? ⟨w.heap.size + 1, 0, none⟩ = some (.int .i64 k') ∧ v.cell? ⟨w.heap.size + 1, 1, none⟩ = some (.int .i64 f') ∧ v.cell? ⟨w.heap.size + 1, 2, none⟩ = some (.slice ib n' c') ∧ v.cell? ⟨w.heap.size + 1, 3, none⟩ = some (.slice ob m' d')) := by
  obtain ⟨a0, a1, a2, a3, _⟩ := cells4 h.p
  obtain ⟨b0, b1, b2, b3, _⟩ := cells4 h.q
  exact ⟨⟨a0, a1, a2, a3⟩, b0, b1, b2, b3⟩
end

end Go.Proofs.YtacjgnefomdoaaaGreatDoor

namespace Go.Proofs.YtacjgnefomdoaaaGreatDoor
open Go.RowKit Go.Maps Go.WideMaps

theorem hasC_mem {a b : List Co} (h : ∀ c, c ∈ a ↔ c ∈ b) (r : Int × Int) : hasC a r = hasC b r := by
  rw [Bool.eq_iff_iff]
  unfold hasC
  rw [List.any_eq_true, List.any_eq_true]
  constructor
  · rintro ⟨c, h1, h2⟩; exact ⟨c, (h c).1 h1, h2⟩
  · rintro ⟨c, h1, h2⟩; exact ⟨c, (h c).2 h1, h2⟩
theorem len_mem {ps : List (Co × Value)} {cs : List Co} (hr : ps.Pairwise fun x y => refOf x ≠ refOf y) (hc : RiseC cs) (h : ∀ c, c ∈ cs ↔ c ∈ ps.map (·.1)) : ps.length = cs.length := by
  have h1 : (ps.map refOf).Nodup := by unfold List.Nodup; rw [List.pairwise_map]; exact hr
  have a := sub_length (ps.map refOf) (refsC cs) h1 fun r hr => by
    obtain ⟨x, hx, rfl⟩ := List.mem_map.1 hr
    exact List.mem_map.2 ⟨x.1, (h x.1).2 (List.mem_map.2 ⟨x, hx, rfl⟩), rfl⟩
  have b := sub_length (refsC cs) (ps.map refOf) (refs_nodup hc) fun r hr => by
    obtain ⟨c, hc, rfl⟩ := List.mem_map.1 hr
    obtain ⟨x, hx, rfl⟩ := List.mem_map.1 ((h c).1 hc)
    exact List.mem_map.2 ⟨x, hx, rfl⟩
  simp [refsC] at a b
  omega
/-- A purse in any order, and the coins that it holds, rising. -/
structure Holds (w : World) (lo B : Nat) (ps : List (Co × Value)) (cs : List Co) : Prop where
  pu : Pu w lo B ps
  rise : RiseC cs
  mem : ∀ c, c ∈ cs ↔ c ∈ ps.map (·.1)
  good : ∀ c ∈ cs, c.l.length ≤ 1048576
  few : cs.length ≤ 500
theorem Holds.len {w : World} {lo B : Nat} {ps : List (Co × Value)} {cs : List Co} (h : Holds w lo B ps cs) : ps.length = cs.length := len_mem h.pu.refs h.rise h.mem
theorem Holds.below {w w' : World} {lo B : Nat} {ps : List (Co × Value)} {cs : List Co} (h : Holds w lo B ps cs) (hb : Below w.heap.size w w') : Holds w' lo B ps cs := ⟨h.pu.below hb, h.rise, h.mem, h.good, h.few⟩

end Go.Proofs.YtacjgnefomdoaaaGreatDoor

namespace Go.Proofs.YtacjgnefomdoaaaGreatDoor
open Go.RowKit Go.Maps Go.WideMaps

def IsMap (w : World) (B : Nat) : Prop := ∃ es cl, w.heap[B]? = some (.map es cl)
theorem Pu.isMap {w : World} {lo B : Nat} {ps : List (Co × Value)} (h : Pu w lo B ps) : IsMap w B := by
  obtain ⟨D, ⟨es, cl, hb, _⟩, _⟩ := h.map
  exact ⟨es, cl, hb⟩
theorem rise_inj {cs : List Co} (h : RiseC cs) {a b : Co} (ha : a ∈ cs) (hb : b ∈ cs) (e : (a.p, a.q) = (b.p, b.q)) : a = b :=
  Classical.byContradiction fun hne => pair_of (R := fun x y : Co => (x.p, x.q) ≠ (y.p, y.q)) (fun _ _ h => h.symm) (rise_ne h) a ha b hb hne e
end Go.Proofs.YtacjgnefomdoaaaGreatDoor

namespace Go.Proofs.YtacjgnefomdoaaaGreatDoor
open Go.RowKit Go.Maps Go.WideMaps

theorem holds_of {w : World} {lo B : Nat} {ps : List (Co × Value)} {cs : List Co} (hP : Pu w lo B ps) (hcs : ps.map (·.1) = cs) (h : coinsR cs = 0) : Holds w lo B ps cs := by
  obtain ⟨h1, h2, h3⟩ := coins_rise h
  exact ⟨hP, h3, fun c => by rw [hcs], fun c hc => by have := (coin_more (h2 c hc)).2.2.2; omega, by omega⟩
def FilledP (v : World) (lo B : Nat) (cs : List Co) : Prop := ∃ ps, Pu v lo B ps ∧ ps.map (·.1) = cs ∧ coinsR cs = 0
end Go.Proofs.YtacjgnefomdoaaaGreatDoor

namespace Go.Proofs.YtacjgnefomdoaaaGreatDoor
open Go.RowKit Go.Maps Go.WideMaps

/-- All are there just where as many are found as are wanted. -/
theorem in_full {cs : List Co} {rs : List (Int × Int)} (h : RiseC cs) (hr : rs.Nodup) : decide ((inC cs rs).length = rs.length) = rs.all (hasC cs) := by
  have hn : (refsC (inC cs rs)).Nodup := refs_nodup (h.filter _)
  have hl : (refsC (inC cs rs)).length = (inC cs rs).length := by simp [refsC]
  have hsub : ∀ x ∈ refsC (inC cs rs), x ∈ rs := fun x hx => by
    obtain ⟨c, hc, rfl⟩ := List.mem_map.1 hx
    exact memB_here.1 (List.mem_filter.1 hc).2
  rw [Bool.eq_iff_iff, decide_eq_true_eq, List.all_eq_true]
  constructor
  · intro e r hrr
    have := sub_back _ rs hn hsub (by omega) r hrr
    obtain ⟨c, hc, rfl⟩ := List.mem_map.1 this
    exact hasC_iff.2 (List.mem_map.2 ⟨c, (List.mem_filter.1 hc).1, rfl⟩)
  · intro e
    have a := sub_length _ rs hn hsub
    have b := sub_length rs (refsC (inC cs rs)) hr fun r hrr => by
      obtain ⟨c, hc, rfl⟩ := List.mem_map.1 (hasC_iff.1 (e r hrr))
      exact List.mem_map.2 ⟨c, List.mem_filter.2 ⟨hc, memB_here.2 hrr⟩, rfl⟩
    omega

end Go.Proofs.YtacjgnefomdoaaaGreatDoor
