/- Does the purse lack a ref; has it just the refs of a transaction? Is there anything against it that a transaction is taken back? A transaction is taken back in the program's purse. The program's UndoTx keeps its contract. -/
import Derived.Test.YtbpcabdbnolceaaGreatDoorJB
import Derived.Test.YtbpcabdbnolceaaGreatDoorDh
import Derived.Maps.RangeWalk
import Derived.Test.YtbpcabdbnolceaaGreatDoorITx
import Derived.Test.YtbpcabdbnolceaaGreatDoorLTxFault
import Derived.Test.YtbpcabdbnolceaaGreatDoorTxA
import Derived.Test.YtbpcabdbnolceaaGreatDoorRu
import Derived.Test.YtbpcabdbnolceaaGreatDoorTxS
import Derived.Lib.QuietBelow
import Derived.Test.YtbpcabdbnolceaaGreatDoorDk
import Derived.Test.YtbpcabdbnolceaaGreatDoorDi
namespace Go.Proofs.YtbpcabdbnolceaaGreatDoor
open Go.RowKit Go.Maps Go.WideMaps

theorem ref_mem {rs : List (Int × Int)} {n j : Nat} {o : Int × Int} (hn : rs.length = n) (hlt : j < n) (ho : o = rs.getD j G0) : o ∈ rs := by
  rw [ho, List.getD, List.getElem?_eq_getElem (by omega)]
  exact List.getElem_mem _
theorem all_get {rs : List (Int × Int)} {n : Nat} {f : Int × Int → Bool} (hn : rs.length = n) (h : ∀ t, t < n → f (rs.getD t G0) = true) : rs.all f = true := by
  rw [List.all_eq_true]
  intro x hx
  obtain ⟨t, ht, rfl⟩ := List.getElem_of_mem hx
  have := h t (by omega)
  rw [List.getD, List.getElem?_eq_getElem ht] at this
  exact this
theorem all_not {rs : List (Int × Int)} {n t : Nat} {f : Int × Int → Bool} (hn : rs.length = n) (ht : t < n) (h : f (rs.getD t G0) = false) : rs.all f = false := by
  rw [List.all_eq_false]
  exact ⟨rs.getD t G0, ref_mem hn ht rfl, by rw [h]; exact Bool.false_ne_true⟩
end Go.Proofs.YtbpcabdbnolceaaGreatDoor

namespace Go.Proofs.YtbpcabdbnolceaaGreatDoor
open Go.RowKit Go.Maps Go.WideMaps

theorem hasC_mem {a b : List Co} (h : ∀ c, c ∈ a ↔ c ∈ b) (r : Int × Int) : hasC a r = hasC b r := by
  rw [Bool.eq_iff_iff]
  unfold hasC
  rw [List.any_eq_true, List.any_eq_true]
  constructor
  · rintro ⟨c, h1, h2⟩; exact ⟨c, (h c).1 h1, h2⟩
  · rintro ⟨c, h1, h2⟩; exact ⟨c, (h c).2 h1, h2⟩
theorem len_mem {ps : List (Co × Value)} {cs : List Co} (hr : ps.Pairwise fun x y => refOf x ≠ refOf y) (hc : RiseC cs) (h : ∀ c, c ∈ cs ↔ c ∈ ps.map (·.1)) : ps.length = cs.length := by
  have h1 : (ps.map refOf).Nodup := by unfold List.Nodup; rw [List.pairwise_map]; exact hr
  have a := sub_length (ps.map refOf) (refsC cs) h1 fun r hr => by
    obtain ⟨x, hx, rfl⟩ := List.mem_map.1 hr
    exact List.mem_map.2 ⟨x.1, (h x.1).2 (List.mem_map.2 ⟨x, hx, rfl⟩), rfl⟩
  have b := sub_length (refsC cs) (ps.map refOf) (refs_nodup hc) fun r hr => by
    obtain ⟨c, hc, rfl⟩ := List.mem_map.1 hr
    obtain ⟨x, hx, rfl⟩ := List.mem_map.1 ((h c).1 hc)
    exact List.mem_map.2 ⟨x, hx, rfl⟩
  simp [refsC] at a b
  omega
/-- A purse in any order, and the coins that it holds, rising. -/
structure Holds (w : World) (lo B : Nat) (ps : List (Co × Value)) (cs : List Co) : Prop where
  pu : Pu w lo B ps
  rise : RiseC cs
  mem : ∀ c, c ∈ cs ↔ c ∈ ps.map (·.1)
  good : ∀ c ∈ cs, c.l.length ≤ 1048576
  few : cs.length ≤ 500
theorem Holds.len {w : World} {lo B : Nat} {ps : List (Co × Value)} {cs : List Co} (h : Holds w lo B ps cs) : ps.length = cs.length := len_mem h.pu.refs h.rise h.mem
theorem Holds.below {w w' : World} {lo B : Nat} {ps : List (Co × Value)} {cs : List Co} (h : Holds w lo B ps cs) (hb : Below w.heap.size w w') : Holds w' lo B ps cs := ⟨h.pu.below hb, h.rise, h.mem, h.good, h.few⟩

end Go.Proofs.YtbpcabdbnolceaaGreatDoor

namespace Go.Proofs.YtbpcabdbnolceaaGreatDoor
open Go.RowKit Go.Maps Go.WideMaps

def IsMap (w : World) (B : Nat) : Prop := ∃ es cl, w.heap[B]? = some (.map es cl)
theorem Pu.isMap {w : World} {lo B : Nat} {ps : List (Co × Value)} (h : Pu w lo B ps) : IsMap w B := by
  obtain ⟨D, ⟨es, cl, hb, _⟩, _⟩ := h.map
  exact ⟨es, cl, hb⟩
theorem rise_inj {cs : List Co} (h : RiseC cs) {a b : Co} (ha : a ∈ cs) (hb : b ∈ cs) (e : (a.p, a.q) = (b.p, b.q)) : a = b :=
  Classical.byContradiction fun hne => pair_of (R := fun x y : Co => (x.p, x.q) ≠ (y.p, y.q)) (fun _ _ h => h.symm) (rise_ne h) a ha b hb hne e
end Go.Proofs.YtbpcabdbnolceaaGreatDoor

namespace Go.Proofs.YtbpcabdbnolceaaGreatDoor
open Go.RowKit Go.Maps Go.WideMaps

/-- The transaction's box and the result's block, with the worlds that grow. -/
structure UBx (w v : World) (k f : Int) (ia : Option Addr) (n c : Nat) (oa : Option Addr) (m d : Nat) : Prop where
  tx : v.heap[w.heap.size]? = some (.cells #[.int .i64 k, .int .i64 f, .slice ia n c, .slice oa m d] 37 (0, 0))
  res : v.heap[w.heap.size + 1]? = some (.cells #[.int .i64 0, .slice none 0 0] 31 (0, 0))
  bel : Below w.heap.size w v
  big : w.heap.size + 1 + 1 ≤ v.heap.size
section
variable {w v v' : World} {k f : Int} {ia oa : Option Addr} {n c m d : Nat}
theorem UBx.start : UBx w ((w.alloc (.cells #[.int .i64 k, .int .i64 f, .slice ia n c, .slice oa m d] 37)).alloc (.cells #[.int .i64 0, .slice none 0 0] 31)) k f ia n c oa m d :=
  ⟨(blocks2 w _ _).1, (blocks2 w _ _).2.1, below_box2 _ _, by rw [(blocks2 w _ _).2.2]; exact Nat.le_refl _⟩
theorem UBx.step (h : UBx w v k f ia n c oa m d) (hb : Below v.heap.size v v') : UBx w v' k f ia n c oa m d := ⟨(keepb h.tx hb).out, (keepb h.res hb).out, h.bel.trans (hb.mono h.bel.size), Nat.le_trans h.big hb.size⟩
end
theorem holds_of {w : World} {lo B : Nat} {ps : List (Co × Value)} {cs : List Co} (hP : Pu w lo B ps) (hcs : ps.map (·.1) = cs) (h : coinsR cs = 0) : Holds w lo B ps cs := by
  obtain ⟨h1, h2, h3⟩ := coins_rise h
  exact ⟨hP, h3, fun c => by rw [hcs], fun c hc => by have := (coin_more (h2 c hc)).2.2.2; omega, by omega⟩
def FilledP (v : World) (lo B : Nat) (cs : List Co) : Prop := ∃ ps, Pu v lo B ps ∧ ps.map (·.1) = cs ∧ coinsR cs = 0
end Go.Proofs.YtbpcabdbnolceaaGreatDoor
