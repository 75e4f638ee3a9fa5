/- The program's UndoTx keeps its contract. -/
import Derived.Test.YtagokfoimokniaaGreatDoorQf
import Derived.Test.YtagokfoimokniaaGreatDoorJn8
namespace Go.Proofs.YtagokfoimokniaaGreatDoor
open Go.RowKit Go.Maps Go.WideMaps

theorem addC_count {x : Co} : ∀ {ts : List Co}, (addC ts x).length = ts.length + 1
  | [] => rfl
  | a :: l => by
    unfold addC
    by_cases e : cmpR (a.p, a.q) (x.p, x.q) < 0
    · rw [if_pos e, List.length_cons, addC_count, List.length_cons]
    · rw [if_neg e]; rfl
theorem addCs_count : ∀ (xs cs : List Co), (addCs cs xs).length = cs.length + xs.length
  | [], cs => rfl
  | x :: xs, cs => by
    show (addCs (addC cs x) xs).length = _
    rw [addCs_count, addC_count, List.length_cons]
    omega

/-- The transaction's box and the result's block, with the worlds that grow. -/
structure UBx (w v : World) (k f : Int) (ia : Option Addr) (n c : Nat) (oa : Option Addr) (m d : Nat) : Prop where
  tx : v.heap[w.heap.size]? = some (.cells #[.int .i64 k, .int .i64 f, .slice ia n c, .slice oa m d] 32 (0, 0))
  res : v.heap[w.heap.size + 1]? = some (.cells #[.int .i64 0, .slice none 0 0] 39 (0, 0))
  bel : Below w.heap.size w v
  big : w.heap.size + 1 + 1 ≤ v.heap.size
section
variable {w v v' : World} {k f : Int} {ia oa : Option Addr} {n c m d : Nat}
theorem UBx.start : UBx w ((w.alloc (.cells #[.int .i64 k, .int .i64 f, .slice ia n c, .slice oa m d] 32)).alloc (.cells #[.int .i64 0, .slice none 0 0] 39)) k f ia n c oa m d :=
  ⟨(blocks2 w _ _).1, (blocks2 w _ _).2.1, below_box2 _ _, by rw [(blocks2 w _ _).2.2]; exact Nat.le_refl _⟩
theorem UBx.step (h : UBx w v k f ia n c oa m d) (hb : Below v.heap.size v v') : UBx w v' k f ia n c oa m d := ⟨(keepb h.tx hb).out, (keepb h.res hb).out, h.bel.trans (hb.mono h.bel.size), Nat.le_trans h.big hb.size⟩
theorem UBx.turn {B : Nat} (h : UBx w v k f ia n c oa m d) (hB : w.heap.size + 1 + 1 ≤ B) (hc : Chg v v' B (B + 1)) : UBx w v' k f ia n c oa m d :=
  ⟨hc.keep h.tx (by omega), hc.keep h.res (by omega), h.bel.trans (hc.below (by omega) h.bel.size), Nat.le_trans h.big hc.size⟩
end
theorem holds_of {w : World} {lo B : Nat} {ps : List (Co × Value)} {cs : List Co} (hP : Pu w lo B ps) (hcs : ps.map (·.1) = cs) (h : coinsR cs = 0) : Holds w lo B ps cs := by
  obtain ⟨h1, h2, h3⟩ := coins_rise h
  exact ⟨hP, h3, fun c => by rw [hcs], fun c hc => by have := (coin_more (h2 c hc)).2.2.2; omega, by omega⟩
def FilledP (v : World) (lo B : Nat) (cs : List Co) : Prop := ∃ ps, Pu v lo B ps ∧ ps.map (·.1) = cs ∧ coinsR cs = 0
end Go.Proofs.YtagokfoimokniaaGreatDoor
