/- The program's SameTxs keeps its contract. The program's SameTxs keeps its contract: the whole. -/
import Derived.Test.YthjolannlefbcaaGreatDoorJn3
import Derived.Test.YthjolannlefbcaaGreatDoorTxX
import Derived.Test.YthjolannlefbcaaGreatDoorSr
namespace Go.Proofs.YthjolannlefbcaaGreatDoor
open Go.RowKit Go.Maps Go.WideMaps

set_option maxHeartbeats 1000000 in
theorem sameOuts_any (v v' : Int) (a b : Option Addr) (n m c1 c2 : Nat) (l l' : List Int) (x x' y y' : Int) (w : World) (hl : n ≤ 1048576) (hl2 : m ≤ 1048576) (ha : IAt w a n l) (hb : IAt w b m l') :
    Calls Tryz.prog 60 #[.agg #[.int .i64 v, .slice a n c1, .int .i64 x, .int .i64 y], .agg #[.int .i64 v', .slice b m c2, .int .i64 x', .int .i64 y']] w fun e w' => e = .returned (.bool (sameO ⟨v, l, x, y⟩ ⟨v', l', x', y'⟩)) ∧ Below w.heap.size w w' := by
  have hbx : Below w.heap.size w ((w.alloc (.cells #[.int .i64 v, .slice a n c1, .int .i64 x, .int .i64 y] 73)).alloc (.cells #[.int .i64 v', .slice b m c2, .int .i64 x', .int .i64 y'] 73)) := below_box2 _ _
  have hS := iSameRules_any a b n m c1 c2 l l' x x' y y' ((w.alloc (.cells #[.int .i64 v, .slice a n c1, .int .i64 x, .int .i64 y] 73)).alloc (.cells #[.int .i64 v', .slice b m c2, .int .i64 x', .int .i64 y'] 73)) hl hl2 (ha.below hbx (Nat.le_refl _)) (hb.below hbx (Nat.le_refl _))
  have HBX : Hid (Below w.heap.size w ((w.alloc (.cells #[.int .i64 v, .slice a n c1, .int .i64 x, .int .i64 y] 73)).alloc (.cells #[.int .i64 v', .slice b m c2, .int .i64 x', .int .i64 y'] 73))) := hbx
  have hr : sameO ⟨v, l, x, y⟩ ⟨v', l', x', y'⟩ = (decide (v = v') && sameR l l' x x' y y') := rfl
  obtain ⟨q, hq⟩ : ∃ q, q = sameR l l' x x' y y' := ⟨_, rfl⟩
  rw [hr, ← hq]
  rw [← hq] at hS
  clear hr hq hbx ha hb
  by_cases hv : v = v'
  · subst hv
    have e0 : (decide (v = v) && q) = q := by simp
    rw [e0]
    clear e0
    go_enter Tryz.func60, Tryz.ntmps60
    go_wp2_with (go_at_call 103; refine hS.mono ?_; rintro e w2 ⟨rfl, hb2⟩)
    go_ret
    exact ⟨rfl, HBX.out.trans (hb2.mono (by simp; omega))⟩
  · have e0 : (decide (v = v') && q) = false := by simp [hv]
    have hvb : (v == v') = false := by simpa using hv
    rw [e0]
    clear e0 hS
    go_enter Tryz.func60, Tryz.ntmps60
    go_wp2
    go_ret
    exact ⟨rfl, HBX.out⟩

end Go.Proofs.YthjolannlefbcaaGreatDoor

namespace Go.Proofs.YthjolannlefbcaaGreatDoor
open Go.RowKit Go.Maps Go.WideMaps

end Go.Proofs.YthjolannlefbcaaGreatDoor
