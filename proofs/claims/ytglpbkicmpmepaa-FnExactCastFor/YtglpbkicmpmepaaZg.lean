/- ChooseFor: the specification's. -/
import Derived.Test.YtglpbkicmpmepaaZi
namespace Go.Proofs.Ytglpbkicmpmepaa
open Go.RowKit Go.Maps Go.WideMaps

/-- A voter that is copied, told with its row of choices. -/
def OutVo (w w' : World) (e : Ending) (k l : Int) (n : Nat) (ms : List Mb) : Prop :=
  ∃ va vc, e = .returned (.agg #[.int .i64 k, .int .i64 l, .slice va n vc]) ∧ w'.ownsRow w.heap.size 74 3 (.slice va n vc) n (mcells ms) ∧ Below w.heap.size w w'
theorem copy_end {w W : World} {B n vc : Nat} {va : Option Addr} {k l : Int} {ms : List Mb} (hB : w.heap.size ≤ B) (hb : Below w.heap.size w W) (hO : W.ownsRow (B + 1 + 1) 74 3 (.slice va n vc) n (mcells ms)) :
    OutVo w (((((W.setCell ⟨B, 2, none⟩ (.slice va n vc)).setCell ⟨B + 1, 0, none⟩ (.int .i64 k)).setCell ⟨B + 1, 1, none⟩ (.int .i64 l))).setCell ⟨B + 1, 2, none⟩ (.slice va n vc)) (.returned (.agg #[.int .i64 k, .int .i64 l, .slice va n vc])) k l n ms :=
  ⟨va, vc, rfl, Joins.ownsRow_le (row_set3 (ownsRow_setCell_below hO (a := ⟨B, 2, none⟩) (show B < B + 1 + 1 by omega) _) (by omega) _ _ _) (by omega), below_set3 (hb.setCell (p := ⟨B, 2, none⟩) hB _) (by omega) _ _ _⟩

set_option maxRecDepth 20000 in
set_option maxHeartbeats 2000000 in
theorem l11Copy_any (k l : Int) (a : Option Addr) (n cap : Nat) (ms : List Mb) (w : World) (hn : n ≤ 1048576) (hM : MAt w a n ms) :
    Calls Try.prog 40 #[.agg #[.int .i64 k, .int .i64 l, .slice a n cap]] w fun e w' => OutVo w w' e k l n ms := by
  obtain ⟨w1, hw1⟩ : ∃ W, W = ((w.alloc (.cells #[.int .i64 k, .int .i64 l, .slice a n cap] 34)).alloc (.cells #[.int .i64 0, .int .i64 0, .slice none 0 0] 34)).alloc (.cells #[] 74) := ⟨_, rfl⟩
  obtain ⟨t0, t1, t2, t3⟩ := three_blocks w (.cells #[.int .i64 k, .int .i64 l, .slice a n cap] 34) (.cells #[.int .i64 0, .int .i64 0, .slice none 0 0] 34) (.cells #[] 74)
  have hb : Below w.heap.size w w1 := by rw [hw1]; exact below_box3 _ _ _
  rw [← hw1] at t0 t1 t2 t3
  have HW1 : Hid (((w.alloc (.cells #[.int .i64 k, .int .i64 l, .slice a n cap] 34)).alloc (.cells #[.int .i64 0, .int .i64 0, .slice none 0 0] 34)).alloc (.cells #[] 74) = w1) := hw1.symm
  have HX0 : Hid _ := t0
  have HX1 : Hid _ := t1
  obtain ⟨va, vc, w3, hrun, HO, HB, HG⟩ : ∃ va vc w3, (Builtin.append_ #[32, 32] 32 #[.slice (some ⟨w.heap.size + 1 + 1, 0, none⟩) 0 0, .slice a n cap]).run Try.prog w1 = .ok (.slice va n vc) w3 ∧ Hid (w3.ownsRow (w.heap.size + 1 + 1) 74 3 (.slice va n vc) n (mcells ms)) ∧ Hid (Below w.heap.size w w3) ∧ Hid (w1.grownBy w3 (some (w.heap.size + 1 + 1))) := by
    by_cases h0 : n = 0
    · subst h0
      obtain rfl : ms = [] := List.length_eq_zero_iff.1 hM.1
      refine ⟨some ⟨w.heap.size + 1 + 1, 0, none⟩, 0, w1, ?_, own_emptyV t2 (Nat.le_refl _), hb, ⟨rfl, rfl, rfl, Nat.le_refl _, fun _ _ _ => rfl⟩⟩
      cases a <;> kernel_rfl
    · obtain ⟨b, off, rfl⟩ : ∃ b off, a = some ⟨b, off, none⟩ := by
        rcases hM.2 with h | ⟨b, off, e, _⟩
        · exact absurd h h0
        · exact ⟨b, off, e⟩
      exact chos_one (c := cap) t2 hb (by omega) (hM.below hb (Nat.le_refl _)) hn
  have e0 : w3.heap[w.heap.size]? = some (.cells #[.int .i64 k, .int .i64 l, .slice a n cap] 34 (0, 0)) := (HG.out.block _ (by omega) (by simp; omega)).trans t0
  have e1 : w3.heap[w.heap.size + 1]? = some (.cells #[.int .i64 0, .int .i64 0, .slice none 0 0] 34 (0, 0)) := (HG.out.block _ (by omega) (by simp)).trans t1
  obtain ⟨b0, b1, b2⟩ := cells3 e0
  obtain ⟨c0, c1, c2⟩ := cells3 e1
  have HE1 : Hid _ := e1
  have f2 := Joins.unfrozen_of_block e0 2
  have g0 := Joins.unfrozen_of_block e1 0
  have g1 := Joins.unfrozen_of_block e1 1
  have g2 := Joins.unfrozen_of_block e1 2
  rw [hw1] at hrun
  clear hM t0 t1 t2 t3 hb hw1 e0 e1
  go_enter Try.func40, Try.ntmps40
  go_wp2_with (first | (at_builtin; go_must (refine wpList_append_runV (by rfl) _ _ _ (by rfl) (by rfl) (by rfl) hrun ?_); clear hrun))
  have hq := (Below.heap_setCell w3 ⟨w.heap.size, 2, none⟩ (.slice va n vc) (w.heap.size + 1) (show w.heap.size + 1 ≠ w.heap.size by omega)).trans HE1.out
  obtain ⟨s0, s1, s2⟩ := cells3 (set3 hq (.int .i64 k) (.int .i64 l) (.slice va n vc))
  exact bodyPost_ret (v := .agg #[.int .i64 k, .int .i64 l, .slice va n vc]) (by simp [results, Try.results40, go_sem, s0, s1, s2]) rfl (copy_end (Nat.le_refl _) HB.out HO.out)

theorem vr_keepC {w V w4 : World} {R m vc : Nat} {va : Option Addr} {c : Int} {v : Vo} {k l : Int} {ms : List Mb} (hm : ms.length = m) (hO : Hid (w4.ownsRow V.heap.size 74 3 (.slice va m vc) m (mcells ms))) (h : w.heap.size ≤ R ∧ R < V.heap.size ∧ Below w.heap.size w w4) :
    OutVr w (((((((((((w4.setCell ⟨R, 0, none⟩ (.int .i64 c)).setCell ⟨R, 1, none⟩ (.int .i64 v.k)).setCell ⟨R, 2, none⟩ (.int .i64 v.d)).setCell ⟨R, 3, none⟩ (.int .i64 v.b)).setCell ⟨R, 4, none⟩ (.int .i64 v.p)).setCell ⟨R, 5, none⟩ (.int .i64 v.q)).setCell ⟨R, 6, none⟩ (.int .i64 v.t)).setCell ⟨R, 7, none⟩ (.int .i64 k)).setCell ⟨R, 8, none⟩ (.int .i64 l)).setCell ⟨R, 9, none⟩ (.slice va m vc))) (.returned (.agg #[.int .i64 c, .int .i64 v.k, .int .i64 v.d, .int .i64 v.b, .int .i64 v.p, .int .i64 v.q, .int .i64 v.t, .int .i64 k, .int .i64 l, .slice va m vc])) ⟨c, v, k, l, ms⟩ := by
  subst hm
  exact ⟨va, vc, rfl, Joins.ownsRow_le (row_set10V hO.out h.2.1 _ _ _ _ _ _ _ _ _ _) (by omega), below_set10V h.2.2 h.1 _ _ _ _ _ _ _ _ _ _⟩

end Go.Proofs.Ytglpbkicmpmepaa
