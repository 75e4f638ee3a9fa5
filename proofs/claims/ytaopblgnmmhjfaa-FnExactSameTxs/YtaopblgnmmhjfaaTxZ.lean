/- What the specification's SameTxs answers. -/
import Derived.Test.YtaopblgnmmhjfaaTxX1
import Derived.Test.YtaopblgnmmhjfaaTxX2
import Derived.Test.YtaopblgnmmhjfaaTxX3
import Derived.Test.YtaopblgnmmhjfaaTxY
namespace Go.Proofs.Ytaopblgnmmhjfaa
open Go.RowKit Go.Maps Go.WideMaps

theorem l3Same_any (P Q n c m d n' c' m' d' : Nat) (ia oa ib ob : Option Addr) (k f k' f' : Int) (rs rs' : List (Int × Int)) (os os' : List Ou) (w : World) (hn : n ≤ 1048576) (hm : m ≤ 1048576) (hk : ∀ j, j < m → (os.getD j O0).l.length ≤ 1048576) (hk' : ∀ j, j < m' → (os'.getD j O0).l.length ≤ 1048576) (ha : TxAt w ia n oa m rs os) (hb : TxAt w ib n' ob m' rs' os')
    (hP : w.heap[P]? = some (.cells #[.int .i64 k, .int .i64 f, .slice ia n c, .slice oa m d] 86 (0, 0))) (hQ : w.heap[Q]? = some (.cells #[.int .i64 k', .int .i64 f', .slice ib n' c', .slice ob m' d'] 86 (0, 0))) :
    Calls Try.prog 133 #[.pointer (some ⟨P, 0, none⟩), .pointer (some ⟨Q, 0, none⟩)] w fun e w' => e = .returned (.bool (sameT k f n m rs os k' f' n' m' rs' os')) ∧ Below w.heap.size w w' := by
  obtain ⟨p0, p1, p2, p3, _⟩ := cells4 hP
  obtain ⟨q0, q1, q2, q3, _⟩ := cells4 hQ
  by_cases h1 : k = k'
  · subst h1
    by_cases h2 : f = f'
    · subst h2
      by_cases h3 : n = n'
      · subst h3
        by_cases h4 : m = m'
        · subst h4
          have e : sameT k f n m rs os k f n m rs' os' = (decide (rs = rs') && allO m os os') := by unfold sameT; rw [if_neg (by simp)]
          rw [e]
          exact l3Same_eq P Q n c m d c' d' ia oa ib ob k f rs rs' os os' w hn hm hk hk' ha hb hP hQ
        · have e : sameT k f n m rs os k f n m' rs' os' = false := by unfold sameT; rw [if_pos (by simp [h4])]
          rw [e]
          exact l3Same_m P Q k f ia oa ib ob n c m d c' m' d' w p0 p1 p2 p3 q0 q1 q2 q3 (by omega) (by simp; omega)
      · have e : sameT k f n m rs os k f n' m' rs' os' = false := by unfold sameT; rw [if_pos (by simp [h3])]
        rw [e]
        exact l3Same_n P Q k f ia ib n c n' c' w p0 p1 p2 q0 q1 q2 (by omega) (by simp; omega)
    · have e : sameT k f n m rs os k f' n' m' rs' os' = false := by unfold sameT; rw [if_pos (by simp [h2])]
      rw [e]
      exact l3Same_f P Q k f f' ia oa ib ob n c m d n' c' m' d' w p0 p1 q0 q1 p2 q2 p3 q3 h2 (by simpa using h2)
  · have e : sameT k f n m rs os k' f' n' m' rs' os' = false := by unfold sameT; rw [if_pos (by simp [h1])]
    rw [e]
    exact l3Same_k P Q k k' w p0 q0 h1 (by simpa using h1)

set_option maxHeartbeats 400000 in
theorem sSameTxs_any (n c m d n' c' m' d' : Nat) (ia oa ib ob : Option Addr) (k f k' f' : Int) (rs rs' : List (Int × Int)) (os os' : List Ou) (w : World) (hn : n ≤ 1048576) (hm : m ≤ 1048576) (_hc1 : n ≤ c) (_hc2 : c ≤ maxLen) (hk : ∀ j, j < m → (os.getD j O0).l.length ≤ 1048576) (h : TxAt w ia n oa m rs os)
    (_hn' : n' ≤ 1048576) (_hm' : m' ≤ 1048576) (_hc1' : n' ≤ c') (_hc2' : c' ≤ maxLen) (hk' : ∀ j, j < m' → (os'.getD j O0).l.length ≤ 1048576) (h' : TxAt w ib n' ob m' rs' os') :
    Calls Try.prog 67 #[.agg #[.int .i64 k, .int .i64 f, .slice ia n c, .slice oa m d], .agg #[.int .i64 k', .int .i64 f', .slice ib n' c', .slice ob m' d']] w fun e w' => e = .returned (.bool (sameT k f n m rs os k' f' n' m' rs' os')) ∧ Below w.heap.size w w' := by
  have hbx : Below w.heap.size w ((w.alloc (.cells #[.int .i64 k, .int .i64 f, .slice ia n c, .slice oa m d] 86)).alloc (.cells #[.int .i64 k', .int .i64 f', .slice ib n' c', .slice ob m' d'] 86)) := below_box2 _ _
  have hS := l3Same_any w.heap.size (w.heap.size + 1) n c m d n' c' m' d' ia oa ib ob k f k' f' rs rs' os os' _ hn hm hk hk' (h.below hbx (Nat.le_refl _)) (h'.below hbx (Nat.le_refl _)) block_at2 (heap_alloc_at _ _ _ (by simp))
  have HBX : Hid (Below w.heap.size w ((w.alloc (.cells #[.int .i64 k, .int .i64 f, .slice ia n c, .slice oa m d] 86)).alloc (.cells #[.int .i64 k', .int .i64 f', .slice ib n' c', .slice ob m' d'] 86))) := hbx
  clear hbx h h' hk hk' _hn' _hm' _hc1 _hc2 _hc1' _hc2'
  go_enter Try.func67, Try.ntmps67
  go_wp2_with (first | (go_at_call 133; refine hS.mono ?_; rintro e w2 ⟨rfl, hb2⟩))
  go_ret
  exact ⟨rfl, HBX.out.trans (hb2.mono (by simp; omega))⟩

end Go.Proofs.Ytaopblgnmmhjfaa
