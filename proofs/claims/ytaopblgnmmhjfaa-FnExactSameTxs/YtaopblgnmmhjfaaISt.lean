/- The program's SameTxs keeps its contract: the whole. -/
import Derived.Test.YtaopblgnmmhjfaaISm
namespace Go.Proofs.Ytaopblgnmmhjfaa
open Go.RowKit Go.Maps Go.WideMaps

theorem sameT_eq {k f k' f' : Int} {n m n' m' : Nat} {rs rs' : List (Int × Int)} {os os' : List Ou} (hn : rs.length = n) (hn' : rs'.length = n') : sameT k f n m rs os k' f' n' m' rs' os' = (decide (k = k') && (decide (f = f') && (decide (rs = rs') && (decide (m = m') && allO m os os')))) := by
  unfold sameT
  by_cases h1 : k = k'
  · by_cases h2 : f = f'
    · by_cases h3 : n = n'
      · by_cases h4 : m = m'
        · simp [h1, h2, h3, h4]
        · simp [h1, h2, h3, h4]
      · have : ¬ rs = rs' := by rintro rfl; exact h3 (hn.symm.trans hn')
        simp [h3, this]
    · simp [h2]
  · simp [h1]

set_option maxRecDepth 20000 in
set_option maxHeartbeats 2000000 in
theorem iSameTxs : ISameTxs := by
  intro n c m d n' c' m' d' ia oa ib ob k f k' f' rs rs' os os' w hn hm _ _ hk h hn' hm' _ _ hk' h' _ _
  have hbx : Below w.heap.size w ((w.alloc (.cells #[.int .i64 k, .int .i64 f, .slice ia n c, .slice oa m d] 86)).alloc (.cells #[.int .i64 k', .int .i64 f', .slice ib n' c', .slice ob m' d'] 86)) := below_box2 _ _
  have T0 := show Hid (((w.alloc (.cells #[.int .i64 k, .int .i64 f, .slice ia n c, .slice oa m d] 86)).alloc (.cells #[.int .i64 k', .int .i64 f', .slice ib n' c', .slice ob m' d'] 86)).heap[w.heap.size]? = some (.cells #[.int .i64 k, .int .i64 f, .slice ia n c, .slice oa m d] 86 (0, 0))) from block_at2
  have T1 := show Hid (((w.alloc (.cells #[.int .i64 k, .int .i64 f, .slice ia n c, .slice oa m d] 86)).alloc (.cells #[.int .i64 k', .int .i64 f', .slice ib n' c', .slice ob m' d'] 86)).heap[w.heap.size + 1]? = some (.cells #[.int .i64 k', .int .i64 f', .slice ib n' c', .slice ob m' d'] 86 (0, 0))) from heap_alloc_at _ _ _ (by simp)
  have hE := rEqual_any ia ib n n' c c' rs rs' ((w.alloc (.cells #[.int .i64 k, .int .i64 f, .slice ia n c, .slice oa m d] 86)).alloc (.cells #[.int .i64 k', .int .i64 f', .slice ib n' c', .slice ob m' d'] 86)) hn hn' (h.r.below hbx (Nat.le_refl _)) (h'.r.below hbx (Nat.le_refl _))
  have hF : ∀ v, Below w.heap.size w v → Calls Try.prog 135 #[.slice oa m d, .slice ob m' d', .func (.func 136) #[] #[]] v fun e w' => e = .returned (.bool (decide (m = m') && allO m os os')) ∧ Below v.heap.size v w' := fun v hv =>
    oEqualF_any oa ob m m' d d' os os' v hm hm' hk hk' (h.o.below hv (Nat.le_refl _)) (h'.o.below hv (Nat.le_refl _))
  have HBX : Hid (Below w.heap.size w ((w.alloc (.cells #[.int .i64 k, .int .i64 f, .slice ia n c, .slice oa m d] 86)).alloc (.cells #[.int .i64 k', .int .i64 f', .slice ib n' c', .slice ob m' d'] 86))) := hbx
  rw [sameT_eq h.r.1 h'.r.1]
  obtain ⟨qr, hqr⟩ : ∃ b, b = decide (rs = rs') := ⟨_, rfl⟩
  obtain ⟨qo, hqo⟩ : ∃ b, b = (decide (m = m') && allO m os os') := ⟨_, rfl⟩
  rw [← hqr, ← hqo]
  rw [← hqr] at hE
  rw [← hqo] at hF
  have HF : Hid (∀ v, Below w.heap.size w v → Calls Try.prog 135 #[.slice oa m d, .slice ob m' d', .func (.func 136) #[] #[]] v fun e w' => e = .returned (.bool qo) ∧ Below v.heap.size v w') := hF
  clear hF hqr hqo hbx h h' hk hk'
  by_cases h1 : k = k'
  · subst h1
    by_cases h2 : f = f'
    · subst h2
      have e0 : (decide (k = k) && (decide (f = f) && (qr && qo))) = (qr && qo) := by simp
      rw [e0]
      clear e0
      cases qr
      · go_enter Try.func68, Try.ntmps68
        go_wp2_with (go_at_call 134; refine hE.mono ?_; rintro e w2 ⟨rfl, hb2⟩)
        go_ret
        exact ⟨rfl, HBX.out.trans (hb2.mono (by simp; omega))⟩
      · go_enter Try.func68, Try.ntmps68
        go_wp2_with (first
          | (go_at_call 134; refine hE.mono ?_; rintro e w2 ⟨rfl, hb2⟩; have HB2 : Hid (Below w.heap.size w w2) := HBX.out.trans (hb2.mono (by simp; omega)); obtain ⟨p0, p1, p2, p3, _⟩ := cells4 (keepb T0.out hb2).out; obtain ⟨q0, q1, q2, q3, _⟩ := cells4 (keepb T1.out hb2).out; have hF2 := HF.out w2 HB2.out; clear hb2)
          | (go_at_call 135; refine hF2.mono ?_; rintro e w3 ⟨rfl, hb3⟩))
        go_ret
        exact ⟨rfl, HB2.out.trans (hb3.mono HB2.out.size)⟩
    · have e0 : (decide (k = k) && (decide (f = f') && (qr && qo))) = false := by simp [h2]
      have hvb : (f == f') = false := by simpa using h2
      rw [e0]
      clear e0
      go_enter Try.func68, Try.ntmps68
      go_wp2
      go_ret
      exact ⟨rfl, HBX.out⟩
  · have e0 : (decide (k = k') && (decide (f = f') && (qr && qo))) = false := by simp [h1]
    have hvb : (k == k') = false := by simpa using h1
    rw [e0]
    clear e0
    go_enter Try.func68, Try.ntmps68
    go_wp2
    go_ret
    exact ⟨rfl, HBX.out⟩

end Go.Proofs.Ytaopblgnmmhjfaa
