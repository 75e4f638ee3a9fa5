/- Two states are held against each other: the specification's and the program's. -/
import Derived.Test.YtdomekniepeohaaHb
import Derived.Test.YtdomekniepeohaaCnW
import Derived.Test.YtdomekniepeohaaCnX
import Derived.Test.YtdomekniepeohaaEb
import Derived.Lib.QuietBelow
namespace Go.Proofs.Ytdomekniepeohaa
open Go.RowKit Go.Maps Go.WideMaps Go.Sort

def sameSt (k f : Int) (cs : List Co) (ms : List Mb) (k' f' : Int) (cs' : List Co) (ms' : List Mb) : Bool := decide (k = k') && (decide (f = f') && (sameCs cs cs' && decide (ms = ms')))

set_option maxRecDepth 20000 in
set_option maxHeartbeats 4000000 in
theorem l8Same_any (P Q : Nat) (n c m d n' c' m' d' : Nat) (ia oa ib ob : Option Addr) (k f k' f' : Int) (cs cs' : List Co) (ms ms' : List Mb) (w : World) (hn : n ≤ 1048576) (hm : m ≤ 1048576) (hk : ∀ j, j < n → (cs.getD j C0).l.length ≤ 1048576) (h : StAt w ia n oa m cs ms)
    (hn' : n' ≤ 1048576) (hm' : m' ≤ 1048576) (hk' : ∀ j, j < n' → (cs'.getD j C0).l.length ≤ 1048576) (h' : StAt w ib n' ob m' cs' ms')
    (hP : w.heap[P]? = some (.cells #[.int .i64 k, .int .i64 f, .slice ia n c, .slice oa m d] 36 (0, 0))) (hQ : w.heap[Q]? = some (.cells #[.int .i64 k', .int .i64 f', .slice ib n' c', .slice ob m' d'] 36 (0, 0))) :
    Calls Try.prog 26 #[.pointer (some ⟨P, 0, none⟩), .pointer (some ⟨Q, 0, none⟩)] w fun e w' => e = .returned (.bool (sameSt k f cs ms k' f' cs' ms')) ∧ Below w.heap.size w w' := by
  obtain ⟨p0, p1, p2, p3, _⟩ := cells4 hP
  obtain ⟨q0, q1, q2, q3, _⟩ := cells4 hQ
  have hmix : Try.prog.follows .mixedOrders = true := by kernel_rfl
  obtain ⟨qr, hqr⟩ : ∃ b, b = sameCs cs cs' := ⟨_, rfl⟩
  obtain ⟨qo, hqo⟩ : ∃ b, b = decide (ms = ms') := ⟨_, rfl⟩
  have cC : ∀ dd os, Calls Try.prog 45 #[.slice ia n c, .slice ib n' c'] (grow (redrawn w dd) os) fun e w'' => e = .returned (.bool qr) ∧ ∃ p : Regrown, w'' = grow (redrawn w p.d) p.os := fun dd os => Calls.regrown_of (by
    have hb := below_regrown w dd os
    have := l4Same_any ia ib n n' c c' cs cs' (grow (redrawn w dd) os) hn hn' hk hk' (h.c.below hb (Nat.le_refl _)) (h'.c.below hb (Nat.le_refl _))
    rw [← hqr] at this
    exact this)
  have cM : ∀ dd os, Calls Try.prog 46 #[.slice oa m d, .slice ob m' d'] (grow (redrawn w dd) os) fun e w'' => e = .returned (.bool qo) ∧ ∃ p : Regrown, w'' = grow (redrawn w p.d) p.os := fun dd os => Calls.regrown_of (by
    have hb := below_regrown w dd os
    have := l6Same_any oa ob m m' d d' ms ms' (grow (redrawn w dd) os) hm hm' (h.m.below hb (Nat.le_refl _)) (h'.m.below hb (Nat.le_refl _))
    rw [← hqo] at this
    exact this)
  unfold sameSt
  rw [← hqr, ← hqo]
  have a0 := cell_regrown p0
  have a1 := cell_regrown p1
  have a2 := cell_regrown p2
  have a3 := cell_regrown p3
  have b0 := cell_regrown q0
  have b1 := cell_regrown q1
  have b2 := cell_regrown q2
  have b3 := cell_regrown q3
  clear hqr hqo h h' hk hk' hP hQ p0 p1 p2 p3 q0 q1 q2 q3
  by_cases h1 : k = k'
  · subst h1
    by_cases h2 : f = f'
    · subst h2
      have e0 : (decide (k = k) && (decide (f = f) && (qr && qo))) = (qr && qo) := by simp
      rw [e0]
      clear e0
      cases qr
      · go_enter Try.func26, Try.ntmps26
        go_wp2
        refine wp_region_quiet_below hmix (by kernel_rfl) ?_
        repeat (go_big_quiet_step (first | exact cC _ _ | exact cM _ _))
        refine wpQuiet_nil ?_
        intro _ hw'
        obtain ⟨⟨dq, osq⟩, hw''⟩ := hw'
        subst hw''
        go_wp2
        go_ret
        exact ⟨rfl, below_regrown w dq osq⟩
      · go_enter Try.func26, Try.ntmps26
        go_wp2
        refine wp_region_quiet_below hmix (by kernel_rfl) ?_
        repeat (go_big_quiet_step (first | exact cC _ _ | exact cM _ _))
        refine wpQuiet_nil ?_
        intro _ hw'
        obtain ⟨⟨dq, osq⟩, hw''⟩ := hw'
        subst hw''
        go_wp2
        go_ret
        exact ⟨rfl, below_regrown w dq osq⟩
    · have e0 : (decide (k = k) && (decide (f = f') && (qr && qo))) = false := by simp [h2]
      have hvb : (f == f') = false := by simpa using h2
      rw [e0]
      clear e0
      go_enter Try.func26, Try.ntmps26
      go_wp2
      refine wp_region_quiet_below hmix (by kernel_rfl) ?_
      repeat (go_big_quiet_step (first | exact cC _ _ | exact cM _ _))
      refine wpQuiet_nil ?_
      intro _ hw'
      obtain ⟨⟨dq, osq⟩, hw''⟩ := hw'
      subst hw''
      go_wp2
      go_ret
      exact ⟨rfl, below_regrown w dq osq⟩
  · have e0 : (decide (k = k') && (decide (f = f') && (qr && qo))) = false := by simp [h1]
    have hvb : (k == k') = false := by simpa using h1
    rw [e0]
    clear e0
    go_enter Try.func26, Try.ntmps26
    go_wp2
    refine wp_region_quiet_below hmix (by kernel_rfl) ?_
    repeat (go_big_quiet_step (first | exact cC _ _ | exact cM _ _))
    refine wpQuiet_nil ?_
    intro _ hw'
    obtain ⟨⟨dq, osq⟩, hw''⟩ := hw'
    subst hw''
    go_wp2
    go_ret
    exact ⟨rfl, below_regrown w dq osq⟩

theorem sSameSt_any (n c m d n' c' m' d' : Nat) (ia oa ib ob : Option Addr) (k f k' f' : Int) (cs cs' : List Co) (ms ms' : List Mb) (w : World) (hn : n ≤ 1048576) (hm : m ≤ 1048576) (hk : ∀ j, j < n → (cs.getD j C0).l.length ≤ 1048576) (h : StAt w ia n oa m cs ms)
    (hn' : n' ≤ 1048576) (hm' : m' ≤ 1048576) (hk' : ∀ j, j < n' → (cs'.getD j C0).l.length ≤ 1048576) (h' : StAt w ib n' ob m' cs' ms') :
    Calls Try.prog 10 #[.agg #[.int .i64 k, .int .i64 f, .slice ia n c, .slice oa m d], .agg #[.int .i64 k', .int .i64 f', .slice ib n' c', .slice ob m' d']] w fun e w' => e = .returned (.bool (sameSt k f cs ms k' f' cs' ms')) ∧ Below w.heap.size w w' := by
  have hbx : Below w.heap.size w ((w.alloc (.cells #[.int .i64 k, .int .i64 f, .slice ia n c, .slice oa m d] 36)).alloc (.cells #[.int .i64 k', .int .i64 f', .slice ib n' c', .slice ob m' d'] 36)) := below_box2 _ _
  have hS := l8Same_any w.heap.size (w.heap.size + 1) n c m d n' c' m' d' ia oa ib ob k f k' f' cs cs' ms ms' _ hn hm hk (h.below hbx (Nat.le_refl _)) hn' hm' hk' (h'.below hbx (Nat.le_refl _)) block_at2 (heap_alloc_at _ _ _ (by simp))
  have HBX : Hid (Below w.heap.size w ((w.alloc (.cells #[.int .i64 k, .int .i64 f, .slice ia n c, .slice oa m d] 36)).alloc (.cells #[.int .i64 k', .int .i64 f', .slice ib n' c', .slice ob m' d'] 36))) := hbx
  clear hbx h h' hk hk' hn hm hn' hm'
  go_enter Try.func10, Try.ntmps10
  go_wp2_with (first | (go_at_call 26; (with_reducible refine hS.mono ?_); clear hS; rintro e w2 ⟨rfl, hb2⟩))
  go_ret
  exact ⟨rfl, HBX.out.trans (hb2.mono (by simp; omega))⟩

set_option maxRecDepth 20000 in
set_option maxHeartbeats 2000000 in
theorem iSameSt_any (n c m d n' c' m' d' : Nat) (ia oa ib ob : Option Addr) (k f k' f' : Int) (cs cs' : List Co) (ms ms' : List Mb) (w : World) (hn : n ≤ 1048576) (hm : m ≤ 1048576) (hk : ∀ j, j < n → (cs.getD j C0).l.length ≤ 1048576) (h : StAt w ia n oa m cs ms)
    (hn' : n' ≤ 1048576) (hm' : m' ≤ 1048576) (hk' : ∀ j, j < n' → (cs'.getD j C0).l.length ≤ 1048576) (h' : StAt w ib n' ob m' cs' ms') :
    Calls Try.prog 12 #[.agg #[.int .i64 k, .int .i64 f, .slice ia n c, .slice oa m d], .agg #[.int .i64 k', .int .i64 f', .slice ib n' c', .slice ob m' d']] w fun e w' => e = .returned (.bool (sameSt k f cs ms k' f' cs' ms')) ∧ Below w.heap.size w w' := by
  have hbx : Below w.heap.size w ((w.alloc (.cells #[.int .i64 k, .int .i64 f, .slice ia n c, .slice oa m d] 36)).alloc (.cells #[.int .i64 k', .int .i64 f', .slice ib n' c', .slice ob m' d'] 36)) := below_box2 _ _
  have T0 := show Hid (((w.alloc (.cells #[.int .i64 k, .int .i64 f, .slice ia n c, .slice oa m d] 36)).alloc (.cells #[.int .i64 k', .int .i64 f', .slice ib n' c', .slice ob m' d'] 36)).heap[w.heap.size]? = some (.cells #[.int .i64 k, .int .i64 f, .slice ia n c, .slice oa m d] 36 (0, 0))) from block_at2
  have T1 := show Hid (((w.alloc (.cells #[.int .i64 k, .int .i64 f, .slice ia n c, .slice oa m d] 36)).alloc (.cells #[.int .i64 k', .int .i64 f', .slice ib n' c', .slice ob m' d'] 36)).heap[w.heap.size + 1]? = some (.cells #[.int .i64 k', .int .i64 f', .slice ib n' c', .slice ob m' d'] 36 (0, 0))) from heap_alloc_at _ _ _ (by simp)
  have hE := iSameCoins_any ia ib n n' c c' cs cs' ((w.alloc (.cells #[.int .i64 k, .int .i64 f, .slice ia n c, .slice oa m d] 36)).alloc (.cells #[.int .i64 k', .int .i64 f', .slice ib n' c', .slice ob m' d'] 36)) hn hn' hk hk' (h.c.below hbx (Nat.le_refl _)) (h'.c.below hbx (Nat.le_refl _))
  have hF : ∀ v, Below w.heap.size w v → Calls Try.prog 30 #[.slice oa m d, .slice ob m' d'] v fun e w' => e = .returned (.bool (decide (ms = ms'))) ∧ Below v.heap.size v w' := fun v hv =>
    iSameMembers_any oa ob m m' d d' ms ms' v hm hm' (h.m.below hv (Nat.le_refl _)) (h'.m.below hv (Nat.le_refl _))
  have HBX : Hid (Below w.heap.size w ((w.alloc (.cells #[.int .i64 k, .int .i64 f, .slice ia n c, .slice oa m d] 36)).alloc (.cells #[.int .i64 k', .int .i64 f', .slice ib n' c', .slice ob m' d'] 36))) := hbx
  unfold sameSt
  obtain ⟨qr, hqr⟩ : ∃ b, b = sameCs cs cs' := ⟨_, rfl⟩
  obtain ⟨qo, hqo⟩ : ∃ b, b = decide (ms = ms') := ⟨_, rfl⟩
  rw [← hqr, ← hqo]
  rw [← hqr] at hE
  rw [← hqo] at hF
  have HF : Hid (∀ v, Below w.heap.size w v → Calls Try.prog 30 #[.slice oa m d, .slice ob m' d'] v fun e w' => e = .returned (.bool qo) ∧ Below v.heap.size v w') := hF
  clear hF hqr hqo hbx h h' hk hk'
  by_cases h1 : k = k'
  · subst h1
    by_cases h2 : f = f'
    · subst h2
      have e0 : (decide (k = k) && (decide (f = f) && (qr && qo))) = (qr && qo) := by simp
      rw [e0]
      clear e0
      cases qr
      · go_enter Try.func12, Try.ntmps12
        go_wp2_with (go_at_call 29; refine hE.mono ?_; rintro e w2 ⟨rfl, hb2⟩)
        go_ret
        exact ⟨rfl, HBX.out.trans (hb2.mono (by simp; omega))⟩
      · go_enter Try.func12, Try.ntmps12
        go_wp2_with (first
          | (go_at_call 29; refine hE.mono ?_; rintro e w2 ⟨rfl, hb2⟩; have HB2 : Hid (Below w.heap.size w w2) := HBX.out.trans (hb2.mono (by simp; omega)); obtain ⟨p0, p1, p2, p3, _⟩ := cells4 (keepb T0.out hb2).out; obtain ⟨q0, q1, q2, q3, _⟩ := cells4 (keepb T1.out hb2).out; have hF2 := HF.out w2 HB2.out; clear hb2)
          | (go_at_call 30; refine hF2.mono ?_; rintro e w3 ⟨rfl, hb3⟩))
        go_ret
        exact ⟨rfl, HB2.out.trans (hb3.mono HB2.out.size)⟩
    · have e0 : (decide (k = k) && (decide (f = f') && (qr && qo))) = false := by simp [h2]
      have hvb : (f == f') = false := by simpa using h2
      rw [e0]
      clear e0
      go_enter Try.func12, Try.ntmps12
      go_wp2
      go_ret
      exact ⟨rfl, HBX.out⟩
  · have e0 : (decide (k = k') && (decide (f = f') && (qr && qo))) = false := by simp [h1]
    have hvb : (k == k') = false := by simpa using h1
    rw [e0]
    clear e0
    go_enter Try.func12, Try.ntmps12
    go_wp2
    go_ret
    exact ⟨rfl, HBX.out⟩

end Go.Proofs.Ytdomekniepeohaa
