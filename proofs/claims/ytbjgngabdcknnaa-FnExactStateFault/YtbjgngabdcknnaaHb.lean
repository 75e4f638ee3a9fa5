/- States that come in: their size is told, they are copied into new memory, two are compared. -/
import Derived.Test.YtbjgngabdcknnaaCnB
import Derived.Test.YtbjgngabdcknnaaEa
namespace Go.Proofs.Ytbjgngabdcknnaa
open Go.RowKit Go.Maps Go.WideMaps

structure StAt (w : World) (ia : Option Addr) (n : Nat) (oa : Option Addr) (m : Nat) (cs : List Co) (ms : List Mb) : Prop where
  c : CAt w ia n cs
  m : MAt w oa m ms
theorem StAt.below {w w' : World} {ia oa : Option Addr} {n m : Nat} {cs : List Co} {ms : List Mb} (h : StAt w ia n oa m cs ms) {B : Nat} (hb : Below B w w') (hB : w.heap.size ≤ B) : StAt w' ia n oa m cs ms := ⟨h.c.below hb hB, h.m.below hb hB⟩

def SzSt (n m : Nat) (cs : List Co) (left r : Int) : Prop := r = -1 ∨ 0 ≤ r ∧ r ≤ left ∧ (n : Int) ≤ left ∧ (m : Int) ≤ left ∧ ∀ j, j < n → ((cs.getD j C0).l.length : Int) ≤ left

set_option maxHeartbeats 1000000 in
theorem szSt_any (k f : Int) (ia oa : Option Addr) (n m c d : Nat) (cs : List Co) (left : Int) (w : World) (h0 : 0 ≤ left) (h1 : left ≤ 1048576) (hn : n ≤ maxLen) (hm : m ≤ maxLen) (h : CAt w ia n cs) :
    Calls Try.prog 29 #[.agg #[.int .i64 k, .int .i64 f, .slice ia n c, .slice oa m d], .int .i64 left] w fun e w' => ∃ r : Int, e = .returned (.int .i64 r) ∧ SzSt n m cs left r ∧ Below w.heap.size w w' := by
  have hbx : Below w.heap.size w (w.alloc (.cells #[.int .i64 k, .int .i64 f, .slice ia n c, .slice oa m d] 56)) := below_box _
  have hS := szCs_any ia n c cs left (w.alloc (.cells #[.int .i64 k, .int .i64 f, .slice ia n c, .slice oa m d] 56)) h0 h1 hn (h.below hbx (Nat.le_refl _))
  have T0 : Hid ((w.alloc (.cells #[.int .i64 k, .int .i64 f, .slice ia n c, .slice oa m d] 56)).heap[w.heap.size]? = some (.cells #[.int .i64 k, .int .i64 f, .slice ia n c, .slice oa m d] 56 (0, 0))) := heap_alloc_new _ _
  have HBX : Hid (Below w.heap.size w (w.alloc (.cells #[.int .i64 k, .int .i64 f, .slice ia n c, .slice oa m d] 56))) := hbx
  clear h hbx
  go_enter Try.func29, Try.ntmps29
  go_wp2_with (first
    | (go_at_call 7; (with_reducible refine hS.mono ?_); clear hS; rintro e w2 ⟨r, rfl, hr, hb2⟩; obtain ⟨⟨p0, p1, p2, p3, _⟩, _⟩ := res4 T0.out hb2 (by simp); have HB2 : Hid (Below w.heap.size w w2) := HBX.out.trans (hb2.mono (by simp)); clear hb2)
    | (go_at_call 56; rcases hr with hr | hr; (omega); refine (szMs_any oa m d r _ hr.1 (by omega) hm).mono ?_; rintro e w3 ⟨r2, rfl, hw, hr2⟩; have hw2 := hw.symm; subst hw2))
  · go_ret
    exact ⟨_, rfl, Or.inl rfl, HB2.out⟩
  · go_ret
    exact ⟨_, rfl, Or.inl rfl, HB2.out⟩
  · have h2 : 0 ≤ r2 := by assumption
    go_ret
    refine ⟨_, rfl, Or.inr ⟨h2, ?_⟩, HB2.out⟩
    obtain ⟨_, g1, g2, g3⟩ := hr
    rcases hr2 with e | ⟨_, e1, e2⟩
    · omega
    · exact ⟨by omega, by omega, by omega, g3⟩

set_option maxHeartbeats 1000000 in
theorem eqSt_any (k f : Int) (ia ib oa ob : Option Addr) (n m c0 c1 d0 d1 : Nat) (cs : List Co) (ms : List Mb) (w : World) (hn : n ≤ 1048576) (hm : m ≤ 1048576) (hk : ∀ j, j < n → (cs.getD j C0).l.length ≤ 1048576) (ha : StAt w ia n oa m cs ms) (hb : StAt w ib n ob m cs ms) :
    Calls Try.prog 33 #[.agg #[.int .i64 k, .int .i64 f, .slice ia n c0, .slice oa m d0], .agg #[.int .i64 k, .int .i64 f, .slice ib n c1, .slice ob m d1]] w fun e w' => e = .returned (.bool true) ∧ Below w.heap.size w w' := by
  have hbx : Below w.heap.size w ((w.alloc (.cells #[.int .i64 k, .int .i64 f, .slice ia n c0, .slice oa m d0] 61)).alloc (.cells #[.int .i64 k, .int .i64 f, .slice ib n c1, .slice ob m d1] 61)) := below_box2 _ _
  have hS := eqCs_any ia ib n c0 c1 cs _ hn hk (ha.c.below hbx (Nat.le_refl _)) (hb.c.below hbx (Nat.le_refl _))
  have T0 := show Hid (((w.alloc (.cells #[.int .i64 k, .int .i64 f, .slice ia n c0, .slice oa m d0] 61)).alloc (.cells #[.int .i64 k, .int .i64 f, .slice ib n c1, .slice ob m d1] 61)).heap[w.heap.size]? = some (.cells #[.int .i64 k, .int .i64 f, .slice ia n c0, .slice oa m d0] 61 (0, 0))) from block_at2
  have T1 := show Hid (((w.alloc (.cells #[.int .i64 k, .int .i64 f, .slice ia n c0, .slice oa m d0] 61)).alloc (.cells #[.int .i64 k, .int .i64 f, .slice ib n c1, .slice ob m d1] 61)).heap[w.heap.size + 1]? = some (.cells #[.int .i64 k, .int .i64 f, .slice ib n c1, .slice ob m d1] 61 (0, 0))) from heap_alloc_at _ _ _ (by simp)
  have HBX : Hid (Below w.heap.size w ((w.alloc (.cells #[.int .i64 k, .int .i64 f, .slice ia n c0, .slice oa m d0] 61)).alloc (.cells #[.int .i64 k, .int .i64 f, .slice ib n c1, .slice ob m d1] 61))) := hbx
  have HA : Hid (MAt w oa m ms) := ha.m
  have HB : Hid (MAt w ob m ms) := hb.m
  clear hbx ha hb hk
  go_enter Try.func33, Try.ntmps33
  go_wp2_with (first
    | (go_at_call 13; (with_reducible refine hS.mono ?_); clear hS; rintro e w2 ⟨rfl, hb2⟩; obtain ⟨⟨p0, p1, p2, p3, _⟩, _⟩ := res4 T0.out hb2 (by simp; omega); obtain ⟨⟨q0, q1, q2, q3, _⟩, _⟩ := res4 T1.out hb2 (by simp); have hbw : Below w.heap.size w w2 := HBX.out.trans (hb2.mono (by simp; omega)); have hO := eqMs_any oa ob m d0 d1 ms w2 hm (HA.out.below hbw (Nat.le_refl _)) (HB.out.below hbw (Nat.le_refl _)); clear hb2)
    | (go_at_call 60; (with_reducible refine hO.mono ?_); clear hO; rintro e w3 ⟨rfl, hb3⟩))
  go_ret
  exact ⟨rfl, hbw.trans (hb3.mono hbw.size)⟩

theorem CAtN.set {w : World} {base g n B i : Nat} {cs : List Co} (h : CAtN w base g n cs) (hB : B < base) (u : Value) : CAtN (w.setCell ⟨B, i, none⟩ u) base g n cs := by
  obtain ⟨hn, hb, hg, hc⟩ := h
  have kc : ∀ o, (w.setCell ⟨B, i, none⟩ u).cell? ⟨g, o, none⟩ = w.cell? ⟨g, o, none⟩ := fun o => World.cell?_of_block (Below.heap_setCell _ ⟨B, i, none⟩ u g (show g ≠ B by omega))
  refine ⟨hn, hb, by simpa using hg, fun j hj => ?_⟩
  obtain ⟨kg, kk, ⟨h0, h1, h2, h3, h4, h5, h6, h7⟩, h8, h9, h10⟩ := hc j hj
  exact ⟨kg, kk, ⟨(kc _).trans h0, (kc _).trans h1, (kc _).trans h2, (kc _).trans h3, (kc _).trans h4, (kc _).trans h5, (kc _).trans h6, (kc _).trans h7⟩, h8, h9, h10.setOther (by omega) _⟩
theorem CAtN.mono {w : World} {base base' g n : Nat} {cs : List Co} (h : CAtN w base g n cs) (hb : base' ≤ base) : CAtN w base' g n cs := by
  obtain ⟨hn, h1, hg, hc⟩ := h
  refine ⟨hn, by omega, hg, fun j hj => ?_⟩
  obtain ⟨kg, kk, h0, h4, h5, h6⟩ := hc j hj
  exact ⟨kg, kk, h0, by omega, h5, h6⟩

/-- Three blocks of four cells: what came in, the result, the copy under way. -/
structure StB3 (w v : World) (p0 p1 p2 p3 o0 o1 o2 o3 : Value) : Prop where
  p : v.heap[w.heap.size]? = some (.cells #[p0, p1, p2, p3] 56 (0, 0))
  r : v.heap[w.heap.size + 1]? = some (.cells #[.int .i64 0, .int .i64 0, .slice none 0 0, .slice none 0 0] 61 (0, 0))
  o : v.heap[w.heap.size + 1 + 1]? = some (.cells #[o0, o1, o2, o3] 61 (0, 0))
  bel : Below w.heap.size w v
section
variable {w v v' : World} {p0 p1 p2 p3 o0 o1 o2 o3 : Value}
theorem StB3.step (h : StB3 w v p0 p1 p2 p3 o0 o1 o2 o3) (hb : Below v.heap.size v v') : StB3 w v' p0 p1 p2 p3 o0 o1 o2 o3 := ⟨(keepb h.p hb).out, (keepb h.r hb).out, (keepb h.o hb).out, h.bel.trans (hb.mono h.bel.size)⟩
theorem StB3.set {i : Nat} {u q0 q1 q2 q3 : Value} (h : StB3 w v p0 p1 p2 p3 o0 o1 o2 o3) (hq : (#[o0, o1, o2, o3] : Array Value).setIfInBounds i u = #[q0, q1, q2, q3]) : StB3 w (v.setCell ⟨w.heap.size + 1 + 1, i, none⟩ u) p0 p1 p2 p3 q0 q1 q2 q3 := by
  refine ⟨(Below.heap_setCell _ ⟨w.heap.size + 1 + 1, i, none⟩ _ w.heap.size (show w.heap.size ≠ w.heap.size + 1 + 1 by omega)).trans h.p, (Below.heap_setCell _ ⟨w.heap.size + 1 + 1, i, none⟩ _ (w.heap.size + 1) (show w.heap.size + 1 ≠ w.heap.size + 1 + 1 by omega)).trans h.r, ?_, h.bel.setCell (p := ⟨w.heap.size + 1 + 1, i, none⟩) (show w.heap.size ≤ w.heap.size + 1 + 1 by omega) _⟩
  have := Joins.block_setCell (i := i) h.o u
  rw [hq] at this
  exact this
theorem StB3.lt (h : StB3 w v p0 p1 p2 p3 o0 o1 o2 o3) : w.heap.size + 1 + 1 < v.heap.size := lt_of_block h.o
end

/-- A state's copy: its coins and its members lie in new memory. -/
def OutSt (w w' : World) (e : Ending) (k f : Int) (n m : Nat) (cs : List Co) (ms : List Mb) : Prop :=
  ∃ g0 c0 g1 c1, e = .returned (.agg #[.int .i64 k, .int .i64 f, .slice (some ⟨g0, 0, none⟩) n c0, .slice (some ⟨g1, 0, none⟩) m c1]) ∧ (CAtN w' w.heap.size g0 n cs ∧ n ≤ c0 ∧ c0 ≤ maxLen) ∧ w'.ownsRow w.heap.size 129 3 (.slice (some ⟨g1, 0, none⟩) m c1) m (mcells ms) ∧ Below w.heap.size w w'
/-- What a copy is worth: a state that can be read. -/
theorem OutSt.at {w w' : World} {n m g0 c1 g1 : Nat} {cs : List Co} {ms : List Mb} (h0 : CAtN w' w.heap.size g0 n cs) (h1 : w'.ownsRow w.heap.size 129 3 (.slice (some ⟨g1, 0, none⟩) m c1) m (mcells ms)) (hn : ms.length = m) : Hid (StAt w' (some ⟨g0, 0, none⟩) n (some ⟨g1, 0, none⟩) m cs ms) :=
  ⟨h0.at, MAt.owned h1 hn⟩

set_option maxHeartbeats 1000000 in
theorem toSt_any (k f : Int) (ia oa : Option Addr) (n m c d : Nat) (cs : List Co) (ms : List Mb) (w : World) (hn : n ≤ 1048576) (hm : m ≤ 1048576) (hk : ∀ j, j < n → (cs.getD j C0).l.length ≤ 1048576) (h : StAt w ia n oa m cs ms) :
    Calls Try.prog 31 #[.agg #[.int .i64 k, .int .i64 f, .slice ia n c, .slice oa m d]] w fun e w' => OutSt w w' e k f n m cs ms := by
  obtain ⟨t0, t1, t2, t3⟩ := three_blocks w (.cells #[.int .i64 k, .int .i64 f, .slice ia n c, .slice oa m d] 56) (.cells #[.int .i64 0, .int .i64 0, .slice none 0 0, .slice none 0 0] 61) (.cells #[.int .i64 k, .int .i64 f, .slice none 0 0, .slice none 0 0] 61)
  have hT1 : StB3 w (((w.alloc (.cells #[.int .i64 k, .int .i64 f, .slice ia n c, .slice oa m d] 56)).alloc (.cells #[.int .i64 0, .int .i64 0, .slice none 0 0, .slice none 0 0] 61)).alloc (.cells #[.int .i64 k, .int .i64 f, .slice none 0 0, .slice none 0 0] 61)) (.int .i64 k) (.int .i64 f) (.slice ia n c) (.slice oa m d) (.int .i64 k) (.int .i64 f) (.slice none 0 0) (.slice none 0 0) := ⟨t0, t1, t2, below_box3 _ _ _⟩
  have hS := toCs_any ia n c cs (((w.alloc (.cells #[.int .i64 k, .int .i64 f, .slice ia n c, .slice oa m d] 56)).alloc (.cells #[.int .i64 0, .int .i64 0, .slice none 0 0, .slice none 0 0] 61)).alloc (.cells #[.int .i64 k, .int .i64 f, .slice none 0 0, .slice none 0 0] 61)) hn hk (h.c.below hT1.bel (Nat.le_refl _))
  have HT1 := show Hid (StB3 w (((w.alloc (.cells #[.int .i64 k, .int .i64 f, .slice ia n c, .slice oa m d] 56)).alloc (.cells #[.int .i64 0, .int .i64 0, .slice none 0 0, .slice none 0 0] 61)).alloc (.cells #[.int .i64 k, .int .i64 f, .slice none 0 0, .slice none 0 0] 61)) (.int .i64 k) (.int .i64 f) (.slice ia n c) (.slice oa m d) (.int .i64 k) (.int .i64 f) (.slice none 0 0) (.slice none 0 0)) from hT1
  have HSZ := show Hid ((((w.alloc (.cells #[.int .i64 k, .int .i64 f, .slice ia n c, .slice oa m d] 56)).alloc (.cells #[.int .i64 0, .int .i64 0, .slice none 0 0, .slice none 0 0] 61)).alloc (.cells #[.int .i64 k, .int .i64 f, .slice none 0 0, .slice none 0 0] 61)).heap.size = w.heap.size + 1 + 1 + 1) from t3
  have HO : Hid (MAt w oa m ms) := h.m
  obtain ⟨s0, s1, s2, s3, _⟩ := cells4 hT1.p
  clear t0 t1 t2 t3 hT1 h hk
  go_enter Try.func31, Try.ntmps31
  go_wp2_with (first
    | (go_at_call 9; (with_reducible refine hS.mono ?_); clear hS; rintro e w2 ⟨g0, k0, rfl, ho0, hc0, hc1, hb2⟩; rw [HSZ.out] at ho0; have HT2 : Hid (StB3 w w2 (.int .i64 k) (.int .i64 f) (.slice ia n c) (.slice oa m d) (.int .i64 k) (.int .i64 f) (.slice none 0 0) (.slice none 0 0)) := HT1.out.step hb2; have HT3 : Hid (StB3 w (w2.setCell ⟨w.heap.size + 1 + 1, 2, none⟩ (.slice (some ⟨g0, 0, none⟩) n k0)) (.int .i64 k) (.int .i64 f) (.slice ia n c) (.slice oa m d) (.int .i64 k) (.int .i64 f) (.slice (some ⟨g0, 0, none⟩) n k0) (.slice none 0 0)) := HT2.out.set (i := 2) rfl; have HROW : Hid (CAtN (w2.setCell ⟨w.heap.size + 1 + 1, 2, none⟩ (.slice (some ⟨g0, 0, none⟩) n k0)) (w.heap.size + 1 + 1 + 1) g0 n cs) := ho0.set (by omega) _; have HCP : Hid (n ≤ k0 ∧ k0 ≤ maxLen) := ⟨hc0, hc1⟩; obtain ⟨u0, u1, u2, u3, _⟩ := cells4 HT2.out.p; obtain ⟨v0, v1, v2, v3, v4, v5, v6, v7⟩ := cells4 HT2.out.o; obtain ⟨x0, x1, x2, x3, _⟩ := cells4 HT3.out.p; have hSO := toMs_any oa m d ms _ hm (HO.out.below HT3.out.bel (Nat.le_refl _)); clear ho0 hb2 hc0 hc1)
    | (go_at_call 58; (with_reducible refine hSO.mono ?_); clear hSO; rintro e w3 ⟨g1, k1, rfl, hn3, hb3⟩; have HT4 : Hid (StB3 w w3 (.int .i64 k) (.int .i64 f) (.slice ia n c) (.slice oa m d) (.int .i64 k) (.int .i64 f) (.slice (some ⟨g0, 0, none⟩) n k0) (.slice none 0 0)) := HT3.out.step hb3; have HROX : Hid (CAtN w3 (w.heap.size + 1 + 1 + 1) g0 n cs) := HROW.out.below hb3; have hlt3 := HT3.out.lt; have HON : Hid (w3.ownsRow (w2.setCell ⟨w.heap.size + 1 + 1, 2, none⟩ (.slice (some ⟨g0, 0, none⟩) n k0)).heap.size 129 3 (.slice (some ⟨g1, 0, none⟩) m k1) m (mcells ms)) := hn3; have hlt4 : w.heap.size + 1 + 1 < (w2.setCell ⟨w.heap.size + 1 + 1, 2, none⟩ (.slice (some ⟨g0, 0, none⟩) n k0)).heap.size := hlt3; have HL4 : Hid (w.heap.size + 1 + 1 < (w2.setCell ⟨w.heap.size + 1 + 1, 2, none⟩ (.slice (some ⟨g0, 0, none⟩) n k0)).heap.size) := hlt4; obtain ⟨a0, a1, a2, a3, a4, a5, a6, a7⟩ := cells4 HT4.out.o; obtain ⟨b0, b1, b2, b3, b4, b5, b6, b7⟩ := cells4 HT4.out.r; have HT5 : Hid (StB3 w (w3.setCell ⟨w.heap.size + 1 + 1, 3, none⟩ (.slice (some ⟨g1, 0, none⟩) m k1)) (.int .i64 k) (.int .i64 f) (.slice ia n c) (.slice oa m d) (.int .i64 k) (.int .i64 f) (.slice (some ⟨g0, 0, none⟩) n k0) (.slice (some ⟨g1, 0, none⟩) m k1)) := HT4.out.set (i := 3) rfl; clear hn3 hb3 hlt3 hlt4))
  obtain ⟨j0, j1, j2, j3⟩ := four_set HT5.out.r (.int .i64 k) (.int .i64 f) (.slice (some ⟨g0, 0, none⟩) n k0) (.slice (some ⟨g1, 0, none⟩) m k1)
  refine bodyPost_ret (v := .agg #[.int .i64 k, .int .i64 f, .slice (some ⟨g0, 0, none⟩) n k0, .slice (some ⟨g1, 0, none⟩) m k1]) (by simp [results, Try.results31, go_sem, j0, j1, j2, j3]) rfl ⟨g0, k0, g1, k1, rfl, ⟨?_, HCP.out⟩, ?_, ?_⟩
  · exact (((((HROX.out.set (by omega) _).set (by omega) _).set (by omega) _).set (by omega) _).set (by omega) _).mono (by omega)
  · have hl := HL4.out
    exact row_res4 (ownsRow_setCell_below HON.out (a := ⟨w.heap.size + 1 + 1, 3, none⟩) hl _) (by omega) (by omega) _ _ _ _
  · exact below_res4 HT5.out.bel _ _ _ _

end Go.Proofs.Ytbjgngabdcknnaa
