/- Transactions that come in are copied into new memory. -/
import Derived.Test.YtaopblgnmmhjfaaTxF
namespace Go.Proofs.Ytaopblgnmmhjfaa
open Go.RowKit Go.Maps Go.WideMaps

/-- Three blocks of four cells: what came in, the result, the copy under way. -/
structure T3 (w v : World) (p0 p1 p2 p3 o0 o1 o2 o3 : Value) : Prop where
  p : v.heap[w.heap.size]? = some (.cells #[p0, p1, p2, p3] 80 (0, 0))
  r : v.heap[w.heap.size + 1]? = some (.cells #[.int .i64 0, .int .i64 0, .slice none 0 0, .slice none 0 0] 86 (0, 0))
  o : v.heap[w.heap.size + 1 + 1]? = some (.cells #[o0, o1, o2, o3] 86 (0, 0))
  bel : Below w.heap.size w v
section
variable {w v v' : World} {p0 p1 p2 p3 o0 o1 o2 o3 : Value}
theorem T3.step (h : T3 w v p0 p1 p2 p3 o0 o1 o2 o3) (hb : Below v.heap.size v v') : T3 w v' p0 p1 p2 p3 o0 o1 o2 o3 := ⟨(keepb h.p hb).out, (keepb h.r hb).out, (keepb h.o hb).out, h.bel.trans (hb.mono h.bel.size)⟩
theorem T3.set {i : Nat} {u q0 q1 q2 q3 : Value} (h : T3 w v p0 p1 p2 p3 o0 o1 o2 o3) (hq : (#[o0, o1, o2, o3] : Array Value).setIfInBounds i u = #[q0, q1, q2, q3]) : T3 w (v.setCell ⟨w.heap.size + 1 + 1, i, none⟩ u) p0 p1 p2 p3 q0 q1 q2 q3 := by
  refine ⟨(Below.heap_setCell _ ⟨w.heap.size + 1 + 1, i, none⟩ _ w.heap.size (show w.heap.size ≠ w.heap.size + 1 + 1 by omega)).trans h.p, (Below.heap_setCell _ ⟨w.heap.size + 1 + 1, i, none⟩ _ (w.heap.size + 1) (show w.heap.size + 1 ≠ w.heap.size + 1 + 1 by omega)).trans h.r, ?_, h.bel.setCell (p := ⟨w.heap.size + 1 + 1, i, none⟩) (show w.heap.size ≤ w.heap.size + 1 + 1 by omega) _⟩
  have := Joins.block_setCell (i := i) h.o u
  rw [hq] at this
  exact this
theorem T3.lt (h : T3 w v p0 p1 p2 p3 o0 o1 o2 o3) : w.heap.size + 1 + 1 < v.heap.size := lt_of_block h.o
end

/-- A transaction's copy: its refs and its outs lie in new memory. -/
def OutTx (w w' : World) (e : Ending) (k f : Int) (n m : Nat) (rs : List (Int × Int)) (os : List Ou) : Prop :=
  ∃ g0 c0 g1 c1, e = .returned (.agg #[.int .i64 k, .int .i64 f, .slice (some ⟨g0, 0, none⟩) n c0, .slice (some ⟨g1, 0, none⟩) m c1]) ∧ w'.ownsRow w.heap.size 160 2 (.slice (some ⟨g0, 0, none⟩) n c0) n (gcells rs) ∧ OAtN w' w.heap.size g1 m os ∧ Below w.heap.size w w'

set_option maxHeartbeats 1000000 in
theorem toTx_any (k f : Int) (ia oa : Option Addr) (n m c d : Nat) (rs : List (Int × Int)) (os : List Ou) (w : World) (hn : n ≤ 1048576) (hm : m ≤ 1048576) (hk : ∀ j, j < m → (os.getD j O0).l.length ≤ 1048576) (h : TxAt w ia n oa m rs os) :
    Calls Try.prog 60 #[.agg #[.int .i64 k, .int .i64 f, .slice ia n c, .slice oa m d]] w fun e w' => OutTx w w' e k f n m rs os := by
  obtain ⟨t0, t1, t2, t3⟩ := three_blocks w (.cells #[.int .i64 k, .int .i64 f, .slice ia n c, .slice oa m d] 80) (.cells #[.int .i64 0, .int .i64 0, .slice none 0 0, .slice none 0 0] 86) (.cells #[.int .i64 k, .int .i64 f, .slice none 0 0, .slice none 0 0] 86)
  have hT1 : T3 w (((w.alloc (.cells #[.int .i64 k, .int .i64 f, .slice ia n c, .slice oa m d] 80)).alloc (.cells #[.int .i64 0, .int .i64 0, .slice none 0 0, .slice none 0 0] 86)).alloc (.cells #[.int .i64 k, .int .i64 f, .slice none 0 0, .slice none 0 0] 86)) (.int .i64 k) (.int .i64 f) (.slice ia n c) (.slice oa m d) (.int .i64 k) (.int .i64 f) (.slice none 0 0) (.slice none 0 0) := ⟨t0, t1, t2, below_box3 _ _ _⟩
  have hS := toRf_any ia n c rs (((w.alloc (.cells #[.int .i64 k, .int .i64 f, .slice ia n c, .slice oa m d] 80)).alloc (.cells #[.int .i64 0, .int .i64 0, .slice none 0 0, .slice none 0 0] 86)).alloc (.cells #[.int .i64 k, .int .i64 f, .slice none 0 0, .slice none 0 0] 86)) hn (h.r.below hT1.bel (Nat.le_refl _))
  have HT1 := show Hid (T3 w (((w.alloc (.cells #[.int .i64 k, .int .i64 f, .slice ia n c, .slice oa m d] 80)).alloc (.cells #[.int .i64 0, .int .i64 0, .slice none 0 0, .slice none 0 0] 86)).alloc (.cells #[.int .i64 k, .int .i64 f, .slice none 0 0, .slice none 0 0] 86)) (.int .i64 k) (.int .i64 f) (.slice ia n c) (.slice oa m d) (.int .i64 k) (.int .i64 f) (.slice none 0 0) (.slice none 0 0)) from hT1
  have HSZ := show Hid ((((w.alloc (.cells #[.int .i64 k, .int .i64 f, .slice ia n c, .slice oa m d] 80)).alloc (.cells #[.int .i64 0, .int .i64 0, .slice none 0 0, .slice none 0 0] 86)).alloc (.cells #[.int .i64 k, .int .i64 f, .slice none 0 0, .slice none 0 0] 86)).heap.size = w.heap.size + 1 + 1 + 1) from t3
  have HO : Hid (OAt w oa m os) := h.o
  have HK : Hid (∀ j, j < m → (os.getD j O0).l.length ≤ 1048576) := hk
  obtain ⟨s0, s1, s2, s3, _⟩ := cells4 hT1.p
  clear t0 t1 t2 t3 hT1 h hk
  go_enter Try.func60, Try.ntmps60
  go_wp2_with (first
    | (go_at_call 122; refine hS.mono ?_; rintro e w2 ⟨g0, k0, rfl, ho0, hb2⟩; rw [HSZ.out] at ho0; have HT2 : Hid (T3 w w2 (.int .i64 k) (.int .i64 f) (.slice ia n c) (.slice oa m d) (.int .i64 k) (.int .i64 f) (.slice none 0 0) (.slice none 0 0)) := HT1.out.step hb2; have HT3 : Hid (T3 w (w2.setCell ⟨w.heap.size + 1 + 1, 2, none⟩ (.slice (some ⟨g0, 0, none⟩) n k0)) (.int .i64 k) (.int .i64 f) (.slice ia n c) (.slice oa m d) (.int .i64 k) (.int .i64 f) (.slice (some ⟨g0, 0, none⟩) n k0) (.slice none 0 0)) := HT2.out.set (i := 2) rfl; have HROW : Hid ((w2.setCell ⟨w.heap.size + 1 + 1, 2, none⟩ (.slice (some ⟨g0, 0, none⟩) n k0)).ownsRow (w.heap.size + 1 + 1 + 1) 160 2 (.slice (some ⟨g0, 0, none⟩) n k0) n (gcells rs)) := ownsRow_setCell_below ho0 (a := ⟨w.heap.size + 1 + 1, 2, none⟩) (show w.heap.size + 1 + 1 < _ by omega) _; obtain ⟨u0, u1, u2, u3, _⟩ := cells4 HT2.out.p; obtain ⟨v0, v1, v2, v3, v4, v5, v6, v7⟩ := cells4 HT2.out.o; obtain ⟨x0, x1, x2, x3, _⟩ := cells4 HT3.out.p; have hSO := toOs_any oa m d os _ hm HK.out (HO.out.below HT3.out.bel (Nat.le_refl _)); clear ho0 hb2)
    | (go_at_call 123; refine hSO.mono ?_; rintro e w3 ⟨g1, k1, rfl, hn3, hb3⟩; have HT4 : Hid (T3 w w3 (.int .i64 k) (.int .i64 f) (.slice ia n c) (.slice oa m d) (.int .i64 k) (.int .i64 f) (.slice (some ⟨g0, 0, none⟩) n k0) (.slice none 0 0)) := HT3.out.step hb3; have HROW3 : Hid (w3.ownsRow (w.heap.size + 1 + 1 + 1) 160 2 (.slice (some ⟨g0, 0, none⟩) n k0) n (gcells rs)) := HROW.out.kept (grown_of_below hb3) (by simp [Value.ownBlock]); have HON : Hid (OAtN w3 (w.heap.size + 1 + 1 + 1) g1 m os) := hn3.mono (by have := HT3.out.lt; omega); obtain ⟨a0, a1, a2, a3, a4, a5, a6, a7⟩ := cells4 HT4.out.o; obtain ⟨b0, b1, b2, b3, b4, b5, b6, b7⟩ := cells4 HT4.out.r; have HT5 : Hid (T3 w (w3.setCell ⟨w.heap.size + 1 + 1, 3, none⟩ (.slice (some ⟨g1, 0, none⟩) m k1)) (.int .i64 k) (.int .i64 f) (.slice ia n c) (.slice oa m d) (.int .i64 k) (.int .i64 f) (.slice (some ⟨g0, 0, none⟩) n k0) (.slice (some ⟨g1, 0, none⟩) m k1)) := HT4.out.set (i := 3) rfl; clear hn3 hb3))
  obtain ⟨j0, j1, j2, j3⟩ := four_set HT5.out.r (.int .i64 k) (.int .i64 f) (.slice (some ⟨g0, 0, none⟩) n k0) (.slice (some ⟨g1, 0, none⟩) m k1)
  refine bodyPost_ret (v := .agg #[.int .i64 k, .int .i64 f, .slice (some ⟨g0, 0, none⟩) n k0, .slice (some ⟨g1, 0, none⟩) m k1]) (by simp [results, Try.results60, go_sem, j0, j1, j2, j3]) rfl ⟨g0, k0, g1, k1, rfl, ?_, ?_, ?_⟩
  · exact row_res4 (ownsRow_setCell_below HROW3.out (a := ⟨w.heap.size + 1 + 1, 3, none⟩) (show w.heap.size + 1 + 1 < _ by omega) _) (by omega) (by omega) _ _ _ _
  · exact (((((HON.out.set (by omega) _).set (by omega) _).set (by omega) _).set (by omega) _).set (by omega) _).mono (by omega)
  · exact below_res4 HT5.out.bel _ _ _ _

end Go.Proofs.Ytaopblgnmmhjfaa
