/- A transaction of the call's own: its refs' row and its outs; marks are written into it. -/
import Derived.Test.YtjgilpkkfpbefaaGreatDoorDx
import Derived.Test.YtjgilpkkfpbefaaGreatDoorJn2
namespace Go.Proofs.YtjgilpkkfpbefaaGreatDoor
open Go.RowKit Go.Maps Go.WideMaps

structure TOwn (w : World) (lo mid hi n m g0 c0 g1 c1 : Nat) (rs : List (Int × Int)) (os : List Ou) (kv : Nat → Value) : Prop where
  r : w.ownsRow lo 81 2 (.slice (some ⟨g0, 0, none⟩) n c0) n (gcells rs)
  rt : g0 < mid
  o : OOwn w mid hi (.slice (some ⟨g1, 0, none⟩) m c1) m (fun j => os.getD j O0) kv
  lm : lo ≤ mid
  mh : mid ≤ hi
section
variable {w w' : World} {lo mid hi n m g0 c0 g1 c1 : Nat} {rs : List (Int × Int)} {os : List Ou} {kv : Nat → Value}
theorem TOwn.chg (h : TOwn w lo mid hi n m g0 c0 g1 c1 rs os kv) {lo' hi' : Nat} (hc : Chg w w' lo' hi') (hd : hi ≤ lo' ∨ hi' ≤ lo) : TOwn w' lo mid hi n m g0 c0 g1 c1 rs os kv := by
  have h1 := h.lm
  have h2 := h.mh
  have h3 := h.rt
  refine ⟨hc.row h.r fun k hk => ?_, h.rt, h.o.chg hc (by omega), h1, h2⟩
  have a := (h.r.lt k hk).1
  have e : g0 = k := by simpa [Value.ownBlock] using hk
  omega
theorem TOwn.below (h : TOwn w lo mid hi n m g0 c0 g1 c1 rs os kv) (hb : Below w.heap.size w w') : TOwn w' lo mid hi n m g0 c0 g1 c1 rs os kv := h.chg (Chg.of_below hb hi hi) (.inl (Nat.le_refl _))
theorem TOwn.at (h : TOwn w lo mid hi n m g0 c0 g1 c1 rs os kv) (hn : rs.length = n) (hm : os.length = m) (hl : ∀ j, j < m → (os.getD j O0).l.length ≤ 1048576) : TxAt w (some ⟨g0, 0, none⟩) n (some ⟨g1, 0, none⟩) m rs os := ⟨GAt.owned h.r hn, h.o.at hm hl⟩
theorem TOwn.caps (h : TOwn w lo mid hi n m g0 c0 g1 c1 rs os kv) : n ≤ c0 ∧ c0 ≤ maxLen := by
  rcases id h.r.2 with ⟨e, _⟩ | ⟨g', c', cur, e, _, _, k1, k2, _⟩
  · cases e
  · simp at e
    obtain ⟨rfl, rfl⟩ := e
    exact ⟨k1, k2⟩
theorem Chg.wide {lo' hi' : Nat} (h : Chg w w' lo hi) (h1 : lo' ≤ lo) (h2 : hi ≤ hi') : Chg w w' lo' hi' := ⟨h.os, h.tape, h.output, h.size, fun b hb hd => h.block b hb (by omega)⟩
end

set_option maxRecDepth 20000 in
set_option maxHeartbeats 2000000 in
theorem toTxO_any (k f : Int) (ia oa : Option Addr) (n m c d : Nat) (rs : List (Int × Int)) (os : List Ou) (w : World) (hn : n ≤ 1048576) (hm : m ≤ 1048576) (hk : ∀ j, j < m → (os.getD j O0).l.length ≤ 1048576) (h : TxAt w ia n oa m rs os) :
    Calls Tryz.prog 10 #[.agg #[.int .i64 k, .int .i64 f, .slice ia n c, .slice oa m d]] w fun e w' => ∃ g0 c0 g1 c1 mid kv, e = .returned (.agg #[.int .i64 k, .int .i64 f, .slice (some ⟨g0, 0, none⟩) n c0, .slice (some ⟨g1, 0, none⟩) m c1]) ∧ TOwn w' w.heap.size mid w'.heap.size n m g0 c0 g1 c1 rs os kv ∧ Below w.heap.size w w' := by
  obtain ⟨t0, t1, t2, t3⟩ := three_blocks w (.cells #[.int .i64 k, .int .i64 f, .slice ia n c, .slice oa m d] 30) (.cells #[.int .i64 0, .int .i64 0, .slice none 0 0, .slice none 0 0] 46) (.cells #[.int .i64 k, .int .i64 f, .slice none 0 0, .slice none 0 0] 46)
  have hT1 : TxB3 w (((w.alloc (.cells #[.int .i64 k, .int .i64 f, .slice ia n c, .slice oa m d] 30)).alloc (.cells #[.int .i64 0, .int .i64 0, .slice none 0 0, .slice none 0 0] 46)).alloc (.cells #[.int .i64 k, .int .i64 f, .slice none 0 0, .slice none 0 0] 46)) (.int .i64 k) (.int .i64 f) (.slice ia n c) (.slice oa m d) (.int .i64 k) (.int .i64 f) (.slice none 0 0) (.slice none 0 0) := ⟨t0, t1, t2, below_box3 _ _ _⟩
  have hS := toRf_any ia n c rs (((w.alloc (.cells #[.int .i64 k, .int .i64 f, .slice ia n c, .slice oa m d] 30)).alloc (.cells #[.int .i64 0, .int .i64 0, .slice none 0 0, .slice none 0 0] 46)).alloc (.cells #[.int .i64 k, .int .i64 f, .slice none 0 0, .slice none 0 0] 46)) hn (h.r.below hT1.bel (Nat.le_refl _))
  have HT1 := show Hid (TxB3 w (((w.alloc (.cells #[.int .i64 k, .int .i64 f, .slice ia n c, .slice oa m d] 30)).alloc (.cells #[.int .i64 0, .int .i64 0, .slice none 0 0, .slice none 0 0] 46)).alloc (.cells #[.int .i64 k, .int .i64 f, .slice none 0 0, .slice none 0 0] 46)) (.int .i64 k) (.int .i64 f) (.slice ia n c) (.slice oa m d) (.int .i64 k) (.int .i64 f) (.slice none 0 0) (.slice none 0 0)) from hT1
  have HSZ := show Hid ((((w.alloc (.cells #[.int .i64 k, .int .i64 f, .slice ia n c, .slice oa m d] 30)).alloc (.cells #[.int .i64 0, .int .i64 0, .slice none 0 0, .slice none 0 0] 46)).alloc (.cells #[.int .i64 k, .int .i64 f, .slice none 0 0, .slice none 0 0] 46)).heap.size = w.heap.size + 1 + 1 + 1) from t3
  have HO : Hid (OAt w oa m os) := h.o
  have HK : Hid (∀ j, j < m → (os.getD j O0).l.length ≤ 1048576) := hk
  obtain ⟨s0, s1, s2, s3, _⟩ := cells4 hT1.p
  clear t0 t1 t2 t3 hT1 h hk
  go_enter Tryz.func10, Tryz.ntmps10
  go_wp2_with (first
    | (go_at_call 31; refine hS.mono ?_; rintro e w2 ⟨g0, k0, rfl, ho0, hb2⟩; rw [HSZ.out] at ho0; have HT2 : Hid (TxB3 w w2 (.int .i64 k) (.int .i64 f) (.slice ia n c) (.slice oa m d) (.int .i64 k) (.int .i64 f) (.slice none 0 0) (.slice none 0 0)) := HT1.out.step hb2; have HT3 : Hid (TxB3 w (w2.setCell ⟨w.heap.size + 1 + 1, 2, none⟩ (.slice (some ⟨g0, 0, none⟩) n k0)) (.int .i64 k) (.int .i64 f) (.slice ia n c) (.slice oa m d) (.int .i64 k) (.int .i64 f) (.slice (some ⟨g0, 0, none⟩) n k0) (.slice none 0 0)) := HT2.out.set (i := 2) rfl; have HROW : Hid ((w2.setCell ⟨w.heap.size + 1 + 1, 2, none⟩ (.slice (some ⟨g0, 0, none⟩) n k0)).ownsRow (w.heap.size + 1 + 1 + 1) 81 2 (.slice (some ⟨g0, 0, none⟩) n k0) n (gcells rs)) := ownsRow_setCell_below ho0 (a := ⟨w.heap.size + 1 + 1, 2, none⟩) (show w.heap.size + 1 + 1 < _ by omega) _; obtain ⟨u0, u1, u2, u3, _⟩ := cells4 HT2.out.p; obtain ⟨v0, v1, v2, v3, v4, v5, v6, v7⟩ := cells4 HT2.out.o; obtain ⟨x0, x1, x2, x3, _⟩ := cells4 HT3.out.p; have hSO := toOsO_any oa m d os _ hm HK.out (HO.out.below HT3.out.bel (Nat.le_refl _)); clear ho0 hb2)
    | (go_at_call 32; refine hSO.mono ?_; rintro e w3 ⟨g1, k1, kv, rfl, hn3, hb3⟩; have HT4 : Hid (TxB3 w w3 (.int .i64 k) (.int .i64 f) (.slice ia n c) (.slice oa m d) (.int .i64 k) (.int .i64 f) (.slice (some ⟨g0, 0, none⟩) n k0) (.slice none 0 0)) := HT3.out.step hb3; have HTO : Hid (TOwn w3 (w.heap.size + 1 + 1 + 1) (w2.setCell ⟨w.heap.size + 1 + 1, 2, none⟩ (.slice (some ⟨g0, 0, none⟩) n k0)).heap.size w3.heap.size n m g0 k0 g1 k1 rs os kv) := ⟨HROW.out.kept (grown_of_below hb3) (by simp [Value.ownBlock]), (HROW.out.lt g0 rfl).2, hn3, HT3.out.lt, hb3.size⟩; obtain ⟨a0, a1, a2, a3, a4, a5, a6, a7⟩ := cells4 HT4.out.o; obtain ⟨b0, b1, b2, b3, b4, b5, b6, b7⟩ := cells4 HT4.out.r; have HT5 : Hid (TxB3 w (w3.setCell ⟨w.heap.size + 1 + 1, 3, none⟩ (.slice (some ⟨g1, 0, none⟩) m k1)) (.int .i64 k) (.int .i64 f) (.slice ia n c) (.slice oa m d) (.int .i64 k) (.int .i64 f) (.slice (some ⟨g0, 0, none⟩) n k0) (.slice (some ⟨g1, 0, none⟩) m k1)) := HT4.out.set (i := 3) rfl; clear hn3 hb3))
  obtain ⟨j0, j1, j2, j3⟩ := four_set HT5.out.r (.int .i64 k) (.int .i64 f) (.slice (some ⟨g0, 0, none⟩) n k0) (.slice (some ⟨g1, 0, none⟩) m k1)
  refine bodyPost_ret (v := .agg #[.int .i64 k, .int .i64 f, .slice (some ⟨g0, 0, none⟩) n k0, .slice (some ⟨g1, 0, none⟩) m k1]) (by simp [results, Tryz.results10, go_sem, j0, j1, j2, j3]) rfl ⟨g0, k0, g1, k1, (w2.setCell ⟨w.heap.size + 1 + 1, 2, none⟩ (.slice (some ⟨g0, 0, none⟩) n k0)).heap.size, kv, rfl, ?_, ?_⟩
  · have c0 := (Chg.refl w3 w.heap.size (w.heap.size + 1 + 1 + 1)).setCell (g := w.heap.size + 1 + 1) (t := 3) (by omega) (.slice (some ⟨g1, 0, none⟩) m k1)
    have c1 := c0.setCell (g := w.heap.size + 1) (t := 0) (by omega) (.int .i64 k)
    have c2 := c1.setCell (g := w.heap.size + 1) (t := 1) (by omega) (.int .i64 f)
    have c3 := c2.setCell (g := w.heap.size + 1) (t := 2) (by omega) (.slice (some ⟨g0, 0, none⟩) n k0)
    have c4 := c3.setCell (g := w.heap.size + 1) (t := 3) (by omega) (.slice (some ⟨g1, 0, none⟩) m k1)
    have h5 := HTO.out.chg c4 (.inr (Nat.le_refl _))
    have h6 := HTO.out.lm
    refine ⟨Joins.ownsRow_le h5.r (by omega), h5.rt, ?_, by omega, by simpa using h5.mh⟩
    simpa using h5.o
  · exact below_res4 HT5.out.bel _ _ _ _

end Go.Proofs.YtjgilpkkfpbefaaGreatDoor
