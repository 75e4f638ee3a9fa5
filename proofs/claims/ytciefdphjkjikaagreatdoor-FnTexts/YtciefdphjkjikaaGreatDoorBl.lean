/- The specification's ParseTx keeps its contract, whatever text comes in. -/
import Derived.Test.YtciefdphjkjikaaGreatDoorBk
namespace Go.Proofs.YtciefdphjkjikaaGreatDoor
open Go.RowKit Go.Shelf Go.Maps Go.WideMaps

set_option maxHeartbeats 4000000 in
theorem sParseTx_any (t : List UInt8) (w : World) (ht : t.length ≤ 1048576) : Calls Tryz.prog 8 #[.string (str t)] w fun e w' => OutPt w w' e t := by
  have hs1 : (w.alloc (.cells #[.int .i64 0, .int .i64 0, .int .i64 0, .slice none 0 0, .slice none 0 0] 30)).heap.size = w.heap.size + 1 := by simp
  have HB1 : Hid (Below w.heap.size w (w.alloc (.cells #[.int .i64 0, .int .i64 0, .int .i64 0, .slice none 0 0, .slice none 0 0] 30))) := below_box _
  have HR1 : Hid ((w.alloc (.cells #[.int .i64 0, .int .i64 0, .int .i64 0, .slice none 0 0, .slice none 0 0] 30)).heap[w.heap.size]? = some (.cells #[.int .i64 0, .int .i64 0, .int .i64 0, .slice none 0 0, .slice none 0 0] 30 (0, 0))) := heap_alloc_new _ _
  have hP := l3Parse_any t (w.alloc (.cells #[.int .i64 0, .int .i64 0, .int .i64 0, .slice none 0 0, .slice none 0 0] 30)) ht
  cases hp : parT t with
  | none =>
    have hP2 : Calls Tryz.prog 25 #[.string (str t)] (w.alloc (.cells #[.int .i64 0, .int .i64 0, .int .i64 0, .slice none 0 0, .slice none 0 0] 30)) fun e w' => ∃ (k f : Int) (ia : Option Addr) (n ic : Nat) (oa : Option Addr) (m oc : Nat), e = .returned (.tuple #[.agg #[.int .i64 k, .int .i64 f, .slice ia n ic, .slice oa m oc], .bool false]) ∧ Hid (Below (w.heap.size + 1) (w.alloc (.cells #[.int .i64 0, .int .i64 0, .int .i64 0, .slice none 0 0, .slice none 0 0] 30)) w') := hP.mono fun e w' ⟨hb, h⟩ => by
      rcases h with ⟨x, g0, c0, g1, c1, lo, mid, hi, kv, q, _⟩ | ⟨_, k, f, ia, n, ic, oa, m, oc, q⟩
      · rw [hp] at q; cases q
      · exact ⟨k, f, ia, n, ic, oa, m, oc, q, by rw [← hs1]; exact hb⟩
    clear hP
    go_enter Tryz.func8, Tryz.ntmps8
    go_wp2_with (first | (go_at_call 25; (with_reducible refine hP2.mono ?_); clear hP2; rintro e w2 ⟨k, f, ia, n, ic, oa, m, oc, rfl, HB2⟩; have HB3 : Hid (Below w.heap.size w (w2.alloc (.cells #[.int .i64 k, .int .i64 f, .slice ia n ic, .slice oa m oc] 28))) := (HB1.out.trans (HB2.out.mono (by omega))).trans ((below_box _).mono (HB1.out.trans (HB2.out.mono (by omega))).size); have HR3 : Hid ((w2.alloc (.cells #[.int .i64 k, .int .i64 f, .slice ia n ic, .slice oa m oc] 28)).heap[w.heap.size]? = some (.cells #[.int .i64 0, .int .i64 0, .int .i64 0, .slice none 0 0, .slice none 0 0] 30 (0, 0))) := keepb ((HB2.out.block w.heap.size (by omega)).trans HR1.out) (below_box _); obtain ⟨y0, y1, y2, y3, y4⟩ := cells5V HR3.out; have z0 := Joins.unfrozen_of_block HR3.out 0; have z1 := Joins.unfrozen_of_block HR3.out 1; have z2 := Joins.unfrozen_of_block HR3.out 2; have z3 := Joins.unfrozen_of_block HR3.out 3; have z4 := Joins.unfrozen_of_block HR3.out 4))
    obtain ⟨j0, j1, j2, j3, j4⟩ := cells5V (set5V5 HR3.out (.int .i64 5) (.int .i64 0) (.int .i64 0) (.slice none 0 0) (.slice none 0 0))
    refine bodyPost_ret (v := .agg #[.int .i64 5, .int .i64 0, .int .i64 0, .slice none 0 0, .slice none 0 0]) (by simp [results, Tryz.results8, go_sem, j0, j1, j2, j3, j4]) rfl ?_
    exact ⟨below_set5V HB3.out (Nat.le_refl _) _ _ _ _ _, .inr ⟨hp, rfl⟩⟩
  | some x =>
    have hP2 : Calls Tryz.prog 25 #[.string (str t)] (w.alloc (.cells #[.int .i64 0, .int .i64 0, .int .i64 0, .slice none 0 0, .slice none 0 0] 30)) fun e w' => ∃ g0 c0 g1 c1 lo mid hi kv, e = .returned (.tuple #[.agg #[.int .i64 x.k, .int .i64 x.f, .slice (some ⟨g0, 0, none⟩) x.rs.length c0, .slice (some ⟨g1, 0, none⟩) x.os.length c1], .bool true]) ∧ Hid (TOwn w' lo mid hi x.rs.length x.os.length g0 c0 g1 c1 x.rs x.os kv ∧ w.heap.size + 1 ≤ lo ∧ hi ≤ w'.heap.size) ∧ Hid (Below (w.heap.size + 1) (w.alloc (.cells #[.int .i64 0, .int .i64 0, .int .i64 0, .slice none 0 0, .slice none 0 0] 30)) w') := hP.mono fun e w' ⟨hb, h⟩ => by
      rcases h with ⟨y, g0, c0, g1, c1, lo, mid, hi, kv, q, q1, q2, q3, q4⟩ | ⟨q, _⟩
      · rw [hp] at q
        cases q
        rw [hs1] at q3 hb
        exact ⟨g0, c0, g1, c1, lo, mid, hi, kv, q1, ⟨q2, q3, q4⟩, hb⟩
      · rw [hp] at q; cases q
    clear hP
    obtain ⟨k, f, rs, os⟩ := x
    simp only at hP2
    obtain ⟨n, hn⟩ : ∃ n, n = rs.length := ⟨_, rfl⟩
    obtain ⟨m, hmm⟩ : ∃ m, m = os.length := ⟨_, rfl⟩
    rw [← hn, ← hmm] at hP2
    have HNR : Hid (rs.length = n) := hn.symm
    have HMR : Hid (os.length = m) := hmm.symm
    have HP : Hid (parT t = some ⟨k, f, rs, os⟩) := hp
    clear hn hmm hp
    go_enter Tryz.func8, Tryz.ntmps8
    go_wp2_with (first | (go_at_call 25; (with_reducible refine hP2.mono ?_); clear hP2; rintro e w2 ⟨g0, c0, g1, c1, lo, mid, hi, kv, rfl, HT2, HB2⟩; have HB3 : Hid (Below w.heap.size w (w2.alloc (.cells #[.int .i64 k, .int .i64 f, .slice (some ⟨g0, 0, none⟩) n c0, .slice (some ⟨g1, 0, none⟩) m c1] 28))) := (HB1.out.trans (HB2.out.mono (by omega))).trans ((below_box _).mono (HB1.out.trans (HB2.out.mono (by omega))).size); have HR3 : Hid ((w2.alloc (.cells #[.int .i64 k, .int .i64 f, .slice (some ⟨g0, 0, none⟩) n c0, .slice (some ⟨g1, 0, none⟩) m c1] 28)).heap[w.heap.size]? = some (.cells #[.int .i64 0, .int .i64 0, .int .i64 0, .slice none 0 0, .slice none 0 0] 30 (0, 0))) := keepb ((HB2.out.block w.heap.size (by omega)).trans HR1.out) (below_box _); obtain ⟨y0, y1, y2, y3, y4⟩ := cells5V HR3.out; have z0 := Joins.unfrozen_of_block HR3.out 0; have z1 := Joins.unfrozen_of_block HR3.out 1; have z2 := Joins.unfrozen_of_block HR3.out 2; have z3 := Joins.unfrozen_of_block HR3.out 3; have z4 := Joins.unfrozen_of_block HR3.out 4; have HT3 : Hid (TOwn (w2.alloc (.cells #[.int .i64 k, .int .i64 f, .slice (some ⟨g0, 0, none⟩) n c0, .slice (some ⟨g1, 0, none⟩) m c1] 28)) lo mid hi n m g0 c0 g1 c1 rs os kv) := HT2.out.1.below (below_box _)))
    obtain ⟨j0, j1, j2, j3, j4⟩ := cells5V (set5V5 HR3.out (.int .i64 0) (.int .i64 k) (.int .i64 f) (.slice (some ⟨g0, 0, none⟩) n c0) (.slice (some ⟨g1, 0, none⟩) m c1))
    refine bodyPost_ret (v := .agg #[.int .i64 0, .int .i64 k, .int .i64 f, .slice (some ⟨g0, 0, none⟩) n c0, .slice (some ⟨g1, 0, none⟩) m c1]) (by simp [results, Tryz.results8, go_sem, j0, j1, j2, j3, j4]) rfl ?_
    obtain ⟨V, hV⟩ : ∃ V, V = w2.alloc (.cells #[.int .i64 k, .int .i64 f, .slice (some ⟨g0, 0, none⟩) n c0, .slice (some ⟨g1, 0, none⟩) m c1] 28) := ⟨_, rfl⟩
    rw [← hV] at HT3 HB3 ⊢
    have hlo := HT2.out.2.1
    have hhi : hi ≤ V.heap.size := by rw [hV]; have := HT2.out.2.2; simp; omega
    have hcR : Chg V (((((V.setCell ⟨w.heap.size, 0, none⟩ (.int .i64 0)).setCell ⟨w.heap.size, 1, none⟩ (.int .i64 k)).setCell ⟨w.heap.size, 2, none⟩ (.int .i64 f)).setCell ⟨w.heap.size, 3, none⟩ (.slice (some ⟨g0, 0, none⟩) n c0)).setCell ⟨w.heap.size, 4, none⟩ (.slice (some ⟨g1, 0, none⟩) m c1)) w.heap.size (w.heap.size + 1) := (((((Chg.refl _ _ _).setCell ⟨Nat.le_refl _, by omega⟩ _).setCell ⟨Nat.le_refl _, by omega⟩ _).setCell ⟨Nat.le_refl _, by omega⟩ _).setCell ⟨Nat.le_refl _, by omega⟩ _).setCell ⟨Nat.le_refl _, by omega⟩ _
    refine ⟨below_set5V HB3.out (Nat.le_refl _) _ _ _ _ _, .inl ⟨⟨k, f, rs, os⟩, g0, c0, g1, c1, lo, mid, hi, kv, HP.out, ?_, ?_, by omega, Nat.le_trans hhi hcR.size⟩⟩
    · simp only [HNR.out, HMR.out]
    · simp only [HNR.out, HMR.out]
      exact HT3.out.chg hcR (.inr hlo)

end Go.Proofs.YtciefdphjkjikaaGreatDoor
