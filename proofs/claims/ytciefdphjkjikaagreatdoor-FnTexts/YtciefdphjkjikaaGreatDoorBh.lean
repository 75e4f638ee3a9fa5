/- The program's ParseTx: what its readers panic with is recovered, and the code is told. -/
import Derived.Test.YtciefdphjkjikaaGreatDoorBg
import Derived.Recover
import Derived.Defers
namespace Go.Proofs.YtciefdphjkjikaaGreatDoor
open Go.RowKit Go.Shelf Go.Maps Go.WideMaps

section
variable {w w2 W v : World} {b B : Nat} {c0 c1 c2 c3 c4 : Value} {t : TypeId}
theorem cells5V (h : v.heap[b]? = some (.cells #[c0, c1, c2, c3, c4] t (0, 0))) :
    v.cell? ⟨b, 0, none⟩ = some c0 ∧ v.cell? ⟨b, 1, none⟩ = some c1 ∧ v.cell? ⟨b, 2, none⟩ = some c2 ∧ v.cell? ⟨b, 3, none⟩ = some c3 ∧ v.cell? ⟨b, 4, none⟩ = some c4 :=
  ⟨by unfold World.cell?; rw [h]; rfl, by unfold World.cell?; rw [h]; rfl, by unfold World.cell?; rw [h]; rfl, by unfold World.cell?; rw [h]; rfl, by unfold World.cell?; rw [h]; rfl⟩
theorem set5V1 (h : W.heap[b]? = some (.cells #[c0, c1, c2, c3, c4] t (0, 0))) (v0 : Value) : (W.setCell ⟨b, 0, none⟩ v0).heap[b]? = some (.cells #[v0, c1, c2, c3, c4] t (0, 0)) := by
  have := Joins.block_setCell (i := 0) h v0
  simpa using this
theorem set5V2 (h : W.heap[b]? = some (.cells #[c0, c1, c2, c3, c4] t (0, 0))) (v0 v1 : Value) : ((W.setCell ⟨b, 0, none⟩ v0).setCell ⟨b, 1, none⟩ v1).heap[b]? = some (.cells #[v0, v1, c2, c3, c4] t (0, 0)) := by
  have := Joins.block_setCell (i := 1) (set5V1 h v0) v1
  simpa using this
theorem set5V3 (h : W.heap[b]? = some (.cells #[c0, c1, c2, c3, c4] t (0, 0))) (v0 v1 v2 : Value) : (((W.setCell ⟨b, 0, none⟩ v0).setCell ⟨b, 1, none⟩ v1).setCell ⟨b, 2, none⟩ v2).heap[b]? = some (.cells #[v0, v1, v2, c3, c4] t (0, 0)) := by
  have := Joins.block_setCell (i := 2) (set5V2 h v0 v1) v2
  simpa using this
theorem set5V4 (h : W.heap[b]? = some (.cells #[c0, c1, c2, c3, c4] t (0, 0))) (v0 v1 v2 v3 : Value) : ((((W.setCell ⟨b, 0, none⟩ v0).setCell ⟨b, 1, none⟩ v1).setCell ⟨b, 2, none⟩ v2).setCell ⟨b, 3, none⟩ v3).heap[b]? = some (.cells #[v0, v1, v2, v3, c4] t (0, 0)) := by
  have := Joins.block_setCell (i := 3) (set5V3 h v0 v1 v2) v3
  simpa using this
theorem set5V5 (h : W.heap[b]? = some (.cells #[c0, c1, c2, c3, c4] t (0, 0))) (v0 v1 v2 v3 v4 : Value) : (((((W.setCell ⟨b, 0, none⟩ v0).setCell ⟨b, 1, none⟩ v1).setCell ⟨b, 2, none⟩ v2).setCell ⟨b, 3, none⟩ v3).setCell ⟨b, 4, none⟩ v4).heap[b]? = some (.cells #[v0, v1, v2, v3, v4] t (0, 0)) := by
  have := Joins.block_setCell (i := 4) (set5V4 h v0 v1 v2 v3) v4
  simpa using this
theorem below_set5V (h : Below B w W) (hb : B ≤ b) (v0 v1 v2 v3 v4 : Value) : Below B w (((((W.setCell ⟨b, 0, none⟩ v0).setCell ⟨b, 1, none⟩ v1).setCell ⟨b, 2, none⟩ v2).setCell ⟨b, 3, none⟩ v3).setCell ⟨b, 4, none⟩ v4) :=
  (((((h.setCell (p := ⟨b, 0, none⟩) hb _).setCell (p := ⟨b, 1, none⟩) hb _).setCell (p := ⟨b, 2, none⟩) hb _).setCell (p := ⟨b, 3, none⟩) hb _).setCell (p := ⟨b, 4, none⟩) hb _)
end

theorem catch_pan (B : Nat) (w : World) (hB : w.heap[B]? = some (.cells #[.int .i64 0, .int .i64 0, .int .i64 0, .slice none 0 0, .slice none 0 0] 30 (0, 0))) :
    CallsD Tryz.prog 21 #[.pointer (some ⟨B, 0, none⟩)] (.panicking pnC) w fun e u' w' =>
      e = .returned (.tuple #[]) ∧ u' = .panicking [{ v := pnV, recovered := true }] ∧ w' = (((((w.setCell ⟨B, 0, none⟩ (.int .i64 5)).setCell ⟨B, 1, none⟩ (.int .i64 0)).setCell ⟨B, 2, none⟩ (.int .i64 0)).setCell ⟨B, 3, none⟩ (.slice none 0 0)).setCell ⟨B, 4, none⟩ (.slice none 0 0)) := by
  obtain ⟨c0, c1, c2, c3, c4⟩ := cells5V hB
  have f0 := Joins.unfrozen_of_block hB 0
  have f1 := Joins.unfrozen_of_block hB 1
  have f2 := Joins.unfrozen_of_block hB 2
  have f3 := Joins.unfrozen_of_block hB 3
  have f4 := Joins.unfrozen_of_block hB 4
  refine callsD_of_wpS Tryz.func21 rfl fun c₀ cs hu => ?_
  apply wpS_seq
  apply wpS_region
  simp [wpOpsS, go_sem, recoverD, hu, pnC, pnV, Tryz.ntmps21, Exit.thenS]
  refine wpS_cond (t := true) (by simp [Act.eval, Array.replicate]) ?_
  simp only [if_true]
  apply wpS_region
  simp [wpOpsS, go_sem, c0, c1, c2, c3, c4, f0, f1, f2, f3, f4, bodyPostS, results, Tryz.results21]
theorem catch_idle (B : Nat) (w : World) :
    CallsD Tryz.prog 21 #[.pointer (some ⟨B, 0, none⟩)] .returning w fun e u' w' => e = .returned (.tuple #[]) ∧ u' = .returning ∧ w' = w := by
  refine callsD_of_wpS Tryz.func21 rfl fun c₀ cs hu => ?_
  apply wpS_seq
  apply wpS_region
  simp [wpOpsS, go_sem, recoverD, hu, Tryz.ntmps21, Exit.thenS]
  refine wpS_cond (t := false) (by simp [Act.eval, Array.replicate]) ?_
  simp only [Bool.false_eq_true, if_false]
  refine wpS_of_wp (wp_skip ?_)
  cases c₀
  simp_all [bodyPostS, results, Tryz.results21]

/-- What ParseTx leaves. -/
def OutPt (w w' : World) (e : Ending) (t : List UInt8) : Prop := Below w.heap.size w w' ∧ ((∃ x g0 c0 g1 c1 lo mid hi kv, parT t = some x ∧ e = .returned (.agg #[.int .i64 0, .int .i64 x.k, .int .i64 x.f, .slice (some ⟨g0, 0, none⟩) x.rs.length c0, .slice (some ⟨g1, 0, none⟩) x.os.length c1]) ∧ TOwn w' lo mid hi x.rs.length x.os.length g0 c0 g1 c1 x.rs x.os kv ∧ w.heap.size ≤ lo ∧ hi ≤ w'.heap.size) ∨ (parT t = none ∧ e = .returned (.agg #[.int .i64 5, .int .i64 0, .int .i64 0, .slice none 0 0, .slice none 0 0])))

set_option maxRecDepth 20000 in
set_option maxHeartbeats 4000000 in
theorem iParseTx_any (t : List UInt8) (mx : Int) (w : World) (ht : t.length ≤ 1048576) (hm : w.cell? ⟨1, 0, none⟩ = some (.int .i64 mx)) (hE : Erv w) (hEv : Ev w) :
    Calls Tryz.prog 6 #[.string (str t)] w fun e w' => OutPt w w' e t := by
  have hmf : ∀ (fn : Fn) (first cap : Array Value) (w : World), (Instr.makeFunc fn first cap).run Tryz.prog w = .ok (.func fn first cap) w := fun _ _ _ _ => rfl
  have hb1 : Below w.heap.size w (w.alloc (.cells #[.int .i64 0, .int .i64 0, .int .i64 0, .slice none 0 0, .slice none 0 0] 30)) := below_box _
  have hs1 : (w.alloc (.cells #[.int .i64 0, .int .i64 0, .int .i64 0, .slice none 0 0, .slice none 0 0] 30)).heap.size = w.heap.size + 1 := by simp
  have HB1 : Hid (Below w.heap.size w (w.alloc (.cells #[.int .i64 0, .int .i64 0, .int .i64 0, .slice none 0 0, .slice none 0 0] 30))) := hb1
  have HR1 : Hid ((w.alloc (.cells #[.int .i64 0, .int .i64 0, .int .i64 0, .slice none 0 0, .slice none 0 0] 30)).heap[w.heap.size]? = some (.cells #[.int .i64 0, .int .i64 0, .int .i64 0, .slice none 0 0, .slice none 0 0] 30 (0, 0))) := heap_alloc_new _ _
  have hlm := World.block_lt_of_cell? _ _ hm
  have hRT := readTx_any t mx (w.alloc (.cells #[.int .i64 0, .int .i64 0, .int .i64 0, .slice none 0 0, .slice none 0 0] 30)) ht ((hb1.cell (p := ⟨1, 0, none⟩) hlm).trans hm) (hE.below hb1) (hEv.below hb1 (Nat.le_refl _))
  obtain ⟨B, hBe⟩ : ∃ B, B = w.heap.size := ⟨_, rfl⟩
  clear hm hlm hE hEv hb1
  cases hp : parT t with
  | none =>
    have hRT2 : Calls Tryz.prog 22 #[.string (str t)] (w.alloc (.cells #[.int .i64 0, .int .i64 0, .int .i64 0, .slice none 0 0, .slice none 0 0] 30)) fun e w' => e = .panicked pnC ∧ Hid (Below (w.heap.size + 1) (w.alloc (.cells #[.int .i64 0, .int .i64 0, .int .i64 0, .slice none 0 0, .slice none 0 0] 30)) w') := hRT.mono fun e w' ⟨hb, h⟩ => by
      rcases h with ⟨x, g0, c0, g1, c1, mid, kv, q, _⟩ | ⟨_, q⟩
      · rw [hp] at q; cases q
      · exact ⟨q, by rw [← hs1]; exact hb⟩
    clear hRT
    go_enter_defers Tryz.func6, Tryz.ntmps6
    go_wp2_with (go_at_call 22; (with_reducible refine hRT2.mono ?_); clear hRT2; rintro e w2 ⟨rfl, HB2⟩)
    have hR2 : w2.heap[w.heap.size]? = some (.cells #[.int .i64 0, .int .i64 0, .int .i64 0, .slice none 0 0, .slice none 0 0] 30 (0, 0)) := (HB2.out.block w.heap.size (by omega)).trans HR1.out
    refine leaves_cons (f := 21) (args := #[.pointer (some ⟨w.heap.size, 0, none⟩)]) (by simp) (by simp [go_sem]) ?_
    refine (catch_pan w.heap.size w2 hR2).mono ?_
    rintro e u' w'' ⟨rfl, rfl, rfl⟩
    obtain ⟨j0, j1, j2, j3, j4⟩ := cells5V (set5V5 hR2 (.int .i64 5) (.int .i64 0) (.int .i64 0) (.slice none 0 0) (.slice none 0 0))
    have HF : OutPt w (((((w2.setCell ⟨w.heap.size, 0, none⟩ (.int .i64 5)).setCell ⟨w.heap.size, 1, none⟩ (.int .i64 0)).setCell ⟨w.heap.size, 2, none⟩ (.int .i64 0)).setCell ⟨w.heap.size, 3, none⟩ (.slice none 0 0)).setCell ⟨w.heap.size, 4, none⟩ (.slice none 0 0)) (.returned (.agg #[.int .i64 5, .int .i64 0, .int .i64 0, .slice none 0 0, .slice none 0 0])) t := ⟨below_set5V (HB1.out.trans (HB2.out.mono (by omega))) (Nat.le_refl _) _ _ _ _ _, .inr ⟨hp, rfl⟩⟩
    simp [Leaves, settle, results, Tryz.results6, go_sem, j0, j1, j2, j3, j4]
    exact HF
  | some x =>
    have hRT2 : Calls Tryz.prog 22 #[.string (str t)] (w.alloc (.cells #[.int .i64 0, .int .i64 0, .int .i64 0, .slice none 0 0, .slice none 0 0] 30)) fun e w' => ∃ g0 c0 g1 c1 mid kv, e = .returned (.agg #[.int .i64 x.k, .int .i64 x.f, .slice (some ⟨g0, 0, none⟩) x.rs.length c0, .slice (some ⟨g1, 0, none⟩) x.os.length c1]) ∧ Hid (TOwn w' (w.heap.size + 1) mid w'.heap.size x.rs.length x.os.length g0 c0 g1 c1 x.rs x.os kv) ∧ Hid (Below (w.heap.size + 1) (w.alloc (.cells #[.int .i64 0, .int .i64 0, .int .i64 0, .slice none 0 0, .slice none 0 0] 30)) w') := hRT.mono fun e w' ⟨hb, h⟩ => by
      rcases h with ⟨y, g0, c0, g1, c1, mid, kv, q, q1, q2⟩ | ⟨q, _⟩
      · rw [hp] at q
        cases q
        rw [hs1] at q2 hb
        exact ⟨g0, c0, g1, c1, mid, kv, q1, q2, hb⟩
      · rw [hp] at q; cases q
    clear hRT
    obtain ⟨k, f, rs, os⟩ := x
    simp only at hRT2
    obtain ⟨n, hn⟩ : ∃ n, n = rs.length := ⟨_, rfl⟩
    obtain ⟨m, hmm⟩ : ∃ m, m = os.length := ⟨_, rfl⟩
    rw [← hn, ← hmm] at hRT2
    have HNR : Hid (rs.length = n) := hn.symm
    have HMR : Hid (os.length = m) := hmm.symm
    have HP : Hid (parT t = some ⟨k, f, rs, os⟩) := hp
    clear hn hmm hp
    go_enter_defers Tryz.func6, Tryz.ntmps6
    go_wp2_with (go_at_call 22; (with_reducible refine hRT2.mono ?_); clear hRT2; rintro e w2 ⟨g0, c0, g1, c1, mid, kv, rfl, HT2, HB2⟩; have HR2 : Hid (w2.heap[w.heap.size]? = some (.cells #[.int .i64 0, .int .i64 0, .int .i64 0, .slice none 0 0, .slice none 0 0] 30 (0, 0))) := (HB2.out.block w.heap.size (by omega)).trans HR1.out; obtain ⟨y0, y1, y2, y3, y4⟩ := cells5V HR2.out; have z0 := Joins.unfrozen_of_block HR2.out 0; have z1 := Joins.unfrozen_of_block HR2.out 1; have z2 := Joins.unfrozen_of_block HR2.out 2; have z3 := Joins.unfrozen_of_block HR2.out 3; have z4 := Joins.unfrozen_of_block HR2.out 4)
    refine leaves_cons (f := 21) (args := #[.pointer (some ⟨w.heap.size, 0, none⟩)]) (by simp) (by simp [go_sem]) ?_
    refine (catch_idle w.heap.size _).mono ?_
    rintro e u' w'' ⟨rfl, rfl, rfl⟩
    obtain ⟨j0, j1, j2, j3, j4⟩ := cells5V (set5V5 HR2.out (.int .i64 0) (.int .i64 k) (.int .i64 f) (.slice (some ⟨g0, 0, none⟩) n c0) (.slice (some ⟨g1, 0, none⟩) m c1))
    have hcR : Chg w2 (((((w2.setCell ⟨w.heap.size, 0, none⟩ (.int .i64 0)).setCell ⟨w.heap.size, 1, none⟩ (.int .i64 k)).setCell ⟨w.heap.size, 2, none⟩ (.int .i64 f)).setCell ⟨w.heap.size, 3, none⟩ (.slice (some ⟨g0, 0, none⟩) n c0)).setCell ⟨w.heap.size, 4, none⟩ (.slice (some ⟨g1, 0, none⟩) m c1)) w.heap.size (w.heap.size + 1) := (((((Chg.refl _ _ _).setCell ⟨Nat.le_refl _, by omega⟩ _).setCell ⟨Nat.le_refl _, by omega⟩ _).setCell ⟨Nat.le_refl _, by omega⟩ _).setCell ⟨Nat.le_refl _, by omega⟩ _).setCell ⟨Nat.le_refl _, by omega⟩ _
    have HF : OutPt w (((((w2.setCell ⟨w.heap.size, 0, none⟩ (.int .i64 0)).setCell ⟨w.heap.size, 1, none⟩ (.int .i64 k)).setCell ⟨w.heap.size, 2, none⟩ (.int .i64 f)).setCell ⟨w.heap.size, 3, none⟩ (.slice (some ⟨g0, 0, none⟩) n c0)).setCell ⟨w.heap.size, 4, none⟩ (.slice (some ⟨g1, 0, none⟩) m c1)) (.returned (.agg #[.int .i64 0, .int .i64 k, .int .i64 f, .slice (some ⟨g0, 0, none⟩) n c0, .slice (some ⟨g1, 0, none⟩) m c1])) t := by
      refine ⟨below_set5V (HB1.out.trans (HB2.out.mono (by omega))) (Nat.le_refl _) _ _ _ _ _, .inl ⟨⟨k, f, rs, os⟩, g0, c0, g1, c1, w.heap.size + 1, mid, w2.heap.size, kv, HP.out, ?_, ?_, by omega, hcR.size⟩⟩
      · simp only [HNR.out, HMR.out]
      · simp only [HNR.out, HMR.out]
        exact HT2.out.chg hcR (.inr (Nat.le_refl _))
    simp [Leaves, settle, results, Tryz.results6, go_sem, j0, j1, j2, j3, j4]
    exact HF

end Go.Proofs.YtciefdphjkjikaaGreatDoor
