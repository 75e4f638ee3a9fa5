/- Refs are marked, and the marks are read back. -/
import Derived.Test.YtppfhepipadepaaGreatDoorBl
import Derived.Test.YtppfhepipadepaaGreatDoorJn1
namespace Go.Proofs.YtppfhepipadepaaGreatDoor
open Go.RowKit Go.Maps Go.WideMaps

theorem markRG_round {w wr : World} {base g n cap j k : Nat} (hlt : j < n) (hg : w.grownBy wr (some g))
    (hx : ∃ xs, wr.ownsRow base 115 2 (.slice (some ⟨g, 0, none⟩) n cap) n xs ∧ ∀ t, t < j → xs[t * 2]? = some (.int .i64 (k + 2 * t : Nat)) ∧ xs[t * 2 + 1]? = some (.int .i64 (k + 2 * t + 1 : Nat))) {a b : Int} (ha : a = (k + 2 * j : Nat)) (hb : b = (k + 2 * j + 1 : Nat)) :
    ∃ u v, wr.cell? ⟨g, j * 2, none⟩ = some u ∧ wr.cell? ⟨g, j * 2 + 1, none⟩ = some v ∧ wr.frozen? ⟨g, j * 2, none⟩ = false ∧ wr.frozen? ⟨g, j * 2 + 1, none⟩ = false ∧
      Hid (w.grownBy ((wr.setCell ⟨g, j * 2, none⟩ (.int .i64 a)).setCell ⟨g, j * 2 + 1, none⟩ (.int .i64 b)) (some g) ∧
        ∃ xs, ((wr.setCell ⟨g, j * 2, none⟩ (.int .i64 a)).setCell ⟨g, j * 2 + 1, none⟩ (.int .i64 b)).ownsRow base 115 2 (.slice (some ⟨g, 0, none⟩) n cap) n xs ∧ ∀ t, t < j + 1 → xs[t * 2]? = some (.int .i64 (k + 2 * t : Nat)) ∧ xs[t * 2 + 1]? = some (.int .i64 (k + 2 * t + 1 : Nat))) := by
  subst ha hb
  obtain ⟨xs, ho, hxs⟩ := hx
  have hxl := ho.1
  obtain ⟨r1, r2⟩ := ho.stored (j * 2) (.int .i64 (k + 2 * j : Nat))
  obtain ⟨s1, s2⟩ := r1.stored (j * 2 + 1) (.int .i64 (k + 2 * j + 1 : Nat))
  refine ⟨_, _, (ho.cellAt (j * 2) (by omega)).trans (List.getElem?_eq_getElem (by omega)), (ho.cellAt (j * 2 + 1) (by omega)).trans (List.getElem?_eq_getElem (by omega)), ho.frozenAt _, ho.frozenAt _, ?_, _, s1, fun t ht => ?_⟩
  · exact ⟨s2.os.trans (r2.os.trans hg.os), s2.tape.trans (r2.tape.trans hg.tape), s2.output.trans (r2.output.trans hg.output), Nat.le_trans hg.size (Nat.le_trans r2.size s2.size),
      fun b hbl hne => (s2.block b (Nat.lt_of_lt_of_le hbl (Nat.le_trans hg.size r2.size)) hne).trans ((r2.block b (Nat.lt_of_lt_of_le hbl hg.size) hne).trans (hg.block b hbl hne))⟩
  · by_cases e : j = t
    · subst e
      constructor
      · rw [List.getElem?_set_ne (by omega), List.getElem?_set_self (by omega)]
      · rw [List.getElem?_set_self (by simp; omega)]
    · have := hxs t (by omega)
      constructor
      · rw [List.getElem?_set_ne (by omega), List.getElem?_set_ne (by omega)]; exact this.1
      · rw [List.getElem?_set_ne (by omega), List.getElem?_set_ne (by omega)]; exact this.2

set_option maxHeartbeats 400000 in
theorem markRG_any (v : Value) (n base k : Nat) (xs : List Value) (w : World) (hkn : k + n ≤ 4000000) (ho : w.ownsRow base 115 2 v n xs) :
    Calls Tryz.prog 41 #[v, .int .i64 k] w fun e w' => e = .returned (.int .i64 (k + 2 * n : Nat)) ∧ w'.ownsRow base 115 2 v n (mkG k n) ∧ w.grownBy w' v.ownBlock := by
  rcases id ho.2 with ⟨rfl, rfl⟩ | ⟨g, cap, cur, rfl, hbg, hgg, hnc, hcm, _⟩
  · go_enter Tryz.func41, Tryz.ntmps41
    go_wp2
    refine wp_loop_rounds 1 ?_
    rw [rounds_succ]
    go_wp2
    go_ret
    exact ⟨rfl, World.ownsRow_nil _ _ _ _, World.grownBy.refl _ _⟩
  · have HO : Hid (w.ownsRow base 115 2 (.slice (some ⟨g, 0, none⟩) n cap) n xs) := ho
    clear ho hbg hgg hnc hcm
    go_enter Tryz.func41, Tryz.ntmps41
    go_wp2
    go_loopw [1, 5] (fun a i wr => ∃ j : Nat, j ≤ n ∧ i = .int .i64 j ∧ a = .int .i64 (k + 2 * j : Nat) ∧ Hid (w.grownBy wr (some g)) ∧ Hid (∃ xs, wr.ownsRow base 115 2 (.slice (some ⟨g, 0, none⟩) n cap) n xs ∧ ∀ t, t < j → xs[t * 2]? = some (.int .i64 (k + 2 * t : Nat)) ∧ xs[t * 2 + 1]? = some (.int .i64 (k + 2 * t + 1 : Nat)))) (fun _ i _ => n - (intOf i).toNat)
    case atStart => exact ⟨0, Nat.zero_le _, rfl, rfl, World.grownBy.refl _ _, xs, HO.out, fun t ht => by omega⟩
    case round =>
      obtain ⟨j, hj, rfl, rfl, HG, HX⟩ := hrel
      by_cases hlt : j < n
      · obtain ⟨u, v, c0, c1, f0, f1, HR⟩ := markRG_round hlt HG.out HX.out (a := (k : Int) + 2 * (j : Int)) (b := (k : Int) + 2 * (j : Int) + 1) (by omega) (by omega)
        go_wp2
        go_roundw
        case rel => exact ⟨j + 1, by omega, by go_num, by go_num, HR.out.1, HR.out.2⟩
        case measure => simp [intOf]; omega
      · go_wp2
        go_ret
        obtain ⟨ys, h1, h2⟩ := HX.out
        have hjn : j = n := by omega
        subst hjn
        refine ⟨rfl, ?_, HG.out⟩
        rw [← mkG_of h1.1 h2]
        exact h1

set_option maxHeartbeats 400000 in
theorem heldRG_any (v : Value) (n base k : Nat) (w : World) (hkn : k + n ≤ 4000000) (ho : w.ownsRow base 115 2 v n (mkG k n)) :
    Calls Tryz.prog 43 #[v, .int .i64 k] w fun e w' => e = .returned (.int .i64 (k + 2 * n : Nat)) ∧ w' = w := by
  rcases id ho.2 with ⟨rfl, rfl⟩ | ⟨g, cap, cur, rfl, hbg, hgg, hnc, hcm, _⟩
  · go_enter Tryz.func43, Tryz.ntmps43
    go_wp2
    refine wp_loop_rounds 1 ?_
    rw [rounds_succ]
    go_wp2
    go_ret
    exact ⟨rfl, rfl⟩
  · have HO : Hid (w.ownsRow base 115 2 (.slice (some ⟨g, 0, none⟩) n cap) n (mkG k n)) := ho
    clear ho hbg hgg hnc hcm
    go_enter Tryz.func43, Tryz.ntmps43
    go_wp2
    go_loop [1, 5] (fun a i => ∃ j : Nat, j ≤ n ∧ i = .int .i64 j ∧ a = .int .i64 (k + 2 * j : Nat)) (fun _ i => n - (intOf i).toNat)
    case atStart => exact ⟨0, Nat.zero_le _, rfl, rfl⟩
    case round =>
      obtain ⟨j, hj, rfl, rfl⟩ := hrel
      by_cases hlt : j < n
      · have c0 : w.cell? ⟨g, j * 2, none⟩ = some (.int .i64 ((k : Int) + 2 * (j : Int))) := (HO.out.cellAt (j * 2) (by omega)).trans (by rw [(mkG_at hlt).1]; simp)
        have c1 : w.cell? ⟨g, j * 2 + 1, none⟩ = some (.int .i64 ((k : Int) + 2 * (j : Int) + 1)) := (HO.out.cellAt (j * 2 + 1) (by omega)).trans (by rw [(mkG_at hlt).2]; simp)
        go_wp2
        go_round
        case rel => exact ⟨j + 1, by omega, by go_num, by go_num⟩
        case measure => simp [intOf]; omega
      · go_wp2
        go_ret
        have hjn : j = n := by omega
        subst hjn
        exact ⟨rfl, rfl⟩

end Go.Proofs.YtppfhepipadepaaGreatDoor
