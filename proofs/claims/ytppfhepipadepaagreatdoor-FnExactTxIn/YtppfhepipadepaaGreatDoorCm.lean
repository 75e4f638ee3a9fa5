/- Coins of the call's own: their row and their keys' rows; marks are written into them, and read back. -/
import Derived.Test.YtppfhepipadepaaGreatDoorJn2
import Derived.Test.YtppfhepipadepaaGreatDoorJn1
import Derived.OneCell
namespace Go.Proofs.YtppfhepipadepaaGreatDoor
open Go.RowKit Go.Maps Go.WideMaps

set_option maxHeartbeats 400000 in
theorem markK_any (v : Value) (n base k : Nat) (xs : List Value) (w : World) (hkn : k + n ≤ 4611686018427387904) (ho : w.ownsRow base 2 1 v n xs) :
    Calls Tryz.prog 69 #[v, .int .i64 k] w fun e w' => e = .returned (.int .i64 (k + n : Nat)) ∧ w'.ownsRow base 2 1 v n (mkI k n) ∧ w.grownBy w' v.ownBlock := by
  rcases id ho.2 with ⟨rfl, rfl⟩ | ⟨g, cap, cur, rfl, hbg, hgg, hnc, hcm, _⟩
  · go_enter Tryz.func69, Tryz.ntmps69
    go_wp2
    refine wp_loop_rounds 1 ?_
    rw [rounds_succ]
    go_wp2
    go_ret
    exact ⟨rfl, World.ownsRow_nil _ _ _ _, World.grownBy.refl _ _⟩
  · have HO : Hid (w.ownsRow base 2 1 (.slice (some ⟨g, 0, none⟩) n cap) n xs) := ho
    clear ho hbg hgg hnc hcm
    go_enter Tryz.func69, Tryz.ntmps69
    go_wp2
    go_loopw [1, 5] (fun a i wr => ∃ j : Nat, j ≤ n ∧ i = .int .i64 j ∧ a = .int .i64 (k + j : Nat) ∧ Hid (w.grownBy wr (some g)) ∧ Hid (∃ xs, wr.ownsRow base 2 1 (.slice (some ⟨g, 0, none⟩) n cap) n xs ∧ ∀ t, t < j → xs[t]? = some (.int .i64 (k + t : Nat)))) (fun _ i _ => n - (intOf i).toNat)
    case atStart => exact ⟨0, Nat.zero_le _, rfl, rfl, World.grownBy.refl _ _, xs, HO.out, fun t ht => by omega⟩
    case round =>
      obtain ⟨j, hj, rfl, rfl, HG, HX⟩ := hrel
      by_cases hlt : j < n
      · obtain ⟨u, c0, f0, HR⟩ := markI_round hlt HG.out HX.out (a := (k : Int) + (j : Int)) (by omega)
        go_wp2
        go_roundw
        case rel => exact ⟨j + 1, by omega, by go_num, by go_num, HR.out.1, HR.out.2⟩
        case measure => simp [intOf]; omega
      · go_wp2
        go_ret
        obtain ⟨ys, h1, h2⟩ := HX.out
        have hjn : j = n := by omega
        subst hjn
        refine ⟨rfl, ?_, HG.out⟩
        rw [← mkI_of h1.1 h2]
        exact h1

set_option maxHeartbeats 400000 in
theorem heldK_any (v : Value) (n base k : Nat) (w : World) (hkn : k + n ≤ 4611686018427387904) (ho : w.ownsRow base 2 1 v n (mkI k n)) :
    Calls Tryz.prog 70 #[v, .int .i64 k] w fun e w' => e = .returned (.int .i64 (k + n : Nat)) ∧ w' = w := by
  rcases id ho.2 with ⟨rfl, rfl⟩ | ⟨g, cap, cur, rfl, hbg, hgg, hnc, hcm, _⟩
  · go_enter Tryz.func70, Tryz.ntmps70
    go_wp2
    refine wp_loop_rounds 1 ?_
    rw [rounds_succ]
    go_wp2
    go_ret
    exact ⟨rfl, rfl⟩
  · have HO : Hid (w.ownsRow base 2 1 (.slice (some ⟨g, 0, none⟩) n cap) n (mkI k n)) := ho
    clear ho hbg hgg hnc hcm
    go_enter Tryz.func70, Tryz.ntmps70
    go_wp2
    go_loop [1, 5] (fun a i => ∃ j : Nat, j ≤ n ∧ i = .int .i64 j ∧ a = .int .i64 (k + j : Nat)) (fun _ i => n - (intOf i).toNat)
    case atStart => exact ⟨0, Nat.zero_le _, rfl, rfl⟩
    case round =>
      obtain ⟨j, hj, rfl, rfl⟩ := hrel
      by_cases hlt : j < n
      · have c0 : w.cell? ⟨g, j, none⟩ = some (.int .i64 ((k : Int) + (j : Int))) := (HO.out.cellAt j (by omega)).trans (by rw [mkI_at hlt]; simp)
        go_wp2
        go_round
        case rel => exact ⟨j + 1, by omega, by go_num, by go_num⟩
        case measure => simp [intOf]; omega
      · go_wp2
        go_ret
        have hjn : j = n := by omega
        subst hjn
        exact ⟨rfl, rfl⟩

theorem Chg.refl (w : World) (lo hi : Nat) : Chg w w lo hi := ⟨rfl, rfl, rfl, Nat.le_refl _, fun _ _ _ => rfl⟩
theorem Chg.setCell {w W : World} {lo hi g t : Nat} (h : Chg w W lo hi) (hg : lo ≤ g ∧ g < hi) (u : Value) : Chg w (W.setCell ⟨g, t, none⟩ u) lo hi :=
  ⟨h.os, h.tape, h.output, by simpa using h.size, fun b hb ho => (Below.heap_setCell _ ⟨g, t, none⟩ u b (show b ≠ g by omega)).trans (h.block b hb ho)⟩

def mkKs (k n : Nat) : List Int := (List.range n).map fun t => ((k + t : Nat) : Int)
theorem ints_mkKs (k n : Nat) : ints (mkKs k n) = mkI k n := by simp [ints, mkKs, mkI]
theorem mkKs_length (k n : Nat) : (mkKs k n).length = n := by simp [mkKs]
end Go.Proofs.YtppfhepipadepaaGreatDoor
