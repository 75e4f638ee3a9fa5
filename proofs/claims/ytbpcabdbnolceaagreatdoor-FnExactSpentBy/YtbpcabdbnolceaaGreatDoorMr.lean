/- Refs of the call's own are marked. -/
import Derived.Test.YtbpcabdbnolceaaGreatDoorCm
namespace Go.Proofs.YtbpcabdbnolceaaGreatDoor
open Go.RowKit Go.Maps Go.WideMaps

theorem ref_set {wr : World} {base g n cap j : Nat} {xs : List Value} (h : wr.ownsRow base 63 2 (.slice (some ⟨g, 0, none⟩) n cap) n xs) (u0 u1 : Value) :
    ∃ ys, ((wr.setCell ⟨g, j * 2, none⟩ u0).setCell ⟨g, j * 2 + 1, none⟩ u1).ownsRow base 63 2 (.slice (some ⟨g, 0, none⟩) n cap) n ys :=
  ⟨_, ((h.stored (j * 2) u0).1.stored (j * 2 + 1) u1).1⟩
set_option maxHeartbeats 1000000 in
theorem markRf_any (n g cap base k hi : Nat) (xs : List Value) (w : World) (hk : k ≤ 4611686018427387904) (hn : n ≤ 1048576) (ho : w.ownsRow base 63 2 (.slice (some ⟨g, 0, none⟩) n cap) n xs) (hg : base ≤ g ∧ g < hi) :
    Calls Tryz.prog 34 #[.slice (some ⟨g, 0, none⟩) n cap, .int .i64 k] w fun e w' => e = .returned (.int .i64 (k + 2 * n : Nat)) ∧ Chg w w' base hi := by
  have HO : Hid (∃ xs, w.ownsRow base 63 2 (.slice (some ⟨g, 0, none⟩) n cap) n xs) := ⟨xs, ho⟩
  clear ho
  go_enter Tryz.func34, Tryz.ntmps34
  go_wp2
  go_loopw [1, 5] (fun a i wr => ∃ j : Nat, j ≤ n ∧ i = .int .i64 j ∧ a = .int .i64 (k + 2 * j : Nat) ∧ Hid (Chg w wr base hi) ∧ Hid (∃ xs, wr.ownsRow base 63 2 (.slice (some ⟨g, 0, none⟩) n cap) n xs)) (fun _ i _ => n - (intOf i).toNat)
  case atStart => exact ⟨0, Nat.zero_le _, rfl, rfl, Chg.refl _ _ _, HO.out⟩
  case round =>
    obtain ⟨j, hj, rfl, rfl, HC, HX⟩ := hrel
    by_cases hlt : j < n
    · obtain ⟨xs, hx⟩ := HX.out
      have hl := hx.1
      have c0 : wr.cell? ⟨g, j * 2, none⟩ = some (xs[j * 2]'(by omega)) := (hx.cellAt (j * 2) (by omega)).trans (List.getElem?_eq_getElem (by omega))
      have c1 : wr.cell? ⟨g, j * 2 + 1, none⟩ = some (xs[j * 2 + 1]'(by omega)) := (hx.cellAt (j * 2 + 1) (by omega)).trans (List.getElem?_eq_getElem (by omega))
      have f0 := hx.frozenAt (j * 2)
      have f1 := hx.frozenAt (j * 2 + 1)
      generalize xs[j * 2]'(by omega) = v0 at c0
      generalize xs[j * 2 + 1]'(by omega) = v1 at c1
      have HR : Hid (∀ u0 u1 : Value, Chg w ((wr.setCell ⟨g, j * 2, none⟩ u0).setCell ⟨g, j * 2 + 1, none⟩ u1) base hi ∧ ∃ ys, ((wr.setCell ⟨g, j * 2, none⟩ u0).setCell ⟨g, j * 2 + 1, none⟩ u1).ownsRow base 63 2 (.slice (some ⟨g, 0, none⟩) n cap) n ys) := fun u0 u1 => ⟨(HC.out.setCell hg u0).setCell hg u1, ref_set hx u0 u1⟩
      clear hx hl
      go_wp2
      go_roundw
      case rel => exact ⟨j + 1, by omega, by go_num, by go_num, (HR.out _ _).1, (HR.out _ _).2⟩
      case measure => simp [intOf]; omega
    · have hjn : j = n := by omega
      subst hjn
      go_wp2
      go_ret
      exact ⟨rfl, HC.out⟩

end Go.Proofs.YtbpcabdbnolceaaGreatDoor
