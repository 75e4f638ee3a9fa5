/- A cluster is marked, and what was marked is held. -/
import Derived.Test.YtmnahhojfcigmaaUj
namespace Go.Proofs.Ytmnahhojfcigmaa
open Go.RowKit Go.Maps Go.WideMaps

theorem mkNs_nil (k : Int) (w : World) (_ : 0 ≤ k) : Calls Try.prog 48 #[.slice none 0 0, .int .i64 k] w fun e w' => e = .returned (.int .i64 k) ∧ w' = w := by
  go_enter Try.func48, Try.ntmps48
  go_wp2
  refine wp_loop_rounds 1 ?_
  rw [rounds_succ]
  go_wp2
  go_ret
  exact ⟨rfl, rfl⟩

theorem mkVos_nil (k : Int) (w : World) (_ : 0 ≤ k) : Calls Try.prog 50 #[.slice none 0 0, .int .i64 k] w fun e w' => e = .returned (.int .i64 k) ∧ w' = w := by
  go_enter Try.func50, Try.ntmps50
  go_wp2
  refine wp_loop_rounds 1 ?_
  rw [rounds_succ]
  go_wp2
  go_ret
  exact ⟨rfl, rfl⟩

theorem mkChs_nil (k : Int) (w : World) (_ : 0 ≤ k) : Calls Try.prog 65 #[.slice none 0 0, .int .i64 k] w fun e w' => e = .returned (.int .i64 k) ∧ w' = w := by
  go_enter Try.func65, Try.ntmps65
  go_wp2
  refine wp_loop_rounds 1 ?_
  rw [rounds_succ]
  go_wp2
  go_ret
  exact ⟨rfl, rfl⟩

theorem mkIs_nil (k : Int) (w : World) (_ : 0 ≤ k) : Calls Try.prog 13 #[.slice none 0 0, .int .i64 k] w fun e w' => e = .returned (.int .i64 k) ∧ w' = w := by
  go_enter Try.func13, Try.ntmps13
  go_wp2
  refine wp_loop_rounds 1 ?_
  rw [rounds_succ]
  go_wp2
  go_ret
  exact ⟨rfl, rfl⟩

theorem hdNs_nil (k : Int) (w : World) (_ : 0 ≤ k) : Calls Try.prog 54 #[.slice none 0 0, .int .i64 k] w fun e w' => e = .returned (.int .i64 k) ∧ w' = w := by
  go_enter Try.func54, Try.ntmps54
  go_wp2
  refine wp_loop_rounds 1 ?_
  rw [rounds_succ]
  go_wp2
  go_ret
  exact ⟨rfl, rfl⟩

theorem hdVos_nil (k : Int) (w : World) (_ : 0 ≤ k) : Calls Try.prog 56 #[.slice none 0 0, .int .i64 k] w fun e w' => e = .returned (.int .i64 k) ∧ w' = w := by
  go_enter Try.func56, Try.ntmps56
  go_wp2
  refine wp_loop_rounds 1 ?_
  rw [rounds_succ]
  go_wp2
  go_ret
  exact ⟨rfl, rfl⟩

theorem hdChs_nil (k : Int) (w : World) (_ : 0 ≤ k) : Calls Try.prog 66 #[.slice none 0 0, .int .i64 k] w fun e w' => e = .returned (.int .i64 k) ∧ w' = w := by
  go_enter Try.func66, Try.ntmps66
  go_wp2
  refine wp_loop_rounds 1 ?_
  rw [rounds_succ]
  go_wp2
  go_ret
  exact ⟨rfl, rfl⟩

theorem hdIs_nil (k : Int) (w : World) (_ : 0 ≤ k) : Calls Try.prog 53 #[.slice none 0 0, .int .i64 k] w fun e w' => e = .returned (.int .i64 k) ∧ w' = w := by
  go_enter Try.func53, Try.ntmps53
  go_wp2
  refine wp_loop_rounds 1 ?_
  rw [rounds_succ]
  go_wp2
  go_ret
  exact ⟨rfl, rfl⟩

/-- Voters that are marked. -/
def MkV (xs : List Value) (k n : Nat) : Prop := ∀ j, j < n → xs[j * 3]? = some (.int .i64 (k + j * 2 : Nat)) ∧ xs[j * 3 + 1]? = some (.int .i64 (k + j * 2 + 1 : Nat)) ∧ xs[j * 3 + 2]? = some (.slice none 0 0)
theorem mark2_round {w wr : World} {base g n cap j k : Nat} (hlt : j < n) (hg : w.grownBy wr (some g))
    (hx : ∃ xs, wr.ownsRow base 53 3 (.slice (some ⟨g, 0, none⟩) n cap) n xs ∧ MkV xs k j ∧ ∀ i, i < n → xs[i * 3 + 2]? = some (.slice none 0 0)) {a b : Int} (ha : a = (k + j * 2 : Nat)) (hb : b = (k + j * 2 + 1 : Nat)) :
    ∃ u0 u1, wr.cell? ⟨g, j * 3, none⟩ = some u0 ∧ wr.cell? ⟨g, j * 3 + 1, none⟩ = some u1 ∧ wr.frozen? ⟨g, j * 3, none⟩ = false ∧ wr.frozen? ⟨g, j * 3 + 1, none⟩ = false ∧ wr.cell? ⟨g, j * 3 + 2, none⟩ = some (.slice none 0 0) ∧ ((wr.setCell ⟨g, j * 3, none⟩ (.int .i64 a)).setCell ⟨g, j * 3 + 1, none⟩ (.int .i64 b)).cell? ⟨g, j * 3 + 2, none⟩ = some (.slice none 0 0) ∧
      Hid (w.grownBy ((wr.setCell ⟨g, j * 3, none⟩ (.int .i64 a)).setCell ⟨g, j * 3 + 1, none⟩ (.int .i64 b)) (some g) ∧ ∃ xs, ((wr.setCell ⟨g, j * 3, none⟩ (.int .i64 a)).setCell ⟨g, j * 3 + 1, none⟩ (.int .i64 b)).ownsRow base 53 3 (.slice (some ⟨g, 0, none⟩) n cap) n xs ∧ MkV xs k (j + 1) ∧ ∀ i, i < n → xs[i * 3 + 2]? = some (.slice none 0 0)) := by
  subst ha hb
  obtain ⟨xs, ho, hm, hz⟩ := hx
  have hxl := ho.1
  have r1 := ho.stored (j * 3) (.int .i64 (k + j * 2 : Nat))
  have r2 := r1.1.stored (j * 3 + 1) (.int .i64 (k + j * 2 + 1 : Nat))
  have hz2 : ∀ i, i < n → ((xs.set (j * 3) (.int .i64 (k + j * 2 : Nat))).set (j * 3 + 1) (.int .i64 (k + j * 2 + 1 : Nat)))[i * 3 + 2]? = some (.slice none 0 0) := fun i hi => by
    rw [List.getElem?_set_ne (by omega), List.getElem?_set_ne (by omega)]; exact hz i hi
  refine ⟨_, _, (ho.cellAt (j * 3) (by omega)).trans (List.getElem?_eq_getElem (by omega)), (ho.cellAt (j * 3 + 1) (by omega)).trans (List.getElem?_eq_getElem (by omega)), ho.frozenAt _, ho.frozenAt _, (ho.cellAt (j * 3 + 2) (by omega)).trans (hz j hlt), (r2.1.cellAt (j * 3 + 2) (by omega)).trans (hz2 j hlt), grown_trans (grown_trans hg r1.2) r2.2, _, r2.1, fun i hi => ?_, hz2⟩
  by_cases e : i = j
  · subst e
    refine ⟨?_, ?_, hz2 i hlt⟩
    · rw [List.getElem?_set_ne (by omega), List.getElem?_set_self (by omega)]
    · rw [List.getElem?_set_self (by simp; omega)]
  · obtain ⟨a0, a1, a2⟩ := hm i (by omega)
    refine ⟨?_, ?_, ?_⟩
    · rw [List.getElem?_set_ne (by omega), List.getElem?_set_ne (by omega)]; exact a0
    · rw [List.getElem?_set_ne (by omega), List.getElem?_set_ne (by omega)]; exact a1
    · rw [List.getElem?_set_ne (by omega), List.getElem?_set_ne (by omega)]; exact a2

set_option maxHeartbeats 1000000 in
theorem markUs_any (v : Value) (n base k : Nat) (gs : List Int) (w : World) (hn : n ≤ 1000) (hk : k ≤ 4000000) (hgn : gs.length = n) (ho : w.ownsRow base 53 3 v n (ucells gs)) :
    Calls Try.prog 49 #[v, .int .i64 k] w fun e w' => e = .returned (.int .i64 (k + n * 2 : Nat)) ∧ (∃ xs, w'.ownsRow base 53 3 v n xs ∧ MkV xs k n) ∧ w.grownBy w' v.ownBlock := by
  rcases id ho.2 with ⟨rfl, rfl⟩ | ⟨g, cap, cur, rfl, hbg, hgg, hnc, hcm, _⟩
  · go_enter Try.func49, Try.ntmps49
    go_wp2
    refine wp_loop_rounds 1 ?_
    rw [rounds_succ]
    go_wp2
    go_ret
    exact ⟨rfl, ⟨[], World.ownsRow_nil _ _ _ _, fun j hj => by omega⟩, World.grownBy.refl _ _⟩
  · have HO : Hid (w.ownsRow base 53 3 (.slice (some ⟨g, 0, none⟩) n cap) n (ucells gs)) := ho
    have HZ : Hid (∀ i, i < n → (ucells gs)[i * 3 + 2]? = some (.slice none 0 0)) := fun i hi => (ucells_at gs i (by omega)).2.2
    clear ho hbg hgg hnc hcm
    go_enter Try.func49, Try.ntmps49
    go_wp2
    go_loopw [1, 5] (fun a i wr => ∃ j : Nat, j ≤ n ∧ i = .int .i64 j ∧ a = .int .i64 (k + j * 2 : Nat) ∧ Hid (w.grownBy wr (some g)) ∧ Hid (∃ xs, wr.ownsRow base 53 3 (.slice (some ⟨g, 0, none⟩) n cap) n xs ∧ MkV xs k j ∧ ∀ i, i < n → xs[i * 3 + 2]? = some (.slice none 0 0))) (fun _ i _ => n - (intOf i).toNat)
    case atStart => exact ⟨0, Nat.zero_le _, rfl, rfl, World.grownBy.refl _ _, _, HO.out, fun j hj => by omega, HZ.out⟩
    case round =>
      obtain ⟨j, hj, rfl, rfl, HG, HX⟩ := hrel
      by_cases hlt : j < n
      · obtain ⟨u0, u1, c0, c1, f0, f1, c2, c3, HR⟩ := mark2_round hlt HG.out HX.out (a := (k : Int) + (j : Int) * 2) (b := (k : Int) + (j : Int) * 2 + 1) (by omega) (by omega)
        have hki : (j : Int) < (n : Int) := by omega
        have hcm := fun v : World => mkChs_nil ((k : Int) + (j : Int) * 2 + 1 + 1) v (by omega)
        go_wp2_with (go_at_call 65; refine (hcm _).mono ?_; rintro e w' ⟨rfl, hw⟩; have hw2 := hw.symm; subst hw2)
        go_roundw
        case rel => exact ⟨j + 1, by omega, by go_num, by go_num, HR.out.1, HR.out.2⟩
        case measure => simp [intOf]; omega
      · have hki : ¬ (j : Int) < (n : Int) := by omega
        go_wp2
        go_ret
        obtain ⟨ys, h1, h2, _⟩ := HX.out
        have hjn : j = n := by omega
        subst hjn
        exact ⟨rfl, ⟨ys, h1, h2⟩, HG.out⟩

set_option maxHeartbeats 1000000 in
theorem heldUs_any (v : Value) (n base k : Nat) (xs : List Value) (w : World) (hn : n ≤ 1000) (hk : k ≤ 4000000) (ho : w.ownsRow base 53 3 v n xs) (hm : MkV xs k n) :
    Calls Try.prog 55 #[v, .int .i64 k] w fun e w' => e = .returned (.int .i64 (k + n * 2 : Nat)) ∧ w' = w := by
  rcases id ho.2 with ⟨rfl, rfl⟩ | ⟨g, cap, cur, rfl, hbg, hgg, hnc, hcm, _⟩
  · go_enter Try.func55, Try.ntmps55
    go_wp2
    refine wp_loop_rounds 1 ?_
    rw [rounds_succ]
    go_wp2
    go_ret
    exact ⟨rfl, rfl⟩
  · have HO : Hid (w.ownsRow base 53 3 (.slice (some ⟨g, 0, none⟩) n cap) n xs) := ho
    have HM : Hid (MkV xs k n) := hm
    have hxl : Hid (xs.length = n * 3) := ho.1
    clear ho hbg hgg hnc hcm hm
    go_enter Try.func55, Try.ntmps55
    go_wp2
    go_loopw [1, 5] (fun a i wr => ∃ j : Nat, j ≤ n ∧ i = .int .i64 j ∧ a = .int .i64 (k + j * 2 : Nat) ∧ wr = w) (fun _ i _ => n - (intOf i).toNat)
    case atStart => exact ⟨0, Nat.zero_le _, rfl, rfl, rfl⟩
    case round =>
      obtain ⟨j, hj, rfl, rfl, hw⟩ := hrel
      have hw2 := hw.symm
      subst hw2
      by_cases hlt : j < n
      · obtain ⟨a0, a1, a2⟩ := HM.out j hlt
        have c0 : w.cell? ⟨g, j * 3, none⟩ = some (.int .i64 ((k : Int) + (j : Int) * 2)) := (HO.out.cellAt (j * 3) (by have := hxl.out; omega)).trans (by rw [a0]; simp)
        have c1 : w.cell? ⟨g, j * 3 + 1, none⟩ = some (.int .i64 ((k : Int) + (j : Int) * 2 + 1)) := (HO.out.cellAt (j * 3 + 1) (by have := hxl.out; omega)).trans (by rw [a1]; simp)
        have c2 : w.cell? ⟨g, j * 3 + 2, none⟩ = some (.slice none 0 0) := (HO.out.cellAt (j * 3 + 2) (by have := hxl.out; omega)).trans a2
        have hki : (j : Int) < (n : Int) := by omega
        have hcm := fun v : World => hdChs_nil ((k : Int) + (j : Int) * 2 + 1 + 1) v (by omega)
        have hk0 : ¬ (k : Int) + (j : Int) * 2 + 1 + 1 < 0 := by omega
        clear a0 a1 a2
        go_wp2_with (go_at_call 66; refine (hcm _).mono ?_; rintro e w' ⟨rfl, hw⟩; have hw2 := hw.symm; subst hw2)
        go_roundw
        case rel => exact ⟨j + 1, by omega, by go_num, by go_num, by first | rfl | trivial⟩
        case measure => simp [intOf]; omega
      · have hki : ¬ (j : Int) < (n : Int) := by omega
        go_wp2
        go_ret
        have hjn : j = n := by omega
        subst hjn
        exact ⟨rfl, rfl⟩

set_option maxHeartbeats 1000000 in
theorem markLs_any (a : Option Addr) (n c k : Nat) (w : World) (hn : n ≤ 1000) (hk : k ≤ 4000000) (hL : LAt w a n) :
    Calls Try.prog 51 #[.slice a n c, .int .i64 k] w fun e w' => e = .returned (.int .i64 (k : Nat)) ∧ w' = w := by
  have HL : Hid (LAt w a n) := hL
  clear hL
  have hcm := fun v : World => mkIs_nil (k : Int) v (by omega)
  have hk0 : ¬ (k : Int) < 0 := by omega
  go_enter Try.func51, Try.ntmps51
  go_wp2
  go_loopw [1, 5] (fun a i wr => ∃ j : Nat, j ≤ n ∧ i = .int .i64 j ∧ a = .int .i64 (k : Nat) ∧ wr = w) (fun _ i _ => n - (intOf i).toNat)
  case atStart => exact ⟨0, Nat.zero_le _, rfl, rfl, rfl⟩
  case round =>
    obtain ⟨j, hj, rfl, rfl, hw⟩ := hrel
    have hw2 := hw.symm
    subst hw2
    by_cases hlt : j < n
    · rcases HL.out with h0 | ⟨b0, o0, e0, l0, d0⟩
      · omega
      subst e0
      have x0 := d0 j hlt
      have hki : (j : Int) < (n : Int) := by omega
      clear d0
      go_wp2_with (go_at_call 13; refine (hcm _).mono ?_; rintro e w' ⟨rfl, hw⟩; have hw2 := hw.symm; subst hw2)
      go_roundw
      case rel => exact ⟨j + 1, by omega, by go_num, rfl, by first | rfl | trivial⟩
      case measure => simp [intOf]; omega
    · have hki : ¬ (j : Int) < (n : Int) := by omega
      go_wp2
      go_ret
      exact ⟨rfl, rfl⟩

set_option maxHeartbeats 1000000 in
theorem heldLs_any (a : Option Addr) (n c k : Nat) (w : World) (hn : n ≤ 1000) (hk : k ≤ 4000000) (hL : LAt w a n) :
    Calls Try.prog 57 #[.slice a n c, .int .i64 k] w fun e w' => e = .returned (.int .i64 (k : Nat)) ∧ w' = w := by
  have HL : Hid (LAt w a n) := hL
  clear hL
  have hcm := fun v : World => hdIs_nil (k : Int) v (by omega)
  have hk0 : ¬ (k : Int) < 0 := by omega
  go_enter Try.func57, Try.ntmps57
  go_wp2
  go_loopw [1, 5] (fun a i wr => ∃ j : Nat, j ≤ n ∧ i = .int .i64 j ∧ a = .int .i64 (k : Nat) ∧ wr = w) (fun _ i _ => n - (intOf i).toNat)
  case atStart => exact ⟨0, Nat.zero_le _, rfl, rfl, rfl⟩
  case round =>
    obtain ⟨j, hj, rfl, rfl, hw⟩ := hrel
    have hw2 := hw.symm
    subst hw2
    by_cases hlt : j < n
    · rcases HL.out with h0 | ⟨b0, o0, e0, l0, d0⟩
      · omega
      subst e0
      have x0 := d0 j hlt
      have hki : (j : Int) < (n : Int) := by omega
      clear d0
      go_wp2_with (go_at_call 53; refine (hcm _).mono ?_; rintro e w' ⟨rfl, hw⟩; have hw2 := hw.symm; subst hw2)
      go_roundw
      case rel => exact ⟨j + 1, by omega, by go_num, rfl, by first | rfl | trivial⟩
      case measure => simp [intOf]; omega
    · have hki : ¬ (j : Int) < (n : Int) := by omega
      go_wp2
      go_ret
      exact ⟨rfl, rfl⟩

end Go.Proofs.Ytmnahhojfcigmaa
