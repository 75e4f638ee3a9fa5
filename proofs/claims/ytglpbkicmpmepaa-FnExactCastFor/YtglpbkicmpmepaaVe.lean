/- Nodes of the call's own: marks in them; results with nodes: compared, marked, held. -/
import Derived.Test.YtglpbkicmpmepaaLa
import Derived.Test.YtglpbkicmpmepaaEe
import Derived.Test.YtglpbkicmpmepaaEh
namespace Go.Proofs.Ytglpbkicmpmepaa
open Go.RowKit Go.Maps Go.WideMaps

theorem mark3N_round {w wr : World} {base g n cap j k lo hi : Nat} (hlt : j < n) (hg : Chg w wr lo hi) (hgb : lo ≤ g ∧ g < hi)
    (hx : ∃ xs, wr.ownsRow base 53 3 (.slice (some ⟨g, 0, none⟩) n cap) n xs ∧ ∀ t, t < j * 3 → xs[t]? = some (.int .i64 (k + t : Nat))) {a b c : Int} (ha : a = (k + j * 3 : Nat)) (hb : b = (k + j * 3 + 1 : Nat)) (hc : c = (k + j * 3 + 2 : Nat)) :
    ∃ u0 u1 u2, wr.cell? ⟨g, j * 3, none⟩ = some u0 ∧ wr.cell? ⟨g, j * 3 + 1, none⟩ = some u1 ∧ wr.cell? ⟨g, j * 3 + 2, none⟩ = some u2 ∧ wr.frozen? ⟨g, j * 3, none⟩ = false ∧ wr.frozen? ⟨g, j * 3 + 1, none⟩ = false ∧ wr.frozen? ⟨g, j * 3 + 2, none⟩ = false ∧
      Hid (Chg w (((wr.setCell ⟨g, j * 3, none⟩ (.int .i64 a)).setCell ⟨g, j * 3 + 1, none⟩ (.int .i64 b)).setCell ⟨g, j * 3 + 2, none⟩ (.int .i64 c)) lo hi ∧ ∃ xs, (((wr.setCell ⟨g, j * 3, none⟩ (.int .i64 a)).setCell ⟨g, j * 3 + 1, none⟩ (.int .i64 b)).setCell ⟨g, j * 3 + 2, none⟩ (.int .i64 c)).ownsRow base 53 3 (.slice (some ⟨g, 0, none⟩) n cap) n xs ∧ ∀ t, t < (j + 1) * 3 → xs[t]? = some (.int .i64 (k + t : Nat))) := by
  subst ha hb hc
  obtain ⟨xs, ho, hxs⟩ := hx
  have hxl := ho.1
  have r1 := (ho.stored (j * 3) (.int .i64 (k + j * 3 : Nat))).1
  have r2 := (r1.stored (j * 3 + 1) (.int .i64 (k + j * 3 + 1 : Nat))).1
  have r3 := (r2.stored (j * 3 + 2) (.int .i64 (k + j * 3 + 2 : Nat))).1
  refine ⟨_, _, _, (ho.cellAt (j * 3) (by omega)).trans (List.getElem?_eq_getElem (by omega)), (ho.cellAt (j * 3 + 1) (by omega)).trans (List.getElem?_eq_getElem (by omega)), (ho.cellAt (j * 3 + 2) (by omega)).trans (List.getElem?_eq_getElem (by omega)), ho.frozenAt _, ho.frozenAt _, ho.frozenAt _, ((hg.setCell hgb _).setCell hgb _).setCell hgb _, _, r3, fun t ht => ?_⟩
  by_cases e2 : t = j * 3 + 2
  · subst e2; rw [List.getElem?_set_self (by simp; omega)]; rfl
  · rw [List.getElem?_set_ne (by omega)]
    by_cases e1 : t = j * 3 + 1
    · subst e1; rw [List.getElem?_set_self (by simp; omega)]; rfl
    · rw [List.getElem?_set_ne (by omega)]
      by_cases e0 : t = j * 3
      · subst e0; rw [List.getElem?_set_self (by omega)]
      · rw [List.getElem?_set_ne (by omega)]
        exact hxs t (by omega)

set_option maxHeartbeats 1000000 in
theorem markNs_any (v : Value) (n lo hi k : Nat) (xs : List Value) (w : World) (hn : n ≤ 1048576) (hk : k ≤ 4611686018427387904) (h : OwnR w lo hi 53 3 v n xs) :
    Calls Try.prog 13 #[v, .int .i64 k] w fun e w' => e = .returned (.int .i64 (k + n * 3 : Nat)) ∧ OwnR w' lo hi 53 3 v n (mkI k (n * 3)) ∧ Chg w w' lo hi := by
  have HTB : Hid (∀ b, v.ownBlock = some b → b < hi) := h.tb
  have ho := h.r
  clear h
  rcases id ho.2 with ⟨rfl, rfl⟩ | ⟨g, cap, cur, rfl, hbg, hgg, hnc, hcm, _⟩
  · go_enter Try.func13, Try.ntmps13
    go_wp2
    refine wp_loop_rounds 1 ?_
    rw [rounds_succ]
    go_wp2
    go_ret
    exact ⟨rfl, ⟨World.ownsRow_nil _ _ _ _, fun b hb => by cases hb⟩, Chg.refl _ _ _⟩
  · have HO : Hid (w.ownsRow lo 53 3 (.slice (some ⟨g, 0, none⟩) n cap) n xs) := ho
    have HGB : Hid (lo ≤ g ∧ g < hi) := ⟨(ho.lt g rfl).1, HTB.out g rfl⟩
    clear ho hbg hgg hnc hcm
    go_enter Try.func13, Try.ntmps13
    go_wp2
    go_loopw [1, 5] (fun a i wr => ∃ j : Nat, j ≤ n ∧ i = .int .i64 j ∧ a = .int .i64 (k + j * 3 : Nat) ∧ Hid (Chg w wr lo hi) ∧ Hid (∃ xs, wr.ownsRow lo 53 3 (.slice (some ⟨g, 0, none⟩) n cap) n xs ∧ ∀ t, t < j * 3 → xs[t]? = some (.int .i64 (k + t : Nat)))) (fun _ i _ => n - (intOf i).toNat)
    case atStart => exact ⟨0, Nat.zero_le _, rfl, rfl, Chg.refl _ _ _, xs, HO.out, fun t ht => by omega⟩
    case round =>
      obtain ⟨j, hj, rfl, rfl, HG, HX⟩ := hrel
      by_cases hlt : j < n
      · obtain ⟨u0, u1, u2, c0, c1, c2, f0, f1, f2, HR⟩ := mark3N_round hlt HG.out HGB.out HX.out (a := (k : Int) + (j : Int) * 3) (b := (k : Int) + (j : Int) * 3 + 1) (c := (k : Int) + (j : Int) * 3 + 1 + 1) (by omega) (by omega) (by omega)
        go_wp2
        go_roundw
        case rel => exact ⟨j + 1, by omega, by go_num, by go_num, HR.out.1, HR.out.2⟩
        case measure => simp [intOf]; omega
      · go_wp2
        go_ret
        obtain ⟨ys, h1, h2⟩ := HX.out
        have hjn : j = n := by omega
        subst hjn
        refine ⟨rfl, ⟨?_, HTB.out⟩, HG.out⟩
        rw [← mkI3_of h1.1 h2]
        exact h1

end Go.Proofs.Ytglpbkicmpmepaa
