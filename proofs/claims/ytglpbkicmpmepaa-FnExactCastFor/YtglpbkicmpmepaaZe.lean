/- Choices of the call's own: marks in them; results with a voter: compared, marked, held; a struct in a box of its own. -/
import Derived.Test.YtglpbkicmpmepaaZa
import Derived.Test.YtglpbkicmpmepaaZb
import Derived.Test.YtglpbkicmpmepaaEe
namespace Go.Proofs.Ytglpbkicmpmepaa
open Go.RowKit Go.Maps Go.WideMaps

section
variable {w w2 W v : World} {b B : Nat} {c0 c1 c2 c3 c4 c5 c6 c7 c8 c9 : Value} {t : TypeId}
theorem cells10V (h : v.heap[b]? = some (.cells #[c0, c1, c2, c3, c4, c5, c6, c7, c8, c9] t (0, 0))) :
    v.cell? ⟨b, 0, none⟩ = some c0 ∧ v.cell? ⟨b, 1, none⟩ = some c1 ∧ v.cell? ⟨b, 2, none⟩ = some c2 ∧ v.cell? ⟨b, 3, none⟩ = some c3 ∧ v.cell? ⟨b, 4, none⟩ = some c4 ∧ v.cell? ⟨b, 5, none⟩ = some c5 ∧ v.cell? ⟨b, 6, none⟩ = some c6 ∧ v.cell? ⟨b, 7, none⟩ = some c7 ∧ v.cell? ⟨b, 8, none⟩ = some c8 ∧ v.cell? ⟨b, 9, none⟩ = some c9 :=
  ⟨by unfold World.cell?; rw [h]; rfl, by unfold World.cell?; rw [h]; rfl, by unfold World.cell?; rw [h]; rfl, by unfold World.cell?; rw [h]; rfl, by unfold World.cell?; rw [h]; rfl, by unfold World.cell?; rw [h]; rfl, by unfold World.cell?; rw [h]; rfl, by unfold World.cell?; rw [h]; rfl, by unfold World.cell?; rw [h]; rfl, by unfold World.cell?; rw [h]; rfl⟩
theorem set10V1 (h : W.heap[b]? = some (.cells #[c0, c1, c2, c3, c4, c5, c6, c7, c8, c9] t (0, 0))) (v0 : Value) : (W.setCell ⟨b, 0, none⟩ v0).heap[b]? = some (.cells #[v0, c1, c2, c3, c4, c5, c6, c7, c8, c9] t (0, 0)) := by
  have := Joins.block_setCell (i := 0) h v0
  simpa using this
theorem set10V2 (h : W.heap[b]? = some (.cells #[c0, c1, c2, c3, c4, c5, c6, c7, c8, c9] t (0, 0))) (v0 v1 : Value) : ((W.setCell ⟨b, 0, none⟩ v0).setCell ⟨b, 1, none⟩ v1).heap[b]? = some (.cells #[v0, v1, c2, c3, c4, c5, c6, c7, c8, c9] t (0, 0)) := by
  have := Joins.block_setCell (i := 1) (set10V1 h v0) v1
  simpa using this
theorem set10V3 (h : W.heap[b]? = some (.cells #[c0, c1, c2, c3, c4, c5, c6, c7, c8, c9] t (0, 0))) (v0 v1 v2 : Value) : (((W.setCell ⟨b, 0, none⟩ v0).setCell ⟨b, 1, none⟩ v1).setCell ⟨b, 2, none⟩ v2).heap[b]? = some (.cells #[v0, v1, v2, c3, c4, c5, c6, c7, c8, c9] t (0, 0)) := by
  have := Joins.block_setCell (i := 2) (set10V2 h v0 v1) v2
  simpa using this
theorem set10V4 (h : W.heap[b]? = some (.cells #[c0, c1, c2, c3, c4, c5, c6, c7, c8, c9] t (0, 0))) (v0 v1 v2 v3 : Value) : ((((W.setCell ⟨b, 0, none⟩ v0).setCell ⟨b, 1, none⟩ v1).setCell ⟨b, 2, none⟩ v2).setCell ⟨b, 3, none⟩ v3).heap[b]? = some (.cells #[v0, v1, v2, v3, c4, c5, c6, c7, c8, c9] t (0, 0)) := by
  have := Joins.block_setCell (i := 3) (set10V3 h v0 v1 v2) v3
  simpa using this
theorem set10V5 (h : W.heap[b]? = some (.cells #[c0, c1, c2, c3, c4, c5, c6, c7, c8, c9] t (0, 0))) (v0 v1 v2 v3 v4 : Value) : (((((W.setCell ⟨b, 0, none⟩ v0).setCell ⟨b, 1, none⟩ v1).setCell ⟨b, 2, none⟩ v2).setCell ⟨b, 3, none⟩ v3).setCell ⟨b, 4, none⟩ v4).heap[b]? = some (.cells #[v0, v1, v2, v3, v4, c5, c6, c7, c8, c9] t (0, 0)) := by
  have := Joins.block_setCell (i := 4) (set10V4 h v0 v1 v2 v3) v4
  simpa using this
theorem set10V6 (h : W.heap[b]? = some (.cells #[c0, c1, c2, c3, c4, c5, c6, c7, c8, c9] t (0, 0))) (v0 v1 v2 v3 v4 v5 : Value) : ((((((W.setCell ⟨b, 0, none⟩ v0).setCell ⟨b, 1, none⟩ v1).setCell ⟨b, 2, none⟩ v2).setCell ⟨b, 3, none⟩ v3).setCell ⟨b, 4, none⟩ v4).setCell ⟨b, 5, none⟩ v5).heap[b]? = some (.cells #[v0, v1, v2, v3, v4, v5, c6, c7, c8, c9] t (0, 0)) := by
  have := Joins.block_setCell (i := 5) (set10V5 h v0 v1 v2 v3 v4) v5
  simpa using this
theorem set10V7 (h : W.heap[b]? = some (.cells #[c0, c1, c2, c3, c4, c5, c6, c7, c8, c9] t (0, 0))) (v0 v1 v2 v3 v4 v5 v6 : Value) : (((((((W.setCell ⟨b, 0, none⟩ v0).setCell ⟨b, 1, none⟩ v1).setCell ⟨b, 2, none⟩ v2).setCell ⟨b, 3, none⟩ v3).setCell ⟨b, 4, none⟩ v4).setCell ⟨b, 5, none⟩ v5).setCell ⟨b, 6, none⟩ v6).heap[b]? = some (.cells #[v0, v1, v2, v3, v4, v5, v6, c7, c8, c9] t (0, 0)) := by
  have := Joins.block_setCell (i := 6) (set10V6 h v0 v1 v2 v3 v4 v5) v6
  simpa using this
theorem set10V8 (h : W.heap[b]? = some (.cells #[c0, c1, c2, c3, c4, c5, c6, c7, c8, c9] t (0, 0))) (v0 v1 v2 v3 v4 v5 v6 v7 : Value) : ((((((((W.setCell ⟨b, 0, none⟩ v0).setCell ⟨b, 1, none⟩ v1).setCell ⟨b, 2, none⟩ v2).setCell ⟨b, 3, none⟩ v3).setCell ⟨b, 4, none⟩ v4).setCell ⟨b, 5, none⟩ v5).setCell ⟨b, 6, none⟩ v6).setCell ⟨b, 7, none⟩ v7).heap[b]? = some (.cells #[v0, v1, v2, v3, v4, v5, v6, v7, c8, c9] t (0, 0)) := by
  have := Joins.block_setCell (i := 7) (set10V7 h v0 v1 v2 v3 v4 v5 v6) v7
  simpa using this
theorem set10V9 (h : W.heap[b]? = some (.cells #[c0, c1, c2, c3, c4, c5, c6, c7, c8, c9] t (0, 0))) (v0 v1 v2 v3 v4 v5 v6 v7 v8 : Value) : (((((((((W.setCell ⟨b, 0, none⟩ v0).setCell ⟨b, 1, none⟩ v1).setCell ⟨b, 2, none⟩ v2).setCell ⟨b, 3, none⟩ v3).setCell ⟨b, 4, none⟩ v4).setCell ⟨b, 5, none⟩ v5).setCell ⟨b, 6, none⟩ v6).setCell ⟨b, 7, none⟩ v7).setCell ⟨b, 8, none⟩ v8).heap[b]? = some (.cells #[v0, v1, v2, v3, v4, v5, v6, v7, v8, c9] t (0, 0)) := by
  have := Joins.block_setCell (i := 8) (set10V8 h v0 v1 v2 v3 v4 v5 v6 v7) v8
  simpa using this
theorem set10V10 (h : W.heap[b]? = some (.cells #[c0, c1, c2, c3, c4, c5, c6, c7, c8, c9] t (0, 0))) (v0 v1 v2 v3 v4 v5 v6 v7 v8 v9 : Value) : ((((((((((W.setCell ⟨b, 0, none⟩ v0).setCell ⟨b, 1, none⟩ v1).setCell ⟨b, 2, none⟩ v2).setCell ⟨b, 3, none⟩ v3).setCell ⟨b, 4, none⟩ v4).setCell ⟨b, 5, none⟩ v5).setCell ⟨b, 6, none⟩ v6).setCell ⟨b, 7, none⟩ v7).setCell ⟨b, 8, none⟩ v8).setCell ⟨b, 9, none⟩ v9).heap[b]? = some (.cells #[v0, v1, v2, v3, v4, v5, v6, v7, v8, v9] t (0, 0)) := by
  have := Joins.block_setCell (i := 9) (set10V9 h v0 v1 v2 v3 v4 v5 v6 v7 v8) v9
  simpa using this
theorem below_set10V (h : Below B w W) (hb : B ≤ b) (v0 v1 v2 v3 v4 v5 v6 v7 v8 v9 : Value) : Below B w ((((((((((W.setCell ⟨b, 0, none⟩ v0).setCell ⟨b, 1, none⟩ v1).setCell ⟨b, 2, none⟩ v2).setCell ⟨b, 3, none⟩ v3).setCell ⟨b, 4, none⟩ v4).setCell ⟨b, 5, none⟩ v5).setCell ⟨b, 6, none⟩ v6).setCell ⟨b, 7, none⟩ v7).setCell ⟨b, 8, none⟩ v8).setCell ⟨b, 9, none⟩ v9) :=
  ((((((((((h.setCell (p := ⟨b, 0, none⟩) hb _).setCell (p := ⟨b, 1, none⟩) hb _).setCell (p := ⟨b, 2, none⟩) hb _).setCell (p := ⟨b, 3, none⟩) hb _).setCell (p := ⟨b, 4, none⟩) hb _).setCell (p := ⟨b, 5, none⟩) hb _).setCell (p := ⟨b, 6, none⟩) hb _).setCell (p := ⟨b, 7, none⟩) hb _).setCell (p := ⟨b, 8, none⟩) hb _).setCell (p := ⟨b, 9, none⟩) hb _)
theorem row_set10V {base n size : Nat} {e : TypeId} {u : Value} {xs : List Value} (h : W.ownsRow base e size u n xs) (hb : b < base) (v0 v1 v2 v3 v4 v5 v6 v7 v8 v9 : Value) : ((((((((((W.setCell ⟨b, 0, none⟩ v0).setCell ⟨b, 1, none⟩ v1).setCell ⟨b, 2, none⟩ v2).setCell ⟨b, 3, none⟩ v3).setCell ⟨b, 4, none⟩ v4).setCell ⟨b, 5, none⟩ v5).setCell ⟨b, 6, none⟩ v6).setCell ⟨b, 7, none⟩ v7).setCell ⟨b, 8, none⟩ v8).setCell ⟨b, 9, none⟩ v9).ownsRow base e size u n xs :=
  (ownsRow_setCell_below (ownsRow_setCell_below (ownsRow_setCell_below (ownsRow_setCell_below (ownsRow_setCell_below (ownsRow_setCell_below (ownsRow_setCell_below (ownsRow_setCell_below (ownsRow_setCell_below (ownsRow_setCell_below h (a := ⟨b, 0, none⟩) hb _) (a := ⟨b, 1, none⟩) hb _) (a := ⟨b, 2, none⟩) hb _) (a := ⟨b, 3, none⟩) hb _) (a := ⟨b, 4, none⟩) hb _) (a := ⟨b, 5, none⟩) hb _) (a := ⟨b, 6, none⟩) hb _) (a := ⟨b, 7, none⟩) hb _) (a := ⟨b, 8, none⟩) hb _) (a := ⟨b, 9, none⟩) hb _)
end

theorem keep3V {v v' : World} {P : Nat} {c0 c1 c2 : Value} (hl : P < v.heap.size) (hb : Below v.heap.size v v') (h : v.cell? ⟨P, 0, none⟩ = some c0 ∧ v.cell? ⟨P, 1, none⟩ = some c1 ∧ v.cell? ⟨P, 2, none⟩ = some c2) : v'.cell? ⟨P, 0, none⟩ = some c0 ∧ v'.cell? ⟨P, 1, none⟩ = some c1 ∧ v'.cell? ⟨P, 2, none⟩ = some c2 :=
  ⟨(hb.cell (p := ⟨P, 0, none⟩) hl).trans h.1, (hb.cell (p := ⟨P, 1, none⟩) hl).trans h.2.1, (hb.cell (p := ⟨P, 2, none⟩) hl).trans h.2.2⟩
theorem row_capsV {w : World} {base n c g z : Nat} {xs : List Value} {e : TypeId} (h : w.ownsRow base e z (.slice (some ⟨g, 0, none⟩) n c) n xs) : n ≤ c ∧ c ≤ maxLen := by
  rcases id h.2 with ⟨e, _⟩ | ⟨g', c', cur, e, _, _, k1, k2, _⟩
  · cases e
  · simp at e
    obtain ⟨rfl, rfl⟩ := e
    exact ⟨k1, k2⟩

theorem mark3C_round {w wr : World} {base g n cap j k lo hi : Nat} (hlt : j < n) (hg : Chg w wr lo hi) (hgb : lo ≤ g ∧ g < hi)
    (hx : ∃ xs, wr.ownsRow base 74 3 (.slice (some ⟨g, 0, none⟩) n cap) n xs ∧ ∀ t, t < j * 3 → xs[t]? = some (.int .i64 (k + t : Nat))) {a b c : Int} (ha : a = (k + j * 3 : Nat)) (hb : b = (k + j * 3 + 1 : Nat)) (hc : c = (k + j * 3 + 2 : Nat)) :
    ∃ u0 u1 u2, wr.cell? ⟨g, j * 3, none⟩ = some u0 ∧ wr.cell? ⟨g, j * 3 + 1, none⟩ = some u1 ∧ wr.cell? ⟨g, j * 3 + 2, none⟩ = some u2 ∧ wr.frozen? ⟨g, j * 3, none⟩ = false ∧ wr.frozen? ⟨g, j * 3 + 1, none⟩ = false ∧ wr.frozen? ⟨g, j * 3 + 2, none⟩ = false ∧
      Hid (Chg w (((wr.setCell ⟨g, j * 3, none⟩ (.int .i64 a)).setCell ⟨g, j * 3 + 1, none⟩ (.int .i64 b)).setCell ⟨g, j * 3 + 2, none⟩ (.int .i64 c)) lo hi ∧ ∃ xs, (((wr.setCell ⟨g, j * 3, none⟩ (.int .i64 a)).setCell ⟨g, j * 3 + 1, none⟩ (.int .i64 b)).setCell ⟨g, j * 3 + 2, none⟩ (.int .i64 c)).ownsRow base 74 3 (.slice (some ⟨g, 0, none⟩) n cap) n xs ∧ ∀ t, t < (j + 1) * 3 → xs[t]? = some (.int .i64 (k + t : Nat))) := by
  subst ha hb hc
  obtain ⟨xs, ho, hxs⟩ := hx
  have hxl := ho.1
  have r1 := (ho.stored (j * 3) (.int .i64 (k + j * 3 : Nat))).1
  have r2 := (r1.stored (j * 3 + 1) (.int .i64 (k + j * 3 + 1 : Nat))).1
  have r3 := (r2.stored (j * 3 + 2) (.int .i64 (k + j * 3 + 2 : Nat))).1
  refine ⟨_, _, _, (ho.cellAt (j * 3) (by omega)).trans (List.getElem?_eq_getElem (by omega)), (ho.cellAt (j * 3 + 1) (by omega)).trans (List.getElem?_eq_getElem (by omega)), (ho.cellAt (j * 3 + 2) (by omega)).trans (List.getElem?_eq_getElem (by omega)), ho.frozenAt _, ho.frozenAt _, ho.frozenAt _, ((hg.setCell hgb _).setCell hgb _).setCell hgb _, _, r3, fun t ht => ?_⟩
  by_cases e2 : t = j * 3 + 2
  · subst e2; rw [List.getElem?_set_self (by simp; omega)]; rfl
  · rw [List.getElem?_set_ne (by omega)]
    by_cases e1 : t = j * 3 + 1
    · subst e1; rw [List.getElem?_set_self (by simp; omega)]; rfl
    · rw [List.getElem?_set_ne (by omega)]
      by_cases e0 : t = j * 3
      · subst e0; rw [List.getElem?_set_self (by omega)]
      · rw [List.getElem?_set_ne (by omega)]
        exact hxs t (by omega)

set_option maxHeartbeats 1000000 in
theorem markChs_any (v : Value) (n lo hi k : Nat) (xs : List Value) (w : World) (hn : n ≤ 1048576) (hk : k ≤ 4611686018427387904) (h : OwnR w lo hi 74 3 v n xs) :
    Calls Try.prog 30 #[v, .int .i64 k] w fun e w' => e = .returned (.int .i64 (k + n * 3 : Nat)) ∧ OwnR w' lo hi 74 3 v n (mkI k (n * 3)) ∧ Chg w w' lo hi := by
  have HTB : Hid (∀ b, v.ownBlock = some b → b < hi) := h.tb
  have ho := h.r
  clear h
  rcases id ho.2 with ⟨rfl, rfl⟩ | ⟨g, cap, cur, rfl, hbg, hgg, hnc, hcm, _⟩
  · go_enter Try.func30, Try.ntmps30
    go_wp2
    refine wp_loop_rounds 1 ?_
    rw [rounds_succ]
    go_wp2
    go_ret
    exact ⟨rfl, ⟨World.ownsRow_nil _ _ _ _, fun b hb => by cases hb⟩, Chg.refl _ _ _⟩
  · have HO : Hid (w.ownsRow lo 74 3 (.slice (some ⟨g, 0, none⟩) n cap) n xs) := ho
    have HGB : Hid (lo ≤ g ∧ g < hi) := ⟨(ho.lt g rfl).1, HTB.out g rfl⟩
    clear ho hbg hgg hnc hcm
    go_enter Try.func30, Try.ntmps30
    go_wp2
    go_loopw [1, 5] (fun a i wr => ∃ j : Nat, j ≤ n ∧ i = .int .i64 j ∧ a = .int .i64 (k + j * 3 : Nat) ∧ Hid (Chg w wr lo hi) ∧ Hid (∃ xs, wr.ownsRow lo 74 3 (.slice (some ⟨g, 0, none⟩) n cap) n xs ∧ ∀ t, t < j * 3 → xs[t]? = some (.int .i64 (k + t : Nat)))) (fun _ i _ => n - (intOf i).toNat)
    case atStart => exact ⟨0, Nat.zero_le _, rfl, rfl, Chg.refl _ _ _, xs, HO.out, fun t ht => by omega⟩
    case round =>
      obtain ⟨j, hj, rfl, rfl, HG, HX⟩ := hrel
      by_cases hlt : j < n
      · obtain ⟨u0, u1, u2, c0, c1, c2, f0, f1, f2, HR⟩ := mark3C_round hlt HG.out HGB.out HX.out (a := (k : Int) + (j : Int) * 3) (b := (k : Int) + (j : Int) * 3 + 1) (c := (k : Int) + (j : Int) * 3 + 1 + 1) (by omega) (by omega) (by omega)
        go_wp2
        go_roundw
        case rel => exact ⟨j + 1, by omega, by go_num, by go_num, HR.out.1, HR.out.2⟩
        case measure => simp [intOf]; omega
      · go_wp2
        go_ret
        obtain ⟨ys, h1, h2⟩ := HX.out
        have hjn : j = n := by omega
        subst hjn
        refine ⟨rfl, ⟨?_, HTB.out⟩, HG.out⟩
        rw [← mkI3_of h1.1 h2]
        exact h1

set_option maxHeartbeats 1000000 in
theorem heldChs_any (v : Value) (n lo hi k : Nat) (w : World) (hn : n ≤ 1048576) (hk : k ≤ 1000) (h : OwnR w lo hi 74 3 v n (mkI k (n * 3))) :
    Calls Try.prog 53 #[v, .int .i64 k] w fun e w' => e = .returned (.int .i64 (k + n * 3 : Nat)) ∧ w' = w := by
  have ho := h.r
  clear h
  rcases id ho.2 with ⟨rfl, rfl⟩ | ⟨g, cap, cur, rfl, hbg, hgg, hnc, hcm, _⟩
  · go_enter Try.func53, Try.ntmps53
    go_wp2
    refine wp_loop_rounds 1 ?_
    rw [rounds_succ]
    go_wp2
    go_ret
    exact ⟨rfl, rfl⟩
  · have HO : Hid (w.ownsRow lo 74 3 (.slice (some ⟨g, 0, none⟩) n cap) n (mkI k (n * 3))) := ho
    clear ho hbg hgg hnc hcm
    go_enter Try.func53, Try.ntmps53
    go_wp2
    go_loop [1, 5] (fun a i => ∃ j : Nat, j ≤ n ∧ i = .int .i64 j ∧ a = .int .i64 (k + j * 3 : Nat)) (fun _ i => n - (intOf i).toNat)
    case atStart => exact ⟨0, Nat.zero_le _, rfl, rfl⟩
    case round =>
      obtain ⟨j, hj, rfl, rfl⟩ := hrel
      by_cases hlt : j < n
      · have c0 : w.cell? ⟨g, j * 3, none⟩ = some (.int .i64 ((k : Int) + (j : Int) * 3)) := (HO.out.cellAt (j * 3) (by omega)).trans (by rw [mkI_at (by omega)]; simp)
        have c1 : w.cell? ⟨g, j * 3 + 1, none⟩ = some (.int .i64 ((k : Int) + (j : Int) * 3 + 1)) := (HO.out.cellAt (j * 3 + 1) (by omega)).trans (by rw [mkI_at (by omega)]; simp; omega)
        have c2 : w.cell? ⟨g, j * 3 + 2, none⟩ = some (.int .i64 ((k : Int) + (j : Int) * 3 + 1 + 1)) := (HO.out.cellAt (j * 3 + 2) (by omega)).trans (by rw [mkI_at (by omega)]; simp; omega)
        go_wp2
        go_round
        case rel => exact ⟨j + 1, by omega, by go_num, by go_num⟩
        case measure => simp [intOf]; omega
      · go_wp2
        go_ret
        have hjn : j = n := by omega
        subst hjn
        exact ⟨rfl, rfl⟩

set_option maxHeartbeats 400000 in
theorem eqVR_any (cd : Int) (v : Vo) (k l : Int) (a b : Option Addr) (n c1 c2 : Nat) (ms : List Mb) (w : World) (hl : n ≤ 1048576) (ha : MAt w a n ms) (hb : MAt w b n ms) :
    Calls Try.prog 10 #[.agg #[.int .i64 cd, .int .i64 v.k, .int .i64 v.d, .int .i64 v.b, .int .i64 v.p, .int .i64 v.q, .int .i64 v.t, .int .i64 k, .int .i64 l, .slice a n c1], .agg #[.int .i64 cd, .int .i64 v.k, .int .i64 v.d, .int .i64 v.b, .int .i64 v.p, .int .i64 v.q, .int .i64 v.t, .int .i64 k, .int .i64 l, .slice b n c2]] w fun e w' => e = .returned (.bool true) ∧ Below w.heap.size w w' := by
  have hbx : Below w.heap.size w ((w.alloc (.cells #[.int .i64 cd, .int .i64 v.k, .int .i64 v.d, .int .i64 v.b, .int .i64 v.p, .int .i64 v.q, .int .i64 v.t, .int .i64 k, .int .i64 l, .slice a n c1] 36)).alloc (.cells #[.int .i64 cd, .int .i64 v.k, .int .i64 v.d, .int .i64 v.b, .int .i64 v.p, .int .i64 v.q, .int .i64 v.t, .int .i64 k, .int .i64 l, .slice b n c2] 36)) := below_box2 _ _
  have HA : Hid (MAt ((w.alloc (.cells #[.int .i64 cd, .int .i64 v.k, .int .i64 v.d, .int .i64 v.b, .int .i64 v.p, .int .i64 v.q, .int .i64 v.t, .int .i64 k, .int .i64 l, .slice a n c1] 36)).alloc (.cells #[.int .i64 cd, .int .i64 v.k, .int .i64 v.d, .int .i64 v.b, .int .i64 v.p, .int .i64 v.q, .int .i64 v.t, .int .i64 k, .int .i64 l, .slice b n c2] 36)) a n ms) := ha.below hbx (Nat.le_refl _)
  have HB : Hid (MAt ((w.alloc (.cells #[.int .i64 cd, .int .i64 v.k, .int .i64 v.d, .int .i64 v.b, .int .i64 v.p, .int .i64 v.q, .int .i64 v.t, .int .i64 k, .int .i64 l, .slice a n c1] 36)).alloc (.cells #[.int .i64 cd, .int .i64 v.k, .int .i64 v.d, .int .i64 v.b, .int .i64 v.p, .int .i64 v.q, .int .i64 v.t, .int .i64 k, .int .i64 l, .slice b n c2] 36)) b n ms) := hb.below hbx (Nat.le_refl _)
  have hV := eqVo_any v ((w.alloc (.cells #[.int .i64 cd, .int .i64 v.k, .int .i64 v.d, .int .i64 v.b, .int .i64 v.p, .int .i64 v.q, .int .i64 v.t, .int .i64 k, .int .i64 l, .slice a n c1] 36)).alloc (.cells #[.int .i64 cd, .int .i64 v.k, .int .i64 v.d, .int .i64 v.b, .int .i64 v.p, .int .i64 v.q, .int .i64 v.t, .int .i64 k, .int .i64 l, .slice b n c2] 36))
  have HBX : Hid (Below w.heap.size w ((w.alloc (.cells #[.int .i64 cd, .int .i64 v.k, .int .i64 v.d, .int .i64 v.b, .int .i64 v.p, .int .i64 v.q, .int .i64 v.t, .int .i64 k, .int .i64 l, .slice a n c1] 36)).alloc (.cells #[.int .i64 cd, .int .i64 v.k, .int .i64 v.d, .int .i64 v.b, .int .i64 v.p, .int .i64 v.q, .int .i64 v.t, .int .i64 k, .int .i64 l, .slice b n c2] 36))) := hbx
  have t0 := block_at2 (w := w) (o := .cells #[.int .i64 cd, .int .i64 v.k, .int .i64 v.d, .int .i64 v.b, .int .i64 v.p, .int .i64 v.q, .int .i64 v.t, .int .i64 k, .int .i64 l, .slice a n c1] 36) (o' := .cells #[.int .i64 cd, .int .i64 v.k, .int .i64 v.d, .int .i64 v.b, .int .i64 v.p, .int .i64 v.q, .int .i64 v.t, .int .i64 k, .int .i64 l, .slice b n c2] 36)
  have t1 := heap_alloc_at (w.alloc (.cells #[.int .i64 cd, .int .i64 v.k, .int .i64 v.d, .int .i64 v.b, .int .i64 v.p, .int .i64 v.q, .int .i64 v.t, .int .i64 k, .int .i64 l, .slice a n c1] 36)) (.cells #[.int .i64 cd, .int .i64 v.k, .int .i64 v.d, .int .i64 v.b, .int .i64 v.p, .int .i64 v.q, .int .i64 v.t, .int .i64 k, .int .i64 l, .slice b n c2] 36) (w.heap.size + 1) (by simp)
  have T0 : Hid _ := t0
  have T1 : Hid _ := t1
  clear ha hb hbx t0 t1
  go_enter Try.func10, Try.ntmps10
  go_wp2_with (first
    | (go_at_call 27; (with_reducible refine hV.mono ?_); clear hV; rintro e w2 ⟨rfl, hb2⟩; obtain ⟨x0, x1, x2, x3, x4, x5, x6, x7, x8, x9⟩ := cells10V (keepb T0.out hb2).out; obtain ⟨y0, y1, y2, y3, y4, y5, y6, y7, y8, y9⟩ := cells10V (keepb T1.out hb2).out; have hE := eqVt_any k l a b n c1 c2 ms w2 hl (HA.out.below hb2 (Nat.le_refl _)) (HB.out.below hb2 (Nat.le_refl _)))
    | (go_at_call 12; (with_reducible refine hE.mono ?_); clear hE; rintro e w3 ⟨rfl, hb3⟩))
  go_ret
  exact ⟨rfl, HBX.out.trans ((hb2.trans (hb3.mono hb2.size)).mono HBX.out.size)⟩

set_option maxHeartbeats 400000 in
theorem markVt_any (k l : Int) (a : Option Addr) (n c lo hi j : Nat) (xs : List Value) (w : World) (hn : n ≤ 1048576) (hk : j ≤ 4611686018427387904) (h : OwnR w lo hi 74 3 (.slice a n c) n xs) :
    Calls Try.prog 14 #[.agg #[.int .i64 k, .int .i64 l, .slice a n c], .int .i64 j] w fun e w' => e = .returned (.int .i64 (j + n * 3 : Nat)) ∧ OwnR w' lo hi 74 3 (.slice a n c) n (mkI j (n * 3)) ∧ Chg w w' lo hi := by
  have hL := markChs_any (.slice a n c) n lo hi j xs (w.alloc (.cells #[.int .i64 k, .int .i64 l, .slice a n c] 34)) hn hk (h.below (below_box _))
  clear h
  go_enter Try.func14, Try.ntmps14
  go_wp2_with (first | (go_at_call 30; refine hL.mono ?_; clear hL; rintro e w2 ⟨rfl, ho2, hg2⟩))
  go_ret
  exact ⟨rfl, ho2, (Chg.of_below (below_box _) lo hi).trans hg2⟩

set_option maxHeartbeats 400000 in
theorem heldVt_any (k l : Int) (a : Option Addr) (n c lo hi j : Nat) (w : World) (hn : n ≤ 1048576) (hk : j ≤ 1000) (h : OwnR w lo hi 74 3 (.slice a n c) n (mkI j (n * 3))) :
    Calls Try.prog 31 #[.agg #[.int .i64 k, .int .i64 l, .slice a n c], .int .i64 j] w fun e w' => e = .returned (.int .i64 (j + n * 3 : Nat)) ∧ Below w.heap.size w w' := by
  have hL := heldChs_any (.slice a n c) n lo hi j (w.alloc (.cells #[.int .i64 k, .int .i64 l, .slice a n c] 34)) hn hk (h.below (below_box _))
  clear h
  go_enter Try.func31, Try.ntmps31
  go_wp2_with (first | (go_at_call 53; refine hL.mono ?_; clear hL; rintro e w2 ⟨rfl, hw⟩; have hw2 := hw.symm; subst hw2))
  go_ret
  exact ⟨ret_int (by omega), below_box _⟩

set_option maxHeartbeats 400000 in
theorem markVR_any (cd : Int) (v : Vo) (k l : Int) (a : Option Addr) (n c lo hi j : Nat) (xs : List Value) (w : World) (hn : n ≤ 1048576) (hk : j ≤ 1000) (h : OwnR w lo hi 74 3 (.slice a n c) n xs) :
    Calls Try.prog 15 #[.agg #[.int .i64 cd, .int .i64 v.k, .int .i64 v.d, .int .i64 v.b, .int .i64 v.p, .int .i64 v.q, .int .i64 v.t, .int .i64 k, .int .i64 l, .slice a n c], .int .i64 j] w fun e w' => e = .returned (.int .i64 (j + n * 3 : Nat)) ∧ OwnR w' lo hi 74 3 (.slice a n c) n (mkI j (n * 3)) ∧ Chg w w' lo hi := by
  have hL := markVt_any k l a n c lo hi j xs (w.alloc (.cells #[.int .i64 cd, .int .i64 v.k, .int .i64 v.d, .int .i64 v.b, .int .i64 v.p, .int .i64 v.q, .int .i64 v.t, .int .i64 k, .int .i64 l, .slice a n c] 36)) hn (by omega) (h.below (below_box _))
  clear h
  go_enter Try.func15, Try.ntmps15
  go_wp2_with (first | (go_at_call 14; refine hL.mono ?_; clear hL; rintro e w2 ⟨rfl, ho2, hg2⟩))
  go_ret
  exact ⟨rfl, ho2, (Chg.of_below (below_box _) lo hi).trans hg2⟩

set_option maxHeartbeats 400000 in
theorem heldVR_any (cd : Int) (v : Vo) (k l : Int) (a : Option Addr) (n c lo hi j : Nat) (w : World) (hn : n ≤ 1048576) (hk : j ≤ 1000) (h : OwnR w lo hi 74 3 (.slice a n c) n (mkI j (n * 3))) :
    Calls Try.prog 16 #[.agg #[.int .i64 cd, .int .i64 v.k, .int .i64 v.d, .int .i64 v.b, .int .i64 v.p, .int .i64 v.q, .int .i64 v.t, .int .i64 k, .int .i64 l, .slice a n c], .int .i64 j] w fun e w' => e = .returned (.int .i64 (j + n * 3 : Nat)) ∧ Below w.heap.size w w' := by
  have hL := heldVt_any k l a n c lo hi j (w.alloc (.cells #[.int .i64 cd, .int .i64 v.k, .int .i64 v.d, .int .i64 v.b, .int .i64 v.p, .int .i64 v.q, .int .i64 v.t, .int .i64 k, .int .i64 l, .slice a n c] 36)) hn hk (h.below (below_box _))
  clear h
  go_enter Try.func16, Try.ntmps16
  go_wp2_with (first | (go_at_call 31; refine hL.mono ?_; clear hL; rintro e w2 ⟨rfl, hb2⟩))
  go_ret
  exact ⟨ret_int (by omega), (below_box _).trans (hb2.mono (by simp))⟩

end Go.Proofs.Ytglpbkicmpmepaa
