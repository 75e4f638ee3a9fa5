/- The best node: the program's. -/
import Derived.Test.YtinlhghlmfcbfaaVh
import Derived.WalkMore
namespace Go.Proofs.Ytinlhghlmfcbfaa
open Go.RowKit Go.Maps Go.WideMaps

def bpt (bs : List Nat) (q : Int) : Option Addr := if q < 0 then none else some ⟨bs.getD q.toNat 0, 0, none⟩
/-- The height of what is best so far. -/
def bht (ms : List Mb) (q : Int) : Int := if q < 0 then 0 else (ms.getD q.toNat Z3).2.2
theorem bet_ht {ms : List Mb} (hz : treeR ms = 0) {j : Nat} (hj : j < ms.length) (q : Int) : betB ms j q = decide (bht ms q < (ms.getD j Z3).2.2) := by
  unfold betB bht
  have := nodeR_ht (tree_node hz hj)
  by_cases h : q < 0
  · rw [if_pos h, decide_eq_true h, Bool.true_or, decide_eq_true (by omega)]
  · rw [if_neg h, decide_eq_false h, Bool.false_or]
theorem bh_any {w : World} {lo G B : Nat} {s : Value} {ms : List Mb} {bs : List Nat} (h : Gv w lo G B s ms bs) {q : Int} {k : Nat} (hk : k ≤ ms.length) (hq : q = -1 ∨ ∃ j : Nat, j < k ∧ q = (j : Int)) :
    Calls Try.prog 49 #[.pointer (bpt bs q)] w fun e w' => e = .returned (.int .i64 (bht ms q)) ∧ w' = w := by
  rcases hq with rfl | ⟨j, h1, rfl⟩
  · exact height_nil w
  · have hb := (h.node j (by omega)).1
    have e1 : bpt bs (j : Int) = some ⟨bs.getD j 0, 0, none⟩ := by unfold bpt; rw [if_neg (by omega)]; rfl
    have e2 : bht ms (j : Int) = (ms.getD j Z3).2.2 := by unfold bht; rw [if_neg (by omega)]; rfl
    rw [e1, e2]
    exact height_some _ _ w (by unfold World.cell?; rw [hb]; rfl)
theorem bnum_any {w : World} {lo G B : Nat} {s : Value} {ms : List Mb} {bs : List Nat} (h : Gv w lo G B s ms bs) {q : Int} (hq : q = -1 ∨ ∃ j : Nat, j < ms.length ∧ q = (j : Int)) :
    Calls Try.prog 22 #[.pointer (bpt bs q)] w fun e w' => e = .returned (.int .i64 (if q < 0 then 0 else (ms.getD q.toNat Z3).1)) ∧ w' = w := by
  rcases hq with rfl | ⟨j, h1, rfl⟩
  · exact number_nil w
  · have hb := (h.node j h1).1
    have e1 : bpt bs (j : Int) = some ⟨bs.getD j 0, 0, none⟩ := by unfold bpt; rw [if_neg (by omega)]; rfl
    rw [e1, if_neg (by omega)]
    exact number_some _ _ w (by unfold World.cell?; rw [hb]; rfl)

theorem fit_false {ms : List Mb} {ls : List Int} {x : Int} {t : Nat} (ht : t < ls.length) (h : aboveB ms (ls.getD t 0) x = false) : fitB ms x ls = false := by
  unfold fitB
  rw [List.all_eq_false]
  exact ⟨ls[t], List.getElem_mem ht, by simp [List.getD, ht] at h; simp [h]⟩
theorem fit_true {ms : List Mb} {ls : List Int} {x : Int} (h : ∀ t, t < ls.length → aboveB ms (ls.getD t 0) x = true) : fitB ms x ls = true := by
  unfold fitB
  rw [List.all_eq_true]
  intro l hl
  obtain ⟨t, ht, e⟩ := List.getElem_of_mem hl
  have := h t ht
  simpa [List.getD, ht, e] using this

set_option maxRecDepth 20000 in
set_option maxHeartbeats 4000000 in
theorem best_any (lo lo2 G B : Nat) (s : Value) (ms : List Mb) (bs : List Nat) (ls : List Int) (va : Option Addr) (m vc : Nat) (w : World) (hz : treeR ms = 0) (hG : Gv w lo G B s ms bs) (hf : foundB ms ls = true) (hm : ls.length = m) (hm2 : m ≤ 1000) (hr : w.ownsRow lo2 50 1 (.slice va m vc) m ((ls.map (blkOf ms bs)).map ptB)) :
    Calls Try.prog 43 #[.pointer (some ⟨G, 0, none⟩), .slice va m vc] w fun e w' => e = .returned (.pointer (bpt bs (bestK ms ls ms.length))) ∧ w' = w := by
  obtain ⟨sa, sc, rfl⟩ := hG.slice
  obtain ⟨n, hn⟩ : ∃ n, n = ms.length := ⟨_, rfl⟩
  have HN : Hid (ms.length = n) := hn.symm
  have hn60 : n ≤ 60 := by rw [hn]; unfold treeR at hz; by_cases e : 60 < ms.length; (rw [if_pos e] at hz; cases hz); omega
  have HG : Hid (Gv w lo G B (.slice sa ms.length sc) ms bs) := hG
  have HZ : Hid (treeR ms = 0) := hz
  have HR : Hid (w.ownsRow lo2 50 1 (.slice va m vc) m ((ls.map (blkOf ms bs)).map ptB)) := hr
  have HLN : Hid (ls.length = m) := hm
  have HFO : Hid (∀ t, t < m → 0 ≤ nAt ms (ls.getD t 0)) := fun t ht => by
    unfold foundB at hf
    rw [List.all_eq_true] at hf
    have ht2 : t < ls.length := by rw [hm]; exact ht
    have := hf ls[t] (List.getElem_mem ht2)
    simp [List.getD, ht2] at this ⊢
    exact this
  have c0 : w.cell? ⟨G, 0, none⟩ = some (.slice sa n sc) := by
    have := hG.box
    rw [HN.out] at this
    unfold World.cell?; rw [this]; rfl
  rw [← hn]
  clear hG hn hz hr hm hf
  go_enter Try.func43, Try.ntmps43
  go_wp2
  go_step3
  go_wp2
  go_step3
  go_wp2
  go_loop [5, 15] (fun v i => ∃ (j : Nat) (p : Option Addr), j ≤ n ∧ i = .int .i64 j ∧ v = .pointer p ∧ Hid (bpt bs (bestK ms ls j) = p)) (fun _ i => n - (intOf i).toNat)
  case atStart => exact ⟨0, none, Nat.zero_le _, rfl, rfl, rfl⟩
  case round =>
    obtain ⟨j, p, hj, rfl, rfl, HP⟩ := hrel
    by_cases hlt : j < n
    rotate_left
    · have hjn : j = n := by omega
      subst hjn
      have hki : ¬ (j : Int) < (j : Int) := by omega
      go_wp2
      try rw [Exit.noGoto_ret]
      go_ret
      exact ⟨by rw [HP.out]; rfl, rfl⟩
    have hj2 : j < ms.length := by rw [HN.out]; exact hlt
    obtain ⟨X, hX⟩ : ∃ X, X = bs.getD j 0 := ⟨_, rfl⟩
    obtain ⟨g, cap, e⟩ : ∃ g cap, Value.slice sa ms.length sc = .slice (some ⟨g, 0, none⟩) ms.length cap := by
      rcases HG.out.row.2 with ⟨_, h2⟩ | ⟨g, cap, cur, h1, _⟩
      · omega
      · exact ⟨g, cap, h1⟩
    have esa : sa = some ⟨g, 0, none⟩ := by injection e
    subst esa
    have y0 : w.cell? ⟨g, j, none⟩ = some (.pointer (some ⟨X, 0, none⟩)) := (HG.out.row.cellAt j (by omega)).trans (by
      have : j < bs.length := by rw [HG.out.len]; exact hj2
      rw [hX]
      simp [ptB, List.getD, this])
    obtain ⟨x, hx⟩ : ∃ x, x = (ms.getD j Z3).1 := ⟨_, rfl⟩
    have hpx : ptrOf ms bs x = .pointer (some ⟨X, 0, none⟩) := by rw [hx, ptrOf_some (nAt_self HZ.out hj2), hX]
    have HPX : Hid (ptrOf ms bs x = .pointer (some ⟨X, 0, none⟩)) := hpx
    have HX : Hid (x = (ms.getD j Z3).1 ∧ X = bs.getD j 0 ∧ j < ms.length) := ⟨hx, hX, hj2⟩
    have hki : (j : Int) < (n : Int) := by omega
    clear hx hX hpx e hj2
    go_wp2
    go_loop [21] (fun i => ∃ t : Nat, t ≤ m ∧ i = .int .i64 t ∧ Hid (∀ t', t' < t → aboveB ms (ls.getD t' 0) x = true)) (fun i => m - (intOf i).toNat)
    case atStart => exact ⟨0, Nat.zero_le _, rfl, fun t' ht => by omega⟩
    case round =>
      obtain ⟨t, ht, rfl, HA⟩ := hrel
      by_cases htm : t < m
      · obtain ⟨g2, cap2, e⟩ : ∃ g2 cap2, Value.slice va m vc = .slice (some ⟨g2, 0, none⟩) m cap2 := by
          rcases HR.out.2 with ⟨_, h2⟩ | ⟨g, cap, cur, h1, _⟩
          · omega
          · exact ⟨g, cap, h1⟩
        have eva : va = some ⟨g2, 0, none⟩ := by injection e
        subst eva
        obtain ⟨l, hl⟩ : ∃ l, l = ls.getD t 0 := ⟨_, rfl⟩
        obtain ⟨Y, hY⟩ : ∃ Y, Y = blkOf ms bs l := ⟨_, rfl⟩
        have z0 : w.cell? ⟨g2, t, none⟩ = some (.pointer (some ⟨Y, 0, none⟩)) := (HR.out.cellAt t (by omega)).trans (by
          have : t < ls.length := by rw [HLN.out]; exact htm
          rw [hY, hl]
          simp [ptB, List.getD, this])
        have hpl : ptrOf ms bs l = .pointer (some ⟨Y, 0, none⟩) := by rw [hY]; exact ptr_blk (by rw [hl]; exact HFO.out t htm)
        obtain ⟨r, hr⟩ : ∃ r, r = aboveB ms l x := ⟨_, rfl⟩
        have hab := iAbove_ptr HZ.out HG.out hpl HPX.out hr.symm
        have hti : (t : Int) < (m : Int) := by omega
        cases r
        · have HNX : Hid (bpt bs (bestK ms ls (j + 1)) = p) := by
            show _ = _
            rw [bestK, ← HX.out.1, fit_false (by rw [HLN.out]; exact htm) (by rw [← hl]; exact hr.symm), Bool.false_and, if_neg (by simp)]
            exact HP.out
          clear e hl hY hpl hr
          go_wp2_with (go_at_call 28; (with_reducible refine hab.mono ?_); clear hab; rintro e w' ⟨rfl, hw⟩; have hw2 := hw.symm; subst hw2)
          go_round
          case rel => exact ⟨j + 1, p, by omega, by go_num, rfl, HNX⟩
          case measure => simp [intOf]; omega
        · have HA2 : Hid (∀ t', t' < t + 1 → aboveB ms (ls.getD t' 0) x = true) := fun t' h => by
            rcases Nat.lt_or_ge t' t with h1 | h1
            · exact HA.out t' h1
            · obtain rfl : t' = t := by omega
              rw [← hl]; exact hr.symm
          clear e hl hY hpl hr
          go_wp2_with (go_at_call 28; (with_reducible refine hab.mono ?_); clear hab; rintro e w' ⟨rfl, hw⟩; have hw2 := hw.symm; subst hw2)
          go_round
          case rel => exact ⟨t + 1, by omega, by go_num, HA2⟩
          case measure => simp [intOf]; omega
      · have htm2 : t = m := by omega
        subst htm2
        have hti : ¬ (t : Int) < (t : Int) := by omega
        have hfit : fitB ms x ls = true := fit_true (fun t' h => HA.out t' (by rw [← HLN.out]; exact h))
        obtain ⟨h1, hh1⟩ : ∃ h, h = (ms.getD j Z3).2.2 := ⟨_, rfl⟩
        obtain ⟨h2, hh2⟩ : ∃ h, h = bht ms (bestK ms ls j) := ⟨_, rfl⟩
        have hnode := (HG.out.node j HX.out.2.2).1
        rw [← HX.out.2.1, ← hh1] at hnode
        have q1 := height_some X h1 w (by unfold World.cell?; rw [hnode]; rfl)
        have q2 := bh_any HG.out (k := j) (by have := HX.out.2.2; omega) (bestK_lt ms ls j)
        rw [HP.out, ← hh2] at q2
        have hbet := bet_ht HZ.out HX.out.2.2 (bestK ms ls j)
        rw [← hh1, ← hh2] at hbet
        by_cases hgt : h2 < h1
        · have HNX : Hid (bpt bs (bestK ms ls (j + 1)) = some ⟨X, 0, none⟩) := by
            show _ = _
            rw [bestK, ← HX.out.1, hfit, hbet, decide_eq_true hgt, if_pos (by simp), HX.out.2.1]
            unfold bpt
            rw [if_neg (by omega)]
            rfl
          clear hfit hh1 hh2 hnode hbet
          go_wp2_with (go_at_call 49; first | ((have hq := q1); clear q1; (with_reducible refine hq.mono ?_); clear hq; rintro e w' ⟨rfl, hw⟩; have hw2 := hw.symm; subst hw2) | ((with_reducible refine q2.mono ?_); clear q2; rintro e w' ⟨rfl, hw⟩; have hw2 := hw.symm; subst hw2))
          go_round
          case rel => exact ⟨j + 1, _, by omega, by go_num, rfl, HNX⟩
          case measure => simp [intOf]; omega
        · have HNX : Hid (bpt bs (bestK ms ls (j + 1)) = p) := by
            show _ = _
            rw [bestK, ← HX.out.1, hfit, hbet, decide_eq_false hgt, if_neg (by simp)]
            exact HP.out
          clear hfit hh1 hh2 hnode hbet
          go_wp2_with (go_at_call 49; first | ((have hq := q1); clear q1; (with_reducible refine hq.mono ?_); clear hq; rintro e w' ⟨rfl, hw⟩; have hw2 := hw.symm; subst hw2) | ((with_reducible refine q2.mono ?_); clear q2; rintro e w' ⟨rfl, hw⟩; have hw2 := hw.symm; subst hw2))
          go_round
          case rel => exact ⟨j + 1, p, by omega, by go_num, rfl, HNX⟩
          case measure => simp [intOf]; omega

end Go.Proofs.Ytinlhghlmfcbfaa
