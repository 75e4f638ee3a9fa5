/- The specification's l6Join keeps its contract. -/
import Derived.Test.YtgfhnmjpkanikaaEi
namespace Go.Proofs.Ytgfhnmjpkanikaa
open Go.RowKit Go.Maps Go.WideMaps

/-- What l6Join comes to. -/
def JoinO (w w' : World) (e : Ending) (cd : Int) (rs : List Mb) : Prop :=
  ∃ va vc, e = .returned (.tuple #[.slice va rs.length vc, .int .i64 cd]) ∧ w'.ownsRow w.heap.size 38 3 (.slice va rs.length vc) rs.length (mcells rs) ∧ Below w.heap.size w w'
theorem join_code {w w' : World} {cd rc : Int} {rr : List Mb} (h1 : rc = cd) (h2 : rr = []) (hb : Below w.heap.size w w') : JoinO w w' (.returned (.tuple #[.slice none 0 0, .int .i64 cd])) rc rr := by
  subst h1 h2
  exact ⟨none, 0, rfl, ⟨rfl, .inl ⟨rfl, rfl⟩⟩, hb⟩
theorem join_ok {w w' : World} {va : Option Addr} {vc n : Nat} {cd rc : Int} {rr : List Mb} (h1 : rc = cd) (h2 : rr.length = n) (hb : Below w.heap.size w w') (hr : w'.ownsRow w.heap.size 38 3 (.slice va n vc) n (mcells rr)) : JoinO w w' (.returned (.tuple #[.slice va n vc, .int .i64 cd])) rc rr := by
  subst h1 h2
  exact ⟨va, vc, rfl, hr, hb⟩
theorem any_key {ms : List Mb} {n k : Nat} {key : Int} (hn : ms.length = n) (hk : k < n) (he : (ms.getD k Z3).1 = key) : (ms.any fun m => decide (m.1 = key)) = true := by
  rw [List.any_eq_true]
  refine ⟨ms.getD k Z3, ?_, by simpa using he⟩
  rw [List.getD, List.getElem?_eq_getElem (by omega)]
  exact List.getElem_mem _
theorem any_ref {ms : List Mb} {n k : Nat} {r : Int × Int} (hn : ms.length = n) (hk : k < n) (he : (ms.getD k Z3).2 = r) : (ms.any fun m => decide (m.2 = r)) = true := by
  rw [List.any_eq_true]
  refine ⟨ms.getD k Z3, ?_, by simpa using he⟩
  rw [List.getD, List.getElem?_eq_getElem (by omega)]
  exact List.getElem_mem _
theorem none_key {ms : List Mb} {n : Nat} {key : Int} (hn : ms.length = n) (h : ∀ t, t < n → (ms.getD t Z3).1 ≠ key) : (ms.any fun m => decide (m.1 = key)) = false := by
  rw [List.any_eq_false]
  intro x hx
  obtain ⟨t, ht, rfl⟩ := List.getElem_of_mem hx
  have := h t (by omega)
  rw [List.getD, List.getElem?_eq_getElem ht] at this
  simpa using this
theorem none_ref {ms : List Mb} {n : Nat} {r : Int × Int} (hn : ms.length = n) (h : ∀ t, t < n → (ms.getD t Z3).2 ≠ r) : (ms.any fun m => decide (m.2 = r)) = false := by
  rw [List.any_eq_false]
  intro x hx
  obtain ⟨t, ht, rfl⟩ := List.getElem_of_mem hx
  have := h t (by omega)
  rw [List.getD, List.getElem?_eq_getElem ht] at this
  simpa using this
theorem insM_len {x : Mb} : ∀ {ms : List Mb}, (insM ms x).length = ms.length + 1
  | [] => rfl
  | a :: l => by
    unfold insM
    by_cases e : a.1 < x.1
    · rw [if_pos e, List.length_cons, insM_len, List.length_cons]
    · rw [if_neg e]; rfl

set_option maxRecDepth 20000 in
set_option maxHeartbeats 4000000 in
theorem l6Join_any (g n uc : Nat) (ms : List Mb) (xk xp xq : Int) (w : World) (hn : n ≤ 100) (hq1 : n ≤ uc) (hq2 : uc ≤ maxLen) (hC : MAt w (some ⟨g, 0, none⟩) n ms) (hgl : g < w.heap.size) (hri : Rises ms) :
    Calls Try.prog 48 #[.slice (some ⟨g, 0, none⟩) n uc, .agg #[.int .i64 xk, .int .i64 xp, .int .i64 xq]] w fun e w' => JoinO w w' e (joinMR ms (xk, xp, xq)).1 (joinMR ms (xk, xp, xq)).2 := by
  have HC : Hid (MAt w (some ⟨g, 0, none⟩) n ms) := hC
  have HN : Hid (ms.length = n) := hC.1
  have HRI : Hid (Rises ms) := hri
  have T1 : Hid ((w.alloc (.cells #[.int .i64 xk, .int .i64 xp, .int .i64 xq] 38)).heap[w.heap.size]? = some (.cells #[.int .i64 xk, .int .i64 xp, .int .i64 xq] 38 (0, 0))) := heap_alloc_new _ _
  have hbx : Below w.heap.size w (w.alloc (.cells #[.int .i64 xk, .int .i64 xp, .int .i64 xq] 38)) := below_box _
  have HB1 : Hid (Below w.heap.size w (w.alloc (.cells #[.int .i64 xk, .int .i64 xp, .int .i64 xq] 38))) := hbx
  have hAt := l6At_any n uc (some ⟨g, 0, none⟩) ms xk (w.alloc (.cells #[.int .i64 xk, .int .i64 xp, .int .i64 xq] 38)) (by omega) (hC.below hbx (Nat.le_refl _))
  obtain ⟨rc, hrc⟩ : ∃ x, x = (joinMR ms (xk, xp, xq)).1 := ⟨_, rfl⟩
  obtain ⟨rr, hrr⟩ : ∃ x, x = (joinMR ms (xk, xp, xq)).2 := ⟨_, rfl⟩
  rw [← hrc, ← hrr]
  have HJC : Hid (rc = (joinMR ms (xk, xp, xq)).1) := hrc
  have HJR : Hid (rr = (joinMR ms (xk, xp, xq)).2) := hrr
  have hs1 : (w.alloc (.cells #[.int .i64 xk, .int .i64 xp, .int .i64 xq] 38)).heap.size = w.heap.size + 1 := by simp
  unfold maxLen at hq2
  clear hC hri hrc hrr hbx
  go_enter Try.func48, Try.ntmps48
  go_wp2_with (fail)
  refine hAt.mono ?_
  clear hAt
  rintro e w2 ⟨i, rfl, HI, hw2⟩
  have hw3 := hw2.symm
  subst hw3
  clear hw2
  rcases HI.out with ⟨rfl, hmi⟩ | ⟨kk, hkk, rfl, _, hhit⟩
  · have HNK : Hid (∀ t, t < n → (ms.getD t Z3).1 ≠ xk) := hmi
    clear HI hmi
    go_wp2
    go_loopw [6, 7] (fun a i wr => ∃ j k : Nat, j ≤ n ∧ k ≤ j ∧ i = .int .i64 j ∧ a = .int .i64 k ∧ Below (w.alloc (.cells #[.int .i64 xk, .int .i64 xp, .int .i64 xq] 38)).heap.size (w.alloc (.cells #[.int .i64 xk, .int .i64 xp, .int .i64 xq] 38)) wr ∧ Hid ((∀ t, t < j → (ms.getD t Z3).2 ≠ (xp, xq)) ∧ (∀ t, t < k → (ms.getD t Z3).1 < xk) ∧ ∀ t, k ≤ t → t < j → xk ≤ (ms.getD t Z3).1)) (fun _ i _ => n - (intOf i).toNat)
    case atStart => exact ⟨0, 0, Nat.zero_le _, Nat.le_refl _, rfl, rfl, Below.refl _ _, fun t ht => by omega, fun t ht => by omega, fun t _ ht => by omega⟩
    case round =>
      obtain ⟨j, k, hj, hkj, rfl, rfl, hbel, HI⟩ := hrel
      have HBW0 : Hid (Below w.heap.size w wr) := HB1.out.trans (hbel.mono (by omega))
      obtain ⟨b0, b1, b2⟩ := cells3 (keepb T1.out hbel).out
      by_cases hlt : j < n
      · rcases HC.out.2 with h0 | ⟨b, off, e0, l0, d0⟩
        · omega
        cases e0
        obtain ⟨o, ho⟩ : ∃ o, o = ms.getD j Z3 := ⟨_, rfl⟩
        have p0 := d0 j hlt
        rw [← ho] at p0
        have HS : Hid (o = ms.getD j Z3) := ho
        obtain ⟨nk, np, nq⟩ := o
        have x0 := (HBW0.out.cell (p := ⟨g, 0 + j * 3, none⟩) l0).trans p0.1
        have x1 := (HBW0.out.cell (p := ⟨g, 0 + j * 3 + 1, none⟩) l0).trans p0.2.1
        have x2 := (HBW0.out.cell (p := ⟨g, 0 + j * 3 + 2, none⟩) l0).trans p0.2.2
        simp only [Nat.zero_add] at x0 x1 x2
        have hki : (j : Int) < (n : Int) := by omega
        clear d0 ho p0
        by_cases hst : np = xp ∧ nq = xq
        · have hc : joinMR ms (xk, xp, xq) = (7, []) := by
            unfold joinMR
            rw [if_pos (.inr (any_ref HN.out hlt (by rw [← HS.out, hst.1, hst.2])))]
          have HRC : Hid (rc = 7) := by show _ = _; rw [HJC.out, hc]
          have HRR : Hid (rr = []) := by show _ = _; rw [HJR.out, hc]
          have e1 : (np == xp) = true := by simpa using hst.1
          have e2 : (nq == xq) = true := by simpa using hst.2
          clear hc hst
          go_wp2
          go_quiet (fail)
          go_wp2
          exact bodyPost_ret (v := .tuple #[.slice none 0 0, .int .i64 7]) (by simp [results, Try.results48, go_sem]) rfl (join_code HRC.out HRR.out (HBW0.out.trans (Joins.below_draws _ _ _)))
        · have HNR : Hid (∀ t, t < j + 1 → (ms.getD t Z3).2 ≠ (xp, xq)) := fun t ht => by
            rcases Nat.lt_or_ge t j with h1 | h1
            · exact HI.out.1 t h1
            · obtain rfl : t = j := by omega
              rw [← HS.out]
              exact fun e => hst (by cases e; exact ⟨rfl, rfl⟩)
          obtain ⟨tb, htb⟩ : ∃ b, b = ((np == xp) && (nq == xq)) := ⟨_, rfl⟩
          have HTB : Hid (((np == xp) && (nq == xq)) = false) := by
            show _ = _
            rw [Bool.and_eq_false_iff]
            by_cases e : np = xp
            · exact .inr (by simpa using fun e2 => hst ⟨e, e2⟩)
            · exact .inl (by simpa using e)
          clear htb tb
          by_cases hlk : nk < xk
          · have HIN : Hid ((∀ t, t < j + 1 → (ms.getD t Z3).2 ≠ (xp, xq)) ∧ (∀ t, t < j + 1 → (ms.getD t Z3).1 < xk) ∧ ∀ t, j + 1 ≤ t → t < j + 1 → xk ≤ (ms.getD t Z3).1) := ⟨HNR.out, fun t ht => by
              have h2 : (ms.getD j Z3).1 = nk := by rw [← HS.out]
              rcases Nat.lt_or_ge t j with h1 | h1
              · have := HRI.out t j h1 (by rw [HN.out]; exact hlt)
                omega
              · obtain rfl : t = j := by omega
                omega, fun t h1 h2 => by omega⟩
            have hd : decide (nk < xk) = true := decide_eq_true hlk
            by_cases h1 : np = xp
            · have e1 : (np == xp) = true := by simpa using h1
              have e2 : (nq == xq) = false := by simpa using fun e2 => hst ⟨h1, e2⟩
              clear h1 hst HTB
              go_wp2
              go_quiet (fail)
              go_wp2
              go_quiet (fail)
              go_wp2
              go_roundw
              case rel => exact ⟨j + 1, j + 1, by omega, by omega, by go_num, by go_num, hbel.trans (Joins.below_draws _ _ _), HIN⟩
              case measure => simp [intOf]; omega
            · have e1 : (np == xp) = false := by simpa using h1
              clear h1 hst HTB
              go_wp2
              go_quiet (fail)
              go_wp2
              go_quiet (fail)
              go_wp2
              go_roundw
              case rel => exact ⟨j + 1, j + 1, by omega, by omega, by go_num, by go_num, hbel.trans (Joins.below_draws _ _ _), HIN⟩
              case measure => simp [intOf]; omega
          · have HIN : Hid ((∀ t, t < j + 1 → (ms.getD t Z3).2 ≠ (xp, xq)) ∧ (∀ t, t < k → (ms.getD t Z3).1 < xk) ∧ ∀ t, k ≤ t → t < j + 1 → xk ≤ (ms.getD t Z3).1) := ⟨HNR.out, HI.out.2.1, fun t h1 h2 => by
              rcases Nat.lt_or_ge t j with h3 | h3
              · exact HI.out.2.2 t h1 h3
              · obtain rfl : t = j := by omega
                rw [← HS.out]; show xk ≤ nk; omega⟩
            have hd : decide (nk < xk) = false := decide_eq_false hlk
            by_cases h1 : np = xp
            · have e1 : (np == xp) = true := by simpa using h1
              have e2 : (nq == xq) = false := by simpa using fun e2 => hst ⟨h1, e2⟩
              clear h1 hst HTB
              go_wp2
              go_quiet (fail)
              go_wp2
              go_quiet (fail)
              go_wp2
              go_roundw
              case rel => exact ⟨j + 1, k, by omega, by omega, by go_num, rfl, hbel.trans (Joins.below_draws _ _ _), HIN⟩
              case measure => simp [intOf]; omega
            · have e1 : (np == xp) = false := by simpa using h1
              clear h1 hst HTB
              go_wp2
              go_quiet (fail)
              go_wp2
              go_quiet (fail)
              go_wp2
              go_roundw
              case rel => exact ⟨j + 1, k, by omega, by omega, by go_num, rfl, hbel.trans (Joins.below_draws _ _ _), HIN⟩
              case measure => simp [intOf]; omega
      · have hki : ¬ (j : Int) < (n : Int) := by omega
        have HNO : Hid (¬ ((ms.any fun m => decide (m.1 = xk)) = true ∨ (ms.any fun m => decide (m.2 = (xp, xq))) = true)) := by
          rintro (h | h)
          · rw [none_key HN.out HNK.out] at h; cases h
          · rw [none_ref HN.out (fun t ht => HI.out.1 t (by omega))] at h; cases h
        by_cases h8 : 8 ≤ n
        · have hc : joinMR ms (xk, xp, xq) = (2, []) := by
            unfold joinMR
            rw [if_neg HNO.out, if_pos (by rw [HN.out]; exact h8)]
          have HRC : Hid (rc = 2) := by show _ = _; rw [HJC.out, hc]
          have HRR : Hid (rr = []) := by show _ = _; rw [HJR.out, hc]
          have h8i : (8 : Int) ≤ (n : Int) := by omega
          clear hc
          go_wp2
          exact bodyPost_ret (v := .tuple #[.slice none 0 0, .int .i64 2]) (by simp [results, Try.results48, go_sem]) rfl (join_code HRC.out HRR.out HBW0.out)
        · have HSP : Hid (insM ms (xk, xp, xq) = ms.take k ++ (xk, xp, xq) :: ms.drop k) := insM_split (by rw [HN.out]; omega) HI.out.2.1 (fun h => by have := HI.out.2.2 k (Nat.le_refl _) (by rw [HN.out] at h; omega); show ¬ (ms.getD k Z3).1 < xk; omega)
          have hc : joinMR ms (xk, xp, xq) = (0, insM ms (xk, xp, xq)) := by
            unfold joinMR
            rw [if_neg HNO.out, if_neg (by rw [HN.out]; exact h8)]
          have HRC : Hid (rc = 0) := by show _ = _; rw [HJC.out, hc]
          have HRL : Hid (rr.length = n + 1) := by show _ = _; rw [HJR.out, hc]; show (insM ms (xk, xp, xq)).length = n + 1; rw [insM_len, HN.out]
          have HRR : Hid (rr = ms.take k ++ (xk, xp, xq) :: ms.drop k) := by show _ = _; rw [HJR.out, hc]; exact HSP.out
          have h8i : ¬ (8 : Int) ≤ (n : Int) := by omega
          have hsw := hbel.size
          have hgw : g < wr.heap.size := by omega
          have hXw : w.heap.size ≤ wr.heap.size := by omega
          have HLW : Hid (MAt (wr.alloc (.cells #[] 38)) (some ⟨g, 0, none⟩) n ms) := (HC.out.below HBW0.out (Nat.le_refl _)).below (below_box _) (Nat.le_refl _)
          have HBX : Hid ((wr.alloc (.cells #[] 38)).heap[w.heap.size]? = some (.cells #[.int .i64 xk, .int .i64 xp, .int .i64 xq] 38 (0, 0))) := (keepb (keepb T1.out hbel).out (below_box _)).out
          have HBW : Hid (Below w.heap.size w (wr.alloc (.cells #[] 38))) := HBW0.out.trans ((below_box _).mono HBW0.out.size)
          have hkc : (k : Int) ≤ (uc : Int) := by omega
          have hkn : (k : Int) ≤ (n : Int) := by omega
          have hk0 : (0 : Int) ≤ (k : Int) := by omega
          clear hc b0 b1 b2
          by_cases hucj : uc = k
          · obtain ⟨g1, c1, w3, g2, c2, w5, g3, c3, w6, hr1, hr2, hr3, hg3, HPUT⟩ := mem_put (x := (xk, xp, xq)) (k := k) (o3 := 0) HLW.out (heap_alloc_new wr (.cells #[] 38)) hgw (by omega) (by omega) (.inr (by omega))
            have HB3 : Hid (w3.heap[w.heap.size]? = some (.cells #[.int .i64 xk, .int .i64 xp, .int .i64 xq] 38 (0, 0))) := (hg3.block w.heap.size (by simp; omega) (by intro e; have := Option.some.inj e; omega)).trans HBX.out
            obtain ⟨y0, y1, y2⟩ := cells3 HB3.out
            have HFIN : Hid (JoinO w w6 (.returned (.tuple #[.slice (some ⟨g3, 0, none⟩) (n + 1) c3, .int .i64 0])) rc rr) := join_ok HRC.out HRL.out (HBW.out.trans (HPUT.out.2.mono hXw)) (by rw [HRR.out]; exact Joins.ownsRow_le HPUT.out.1 hXw)
            simp only at hr2
            clear hg3 HPUT HB3
            go_wp2_with (first | (at_builtin; go_must (refine wpList_append_runC (by rfl) _ _ _ (by rfl) (by rfl) (by rfl) (hr1 _) ?_); clear hr1))
            go_region_law (first
              | (have hra := hr2; clear hr2; refine step_append_runM (by rfl) _ _ _ (by rfl) (by rfl) (by rfl) hra ?_; clear hra)
              | (refine step_append_runM (by rfl) _ _ _ (by rfl) (by rfl) (by rfl) (hr3 _ _ (by omega)) ?_))
            all_goals
              go_wp2
              exact bodyPost_ret (v := .tuple #[.slice (some ⟨g3, 0, none⟩) (n + 1) c3, .int .i64 0]) (by simp [results, Try.results48, go_sem]) rfl HFIN.out
          · obtain ⟨g1, c1, w3, g2, c2, w5, g3, c3, w6, hr1, hr2, hr3, hg3, HPUT⟩ := mem_put (x := (xk, xp, xq)) (k := k) (o3 := k * 3) HLW.out (heap_alloc_new wr (.cells #[] 38)) hgw (by omega) (by omega) (.inl rfl)
            have HB3 : Hid (w3.heap[w.heap.size]? = some (.cells #[.int .i64 xk, .int .i64 xp, .int .i64 xq] 38 (0, 0))) := (hg3.block w.heap.size (by simp; omega) (by intro e; have := Option.some.inj e; omega)).trans HBX.out
            obtain ⟨y0, y1, y2⟩ := cells3 HB3.out
            have HFIN : Hid (JoinO w w6 (.returned (.tuple #[.slice (some ⟨g3, 0, none⟩) (n + 1) c3, .int .i64 0])) rc rr) := join_ok HRC.out HRL.out (HBW.out.trans (HPUT.out.2.mono hXw)) (by rw [HRR.out]; exact Joins.ownsRow_le HPUT.out.1 hXw)
            simp only at hr2
            clear hg3 HPUT HB3
            go_wp2_with (first | (at_builtin; go_must (refine wpList_append_runC (by rfl) _ _ _ (by rfl) (by rfl) (by rfl) (hr1 _) ?_); clear hr1))
            go_region_law (first
              | (have hra := hr2; clear hr2; refine step_append_runM (by rfl) _ _ _ (by rfl) (by rfl) (by rfl) hra ?_; clear hra)
              | (refine step_append_runM (by rfl) _ _ _ (by rfl) (by rfl) (by rfl) (hr3 _ _ (by omega)) ?_))
            all_goals
              go_wp2
              exact bodyPost_ret (v := .tuple #[.slice (some ⟨g3, 0, none⟩) (n + 1) c3, .int .i64 0]) (by simp [results, Try.results48, go_sem]) rfl HFIN.out
  · have hc : joinMR ms (xk, xp, xq) = (7, []) := by
      unfold joinMR
      rw [if_pos (.inl (any_key HN.out hkk hhit))]
    have HRC : Hid (rc = 7) := by show _ = _; rw [HJC.out, hc]
    have HRR : Hid (rr = []) := by show _ = _; rw [HJR.out, hc]
    have hk0 : (0 : Int) ≤ (kk : Int) := by omega
    clear hc HI hhit
    go_wp2
    exact bodyPost_ret (v := .tuple #[.slice none 0 0, .int .i64 7]) (by simp [results, Try.results48, go_sem]) rfl (join_code HRC.out HRR.out HB1.out)

end Go.Proofs.Ytgfhnmjpkanikaa
