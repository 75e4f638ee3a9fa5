/- The specification's l3Parse keeps its contract, whatever text comes in. -/
import Derived.Test.YtciefdphjkjikaaGreatDoorBj
import Derived.Deep.DeepCutAuto
namespace Go.Proofs.YtciefdphjkjikaaGreatDoor
open Go.RowKit Go.Shelf Go.Maps Go.WideMaps

theorem Sl.setC {w v : World} {g : Nat} {ws : List (List UInt8)} {T mid i : Nat} {k f k2 f2 : Int} {z : Value} (H : Sl w v g ws T mid k f none 0 0 [] none 0 0 none 0 0 [] (fun _ => .slice none 0 0)) (hq : (#[.int .i64 k, .int .i64 f, .slice none 0 0, .slice none 0 0] : Array Value).setIfInBounds i z = #[.int .i64 k2, .int .i64 f2, .slice none 0 0, .slice none 0 0]) : Sl w (v.setCell ⟨T, i, none⟩ z) g ws T mid k2 f2 none 0 0 [] none 0 0 none 0 0 [] (fun _ => .slice none 0 0) := by
  have ho := H.ord
  have hk : ∀ b, b ≠ T → (v.setCell ⟨T, i, none⟩ z).heap[b]? = v.heap[b]? := fun b hb => Below.heap_setCell _ ⟨T, i, none⟩ _ b hb
  have hb := Joins.block_setCell (i := i) H.box z
  rw [hq] at hb
  exact ⟨fun j hj => (World.cell?_of_block (hk g (by omega))).trans (H.wd j hj), hb, (hk _ (by omega)).trans H.res, World.ownsRow_nil _ _ _ _, fun b hb => by simp [Value.ownBlock] at hb, OOwn.none, H.bel.setCell (p := ⟨T, i, none⟩) (show w.heap.size ≤ T by omega) _, by simp; omega⟩
theorem Sl.setH {w v : World} {g : Nat} {ws : List (List UInt8)} {T mid : Nat} {k f k2 : Int} (H : Sl w v g ws T mid k f none 0 0 [] none 0 0 none 0 0 [] (fun _ => .slice none 0 0)) : Sl w (v.setCell ⟨T, 0, none⟩ (.int .i64 k2)) g ws T mid k2 f none 0 0 [] none 0 0 none 0 0 [] (fun _ => .slice none 0 0) := H.setC (by simp)
theorem Sl.setN {w v : World} {g : Nat} {ws : List (List UInt8)} {T mid : Nat} {k f f2 : Int} (H : Sl w v g ws T mid k f none 0 0 [] none 0 0 none 0 0 [] (fun _ => .slice none 0 0)) : Sl w (v.setCell ⟨T, 1, none⟩ (.int .i64 f2)) g ws T mid k f2 none 0 0 [] none 0 0 none 0 0 [] (fun _ => .slice none 0 0) := H.setC (by simp)
set_option maxRecDepth 40000 in
set_option maxHeartbeats 40000000 in
theorem l3Parse_any (t : List UInt8) (w : World) (ht : t.length ≤ 1048576) : Calls Tryz.prog 25 #[.string (str t)] w fun e w' => OutSp w w' e t := by
  have hss : (str t).size = t.length := rfl
  obtain ⟨ws, hws⟩ : ∃ l, l = cutL 32 t := ⟨_, rfl⟩
  obtain ⟨N, hN⟩ : ∃ N, N = ws.length := ⟨_, rfl⟩
  obtain ⟨w0, hw0⟩ : ∃ x, x = ws.getD 0 [] := ⟨_, rfl⟩
  have hcut := cut_start t w ht
  rw [← hws, ← hN] at hcut
  have hN0 : 0 < N := by rw [hN, hws]; exact List.length_pos_iff.2 (cutL_ne 32 t)
  have hN0i : (0 : Int) < ((N : Nat) : Int) := by omega
  have hNl : N ≤ 1048577 := by rw [hN, hws]; have := cutL_len 32 t; omega
  have HN : Hid (ws.length = N) := hN.symm
  have HLN : Hid (∀ x ∈ ws, x.length ≤ 1048576) := fun x hx => Nat.le_trans (cutL_sub 32 t x (by rw [← hws]; exact hx)) ht
  have HSUM : Hid (∀ x ∈ ws, x.length + N ≤ 1048577) := fun x hx => by have := cutL_sum 32 t x (by rw [← hws]; exact hx); rw [← hws, ← hN] at this; omega
  have HI : Hid (∀ (u : World) (g vc : Nat) (k f : Int), u.ownsRow (w.heap.size + 1) 9 1 (.slice (some ⟨g, 0, none⟩) N vc) N (texts ws) → Below (w.heap.size + 1) (w.alloc (.cells #[.int .i64 0, .int .i64 0, .slice none 0 0, .slice none 0 0] 28)) u → Sl w (u.alloc (.cells #[.int .i64 k, .int .i64 f, .slice none 0 0, .slice none 0 0] 28)) g ws u.heap.size (u.heap.size + 1) k f none 0 0 [] none 0 0 none 0 0 [] (fun _ => .slice none 0 0)) := fun u g vc k f h1 h2 => sl_start k f HN.out h1 h2
  have HW0 : Hid (w0 = ws.getD 0 []) := hw0
  have HPN : Hid (sread t = none → parT t = none) := fun h => by show kept (sread t) t = none; rw [h]; rfl
  have HSRD : Hid (sread t = if w0 = [106, 111, 105, 110] then smem 1 (ws.drop 1) else if w0 = [108, 101, 97, 118, 101] then smem 2 (ws.drop 1) else if w0 = [112, 97, 121] then srest 0 0 (ws.drop 1) else none) := by
    show _ = _
    have e : ws = w0 :: ws.drop 1 := by
      rw [hw0]
      cases hq : ws with
      | nil => rw [hq] at hN; simp at hN; omega
      | cons a r => rfl
    unfold sread
    rw [← hws, e]
    rfl
  have ej : ((str w0).toList == [106, 111, 105, 110]) = decide (w0 = [106, 111, 105, 110]) := str_is _ _
  have el : ((str w0).toList == [108, 101, 97, 118, 101]) = decide (w0 = [108, 101, 97, 118, 101]) := str_is _ _
  have ep : ((str w0).toList == [112, 97, 121]) = decide (w0 = [112, 97, 121]) := str_is _ _
  obtain ⟨bj, hbj⟩ : ∃ b, b = decide (w0 = [106, 111, 105, 110]) := ⟨_, rfl⟩
  obtain ⟨bl, hbl⟩ : ∃ b, b = decide (w0 = [108, 101, 97, 118, 101]) := ⟨_, rfl⟩
  obtain ⟨bp, hbp⟩ : ∃ b, b = decide (w0 = [112, 97, 121]) := ⟨_, rfl⟩
  rw [← hbj] at ej
  rw [← hbl] at el
  rw [← hbp] at ep
  have HBJ : Hid (bj = decide (w0 = [106, 111, 105, 110]) ∧ bl = decide (w0 = [108, 101, 97, 118, 101]) ∧ bp = decide (w0 = [112, 97, 121])) := ⟨hbj, hbl, hbp⟩
  clear hN hws hw0 hbj hbl hbp
  go_enter Tryz.func25, Tryz.ntmps25
  go_upto_region 4 with (first | (go_at_call 50; have hq := hcut; clear hcut; (with_reducible refine hq.mono ?_); clear hq; rintro e u2 ⟨g, vc, rfl, HO2, HB2⟩; have HS0' := HI.out u2 g vc 0 0 HO2.out HB2.out))
  obtain ⟨T, hT⟩ : ∃ T, T = u2.heap.size := ⟨_, rfl⟩
  obtain ⟨V, hV⟩ : ∃ V, V = u2.alloc (.cells #[.int .i64 0, .int .i64 0, .slice none 0 0, .slice none 0 0] 28) := ⟨_, rfl⟩
  rw [← hT, ← hV] at HS0'
  rw [← hT, ← hV]
  have HS0 : Hid (Sl w V g ws T (T + 1) 0 0 none 0 0 [] none 0 0 none 0 0 [] (fun _ => .slice none 0 0)) := HS0'
  have s0 : V.cell? ⟨g, 0, none⟩ = some (.string (str w0)) := by rw [HW0.out]; exact HS0.out.wd 0 (by rw [HN.out]; exact hN0)
  clear hT hV HO2 HB2 HS0' HI
  obtain ⟨p0, p1, p2, p3, p4, p5, p6, p7⟩ := cells4 HS0.out.box
  obtain ⟨r0, r1, r2, r3, r4, r5, r6, r7⟩ := cells4 HS0.out.res
  go_cut [29] (fun c wc => c = .bool (bj || bl) ∧ wc = V)
  case first =>
    cases bj
    · go_wp2
      go_meet
      exact ⟨rfl, rfl⟩
    · go_wp2
      go_meet
      exact ⟨rfl, rfl⟩
  case rest =>
  obtain ⟨rfl, rfl⟩ := hcut
  go_upto_if 29 with fail
  go_cut [6] (fun a wc => ∃ (q : Nat) (kk ff : Int), a = .int .i64 (q : Int) ∧ (1 ≤ q ∧ q ≤ 2) ∧ q ≤ N ∧ Sl w wc g ws T (T + 1) kk ff none 0 0 [] none 0 0 none 0 0 [] (fun _ => .slice none 0 0) ∧ sread t = srest kk ff (ws.drop q))
  case first =>
    cases bj
    · have hj : ¬ w0 = [106, 111, 105, 110] := of_decide_eq_false HBJ.out.1.symm
      cases bl
      · have hl : ¬ w0 = [108, 101, 97, 118, 101] := of_decide_eq_false HBJ.out.2.1.symm
        cases bp
        · have HNO : Hid (parT t = none) := HPN.out (by rw [HSRD.out, if_neg hj, if_neg hl, if_neg (of_decide_eq_false HBJ.out.2.2.symm)])
          clear hj hl
          go_wp2
          obtain ⟨j0, j1, j2, j3⟩ := four_set HS0.out.res (.int .i64 0) (.int .i64 0) (.slice none 0 0) (.slice none 0 0)
          refine bodyPost_ret (v := .tuple #[.agg #[.int .i64 0, .int .i64 0, .slice none 0 0, .slice none 0 0], .bool false]) (by simp [results, Tryz.results25, go_sem, j0, j1, j2, j3]) rfl ?_
          exact ⟨four_belowR HS0.out.bel (Nat.le_refl _) _ _ _ _, .inr ⟨HNO.out, _, _, _, _, _, _, _, _, rfl⟩⟩
        · have HSR := HSRD.out.trans (by rw [if_neg hj, if_neg hl, if_pos (of_decide_eq_true HBJ.out.2.2.symm)])
          have HSR' : Hid (sread t = srest 0 0 (ws.drop 1)) := HSR
          clear hj hl HSR
          go_wp2
          go_meet
          exact ⟨1, 0, 0, rfl, by omega, by omega, HS0.out, HSR'.out⟩
      · have HSR := HSRD.out.trans (by rw [if_neg hj, if_pos (of_decide_eq_true HBJ.out.2.1.symm)])
        clear hj
        by_cases h2 : N < 2
        · have hi2 : ((N : Nat) : Int) < 2 := by omega
          have hd2 : decide (((N : Nat) : Int) < 2) = true := decide_eq_true hi2
          have HNO : Hid (parT t = none) := HPN.out (HSR.trans (smem_short HN.out h2))
          go_wp2
          obtain ⟨j0, j1, j2, j3⟩ := four_set HS0.out.res (.int .i64 0) (.int .i64 0) (.slice none 0 0) (.slice none 0 0)
          refine bodyPost_ret (v := .tuple #[.agg #[.int .i64 0, .int .i64 0, .slice none 0 0, .slice none 0 0], .bool false]) (by simp [results, Tryz.results25, go_sem, j0, j1, j2, j3]) rfl ?_
          exact ⟨four_belowR HS0.out.bel (Nat.le_refl _) _ _ _ _, .inr ⟨HNO.out, _, _, _, _, _, _, _, _, rfl⟩⟩
        have hi2 : ¬ ((N : Nat) : Int) < 2 := by omega
        have hd2 : decide (((N : Nat) : Int) < 2) = false := decide_eq_false hi2
        have h1N : 1 < N := by omega
        have h1i : (1 : Int) < ((N : Nat) : Int) := by omega
        obtain ⟨w1, hw1⟩ : ∃ x, x = ws.getD 1 [] := ⟨_, rfl⟩
        have hw1l : w1.length ≤ 1048576 := HLN.out w1 (by rw [hw1]; exact getD_mem (by rw [HN.out]; exact h1N))
        have s1 : wc.cell? ⟨g, 1, none⟩ = some (.string (str w1)) := by rw [hw1]; exact HS0.out.wd 1 (by rw [HN.out]; exact h1N)
        obtain ⟨f, hf⟩ : ∃ z, z = (numR w1 3).1 := ⟨_, rfl⟩
        obtain ⟨k1, hk1⟩ : ∃ z, z = (numR w1 3).2 := ⟨_, rfl⟩
        have hN1 : ∀ u, Calls Tryz.prog 51 #[.string (str w1), .int .i64 3] u fun e w' => e = .returned (.tuple #[.int .i64 f, .bool k1]) ∧ w' = u := fun u => by rw [hf, hk1]; exact l2Number_any w1 3 u hw1l (by omega)
        have HSM : Hid (sread t = if k1 = true then srest 2 f (ws.drop 2) else none) := by
          show _ = _
          rw [HSR, hf, hk1, hw1]
          exact smem_at HN.out h1N
        clear hf hk1 hw1 HSR
        cases k1
        · have HNO : Hid (parT t = none) := HPN.out (by rw [HSM.out]; rfl)
          go_wp2_with (go_at_call 51; (with_reducible refine (hN1 _).mono ?_); clear hN1; rintro e w' ⟨rfl, hw⟩; have hw2 := hw.symm; subst hw2; clear hw)
          obtain ⟨j0, j1, j2, j3⟩ := four_set HS0.out.res (.int .i64 0) (.int .i64 0) (.slice none 0 0) (.slice none 0 0)
          refine bodyPost_ret (v := .tuple #[.agg #[.int .i64 0, .int .i64 0, .slice none 0 0, .slice none 0 0], .bool false]) (by simp [results, Tryz.results25, go_sem, j0, j1, j2, j3]) rfl ?_
          exact ⟨four_belowR HS0.out.bel (Nat.le_refl _) _ _ _ _, .inr ⟨HNO.out, _, _, _, _, _, _, _, _, rfl⟩⟩
        go_wp2_with (go_at_call 51; (with_reducible refine (hN1 _).mono ?_); clear hN1; rintro e w' ⟨rfl, hw⟩; have hw2 := hw.symm; subst hw2; clear hw; have HSA : Hid (Sl w (wc.setCell ⟨T, 0, none⟩ (.int .i64 1)) g ws T (T + 1) 1 0 none 0 0 [] none 0 0 none 0 0 [] (fun _ => .slice none 0 0)) := HS0.out.setH; have HSB : Hid (Sl w ((wc.setCell ⟨T, 0, none⟩ (.int .i64 1)).setCell ⟨T, 0, none⟩ (.int .i64 2)) g ws T (T + 1) 2 0 none 0 0 [] none 0 0 none 0 0 [] (fun _ => .slice none 0 0)) := HSA.out.setH; have HSC : Hid (Sl w (((wc.setCell ⟨T, 0, none⟩ (.int .i64 1)).setCell ⟨T, 0, none⟩ (.int .i64 2)).setCell ⟨T, 1, none⟩ (.int .i64 f)) g ws T (T + 1) 2 f none 0 0 [] none 0 0 none 0 0 [] (fun _ => .slice none 0 0)) := HSB.out.setN; have sA0 := HSA.out.wd 0 (by rw [HN.out]; exact hN0); rw [← HW0.out] at sA0; obtain ⟨a0, a1, a2, a3, a4, a5, a6, a7⟩ := cells4 HSA.out.box; obtain ⟨c0, c1, c2, c3, c4, c5, c6, c7⟩ := cells4 HSB.out.box)
        go_meet
        exact ⟨2, 2, f, rfl, by omega, by omega, HSC.out, HSM.out⟩
    · have HSR := HSRD.out.trans (by rw [if_pos (of_decide_eq_true HBJ.out.1.symm)])
      obtain rfl : bl = false := by rw [HBJ.out.2.1, of_decide_eq_true HBJ.out.1.symm]; decide
      by_cases h2 : N < 2
      · have hi2 : ((N : Nat) : Int) < 2 := by omega
        have hd2 : decide (((N : Nat) : Int) < 2) = true := decide_eq_true hi2
        have HNO : Hid (parT t = none) := HPN.out (HSR.trans (smem_short HN.out h2))
        go_wp2
        obtain ⟨j0, j1, j2, j3⟩ := four_set HS0.out.res (.int .i64 0) (.int .i64 0) (.slice none 0 0) (.slice none 0 0)
        refine bodyPost_ret (v := .tuple #[.agg #[.int .i64 0, .int .i64 0, .slice none 0 0, .slice none 0 0], .bool false]) (by simp [results, Tryz.results25, go_sem, j0, j1, j2, j3]) rfl ?_
        exact ⟨four_belowR HS0.out.bel (Nat.le_refl _) _ _ _ _, .inr ⟨HNO.out, _, _, _, _, _, _, _, _, rfl⟩⟩
      have hi2 : ¬ ((N : Nat) : Int) < 2 := by omega
      have hd2 : decide (((N : Nat) : Int) < 2) = false := decide_eq_false hi2
      have h1N : 1 < N := by omega
      have h1i : (1 : Int) < ((N : Nat) : Int) := by omega
      obtain ⟨w1, hw1⟩ : ∃ x, x = ws.getD 1 [] := ⟨_, rfl⟩
      have hw1l : w1.length ≤ 1048576 := HLN.out w1 (by rw [hw1]; exact getD_mem (by rw [HN.out]; exact h1N))
      have s1 : wc.cell? ⟨g, 1, none⟩ = some (.string (str w1)) := by rw [hw1]; exact HS0.out.wd 1 (by rw [HN.out]; exact h1N)
      obtain ⟨f, hf⟩ : ∃ z, z = (numR w1 3).1 := ⟨_, rfl⟩
      obtain ⟨k1, hk1⟩ : ∃ z, z = (numR w1 3).2 := ⟨_, rfl⟩
      have hN1 : ∀ u, Calls Tryz.prog 51 #[.string (str w1), .int .i64 3] u fun e w' => e = .returned (.tuple #[.int .i64 f, .bool k1]) ∧ w' = u := fun u => by rw [hf, hk1]; exact l2Number_any w1 3 u hw1l (by omega)
      have HSM : Hid (sread t = if k1 = true then srest 1 f (ws.drop 2) else none) := by
        show _ = _
        rw [HSR, hf, hk1, hw1]
        exact smem_at HN.out h1N
      clear hf hk1 hw1 HSR
      cases k1
      · have HNO : Hid (parT t = none) := HPN.out (by rw [HSM.out]; rfl)
        go_wp2_with (go_at_call 51; (with_reducible refine (hN1 _).mono ?_); clear hN1; rintro e w' ⟨rfl, hw⟩; have hw2 := hw.symm; subst hw2; clear hw)
        obtain ⟨j0, j1, j2, j3⟩ := four_set HS0.out.res (.int .i64 0) (.int .i64 0) (.slice none 0 0) (.slice none 0 0)
        refine bodyPost_ret (v := .tuple #[.agg #[.int .i64 0, .int .i64 0, .slice none 0 0, .slice none 0 0], .bool false]) (by simp [results, Tryz.results25, go_sem, j0, j1, j2, j3]) rfl ?_
        exact ⟨four_belowR HS0.out.bel (Nat.le_refl _) _ _ _ _, .inr ⟨HNO.out, _, _, _, _, _, _, _, _, rfl⟩⟩
      go_wp2_with (go_at_call 51; (with_reducible refine (hN1 _).mono ?_); clear hN1; rintro e w' ⟨rfl, hw⟩; have hw2 := hw.symm; subst hw2; clear hw; have HSA : Hid (Sl w (wc.setCell ⟨T, 0, none⟩ (.int .i64 1)) g ws T (T + 1) 1 0 none 0 0 [] none 0 0 none 0 0 [] (fun _ => .slice none 0 0)) := HS0.out.setH; have HSB : Hid (Sl w (wc.setCell ⟨T, 0, none⟩ (.int .i64 1)) g ws T (T + 1) 1 0 none 0 0 [] none 0 0 none 0 0 [] (fun _ => .slice none 0 0)) := HSA.out; have HSC : Hid (Sl w ((wc.setCell ⟨T, 0, none⟩ (.int .i64 1)).setCell ⟨T, 1, none⟩ (.int .i64 f)) g ws T (T + 1) 1 f none 0 0 [] none 0 0 none 0 0 [] (fun _ => .slice none 0 0)) := HSB.out.setN; have sA0 := HSA.out.wd 0 (by rw [HN.out]; exact hN0); rw [← HW0.out] at sA0; obtain ⟨a0, a1, a2, a3, a4, a5, a6, a7⟩ := cells4 HSA.out.box; obtain ⟨c0, c1, c2, c3, c4, c5, c6, c7⟩ := cells4 HSB.out.box)
      go_meet
      exact ⟨2, 1, f, rfl, by omega, by omega, HSC.out, HSM.out⟩
  case rest =>
  obtain ⟨q, kk, ff, rfl, hq12, hqN, HSx, hsr⟩ := hcut
  have HS1 : Hid (Sl w wc g ws T (T + 1) kk ff none 0 0 [] none 0 0 none 0 0 [] (fun _ => .slice none 0 0)) := HSx
  have HSD1 : Hid (sread t = srest kk ff (ws.drop q)) := hsr
  obtain ⟨p0', p1', p2', p3', _⟩ := cells4 HS1.out.box
  obtain ⟨r0', r1', r2', r3', r4', r5', r6', r7'⟩ := cells4 HS1.out.res
  have hwq2 : IntKind.i64.wrap ((q : Int) + 2) = (q : Int) + 2 := IntWalk.i64_in _ (by omega)
  have hwq1 : IntKind.i64.wrap ((q : Int) + 1) = (q : Int) + 1 := IntWalk.i64_in _ (by omega)
  clear HSx hsr HS0 s0 p0 p1 p2 p3 p4 p5 p6 p7 r0 r1 r2 r3 r4 r5 r6 r7 ej el ep HBJ HSRD HW0
  by_cases h3 : N < (q + 2)
  · have hi3 : ((N : Nat) : Int) < (q + 2) := by omega
    have hd3 : decide (((N : Nat) : Int) < (q + 2)) = true := decide_eq_true hi3
    have HNO : Hid (parT t = none) := HPN.out (by rw [HSD1.out]; exact srest_short (by rw [List.length_drop, HN.out]; omega))
    go_wp2
    obtain ⟨j0, j1, j2, j3⟩ := four_set HS1.out.res (.int .i64 kk) (.int .i64 ff) (.slice none 0 0) (.slice none 0 0)
    refine bodyPost_ret (v := .tuple #[.agg #[.int .i64 kk, .int .i64 ff, .slice none 0 0, .slice none 0 0], .bool false]) (by simp [results, Tryz.results25, go_sem, j0, j1, j2, j3]) rfl ?_
    exact ⟨four_belowR HS1.out.bel (Nat.le_refl _) _ _ _ _, .inr ⟨HNO.out, _, _, _, _, _, _, _, _, rfl⟩⟩
  have hi3 : ¬ ((N : Nat) : Int) < (q + 2) := by omega
  have hd3 : decide (((N : Nat) : Int) < (q + 2)) = false := decide_eq_false hi3
  have hatN : q < N := by omega
  have hati : (q : Int) < ((N : Nat) : Int) := by omega
  obtain ⟨wj, hwj⟩ : ∃ x, x = ws.getD q [] := ⟨_, rfl⟩
  have hwjm : wj ∈ ws := by rw [hwj]; exact getD_mem (by rw [HN.out]; exact hatN)
  have hwjl : wj.length ≤ 1048576 := HLN.out wj hwjm
  have hwjs : wj.length + 2 ≤ 1048576 := by have := HSUM.out wj hwjm; omega
  have HSwj : Hid (∀ v (T mid : Nat) (k' f' : Int) (g : Nat), Sl w v g ws T mid k' f' none 0 0 [] none 0 0 none 0 0 [] (fun _ => .slice none 0 0) → v.cell? ⟨g, q, none⟩ = some (.string (str wj))) := fun v T mid k' f' g H => by rw [hwj]; exact H.wd q (by rw [HN.out]; exact hatN)
  have HSR3 : Hid (sread t = (match mapO sref (cutL 43 wj), mapO sout (ws.drop (q + 1)) with
    | some rs, some os => some ⟨kk, ff, rs, os⟩
    | _, _ => none)) := by
    show _ = _
    rw [HSD1.out, hwj]
    exact srest_at HN.out (by omega)
  have HIN : Hid (∀ u, Calls Tryz.prog 52 #[.string (str wj)] u fun e w' => OutIn u w' e wj) := fun u => l3Ins_any wj u hwjl
  clear hwj hwjm
  cases hrs : mapO sref (cutL 43 wj) with
  | none =>
    have HNO : Hid (parT t = none) := HPN.out (by rw [HSR3.out, hrs])
    have HIN2 : Hid (∀ u, Calls Tryz.prog 52 #[.string (str wj)] u fun e w' => e = .returned (.tuple #[.slice none 0 0, .bool false]) ∧ Hid (Below u.heap.size u w')) := fun u => (HIN.out u).mono fun e w' ⟨hb, h⟩ => by
      rcases h with ⟨rs, g, c, q, _⟩ | ⟨_, q⟩
      · rw [hrs] at q; cases q
      · exact ⟨q, hb⟩
    have swj := HSwj.out _ _ _ _ _ _ HS1.out
    have hIn := HIN2.out wc
    go_wp2_with (first
      | (go_at_call 52; (with_reducible refine hIn.mono ?_); clear hIn; rintro e u5 ⟨rfl, HB5⟩; have HS5 : Hid (Sl w u5 g ws T (T + 1) kk ff none 0 0 [] none 0 0 none 0 0 [] (fun _ => .slice none 0 0)) := HS1.out.mem HB5.out; obtain ⟨p0, p1, p2, p3, p4, p5, p6, p7⟩ := cells4 HS5.out.box; have HS6 : Hid (Sl w (u5.setCell ⟨T, 2, none⟩ (.slice none 0 0)) g ws T u5.heap.size kk ff none 0 0 [] none 0 0 none 0 0 [] (fun _ => .slice none 0 0)) := HS5.out.setI (ia2 := none) (n2 := 0) (ic2 := 0) (rs2 := []) rfl ⟨rfl, rfl⟩ (World.ownsRow_nil _ _ _ _) (fun b hb => by simp [Value.ownBlock] at hb)))
    refine wp_loop_rounds 1 ?_
    rw [rounds_succ]
    obtain ⟨wr, hwr⟩ : ∃ V, V = u5.setCell ⟨T, 2, none⟩ (.slice none 0 0) := ⟨_, rfl⟩
    obtain ⟨mid, hmid⟩ : ∃ z, z = u5.heap.size := ⟨_, rfl⟩
    rw [← hwr, ← hmid] at HS6
    rw [← hwr]
    obtain ⟨ia, n, ic, oa, m, oc, hz⟩ : ∃ (ia : Option Addr) (n ic : Nat) (oa : Option Addr) (m oc : Nat), ia = none ∧ n = 0 ∧ ic = 0 ∧ oa = none ∧ m = 0 ∧ oc = 0 := ⟨_, _, _, _, _, _, rfl, rfl, rfl, rfl, rfl, rfl⟩
    have HSL : Hid (Sl w wr g ws T mid kk ff ia n ic [] oa m oc oa m oc [] (fun _ => .slice none 0 0)) := by
      obtain ⟨rfl, rfl, rfl, rfl, rfl, rfl⟩ := hz
      exact HS6.out
    clear hz hwr hmid HS6 HS5 HS1 p0 p1 p2 p3 p4 p5 p6 p7
    go_wp2
    obtain ⟨b0, b1, b2, b3, b4, b5, b6, b7⟩ := cells4 HSL.out.box
    obtain ⟨r0, r1, r2, r3, r4, r5, r6, r7⟩ := cells4 HSL.out.res
    have hTR : w.heap.size < T := by have := HSL.out.ord; omega
    have hTl : T < wr.heap.size := by have := HSL.out.ord; omega
    go_big_region
    go_wp2
    obtain ⟨j0, j1, j2, j3⟩ := four_set HSL.out.res (.int .i64 kk) (.int .i64 ff) (.slice ia n ic) (.slice oa m oc)
    refine bodyPost_ret (v := .tuple #[.agg #[.int .i64 kk, .int .i64 ff, .slice ia n ic, .slice oa m oc], .bool false]) (by simp [results, Tryz.results25, go_sem, j0, j1, j2, j3]) rfl ?_
    exact ⟨(four_belowR HSL.out.bel (Nat.le_refl _) _ _ _ _).drew, .inr ⟨HNO.out, _, _, _, _, _, _, _, _, rfl⟩⟩
  | some rs =>
  have HIN2 : Hid (∀ u, Calls Tryz.prog 52 #[.string (str wj)] u fun e w' => ∃ g0 ic, e = .returned (.tuple #[.slice (some ⟨g0, 0, none⟩) rs.length ic, .bool true]) ∧ Hid (w'.ownsRow u.heap.size 65 2 (.slice (some ⟨g0, 0, none⟩) rs.length ic) rs.length (gcells rs)) ∧ Hid (Below u.heap.size u w')) := fun u => (HIN.out u).mono fun e w' ⟨hb, h⟩ => by
    rcases h with ⟨rs', g, c, q, q1, q2⟩ | ⟨q, _⟩
    · rw [hrs] at q
      cases q
      exact ⟨g, c, q1, q2, hb⟩
    · rw [hrs] at q; cases q
  obtain ⟨n, hn⟩ : ∃ n, n = rs.length := ⟨_, rfl⟩
  rw [← hn] at HIN2
  have HNR : Hid (rs.length = n) := hn.symm
  have hn2 : n ≤ 1048576 := by rw [hn, mapO_len hrs]; have := cutL_len 43 wj; omega
  have HSOM : Hid (∀ os, mapO sout (ws.drop (q + 1)) = some os → sread t = some ⟨kk, ff, rs, os⟩) := fun os ho => by rw [HSR3.out, hrs, ho]
  have HNON : Hid (mapO sout (ws.drop (q + 1)) = none → parT t = none) := fun ho => HPN.out (by rw [HSR3.out, hrs, ho])
  clear hrs hn
  have swj := HSwj.out _ _ _ _ _ _ HS1.out
  have hIn := HIN2.out wc
  go_wp2_with (first
    | (go_at_call 52; (with_reducible refine hIn.mono ?_); clear hIn; rintro e u5 ⟨g0, ic, rfl, HO5, HB5⟩; have HS5 : Hid (Sl w u5 g ws T (T + 1) kk ff none 0 0 [] none 0 0 none 0 0 [] (fun _ => .slice none 0 0)) := HS1.out.mem HB5.out; obtain ⟨p0, p1, p2, p3, p4, p5, p6, p7⟩ := cells4 HS5.out.box; have HS6 : Hid (Sl w (u5.setCell ⟨T, 2, none⟩ (.slice (some ⟨g0, 0, none⟩) n ic)) g ws T u5.heap.size kk ff (some ⟨g0, 0, none⟩) n ic rs none 0 0 none 0 0 [] (fun _ => .slice none 0 0)) := HS5.out.setI (ia2 := some ⟨g0, 0, none⟩) (n2 := n) (ic2 := ic) (rs2 := rs) rfl ⟨rfl, rfl⟩ (Joins.ownsRow_le HO5.out (by have := HS1.out.bel.size; omega)) (fun b hb e => by have h1 := (HO5.out.lt b hb).1; have h2 := HS1.out.ord; omega)))
  obtain ⟨W9, hW9⟩ : ∃ V, V = u5.setCell ⟨T, 2, none⟩ (.slice (some ⟨g0, 0, none⟩) n ic) := ⟨_, rfl⟩
  obtain ⟨mid, hmid⟩ : ∃ z, z = u5.heap.size := ⟨_, rfl⟩
  obtain ⟨ia, hia⟩ : ∃ a, a = some (⟨g0, 0, none⟩ : Addr) := ⟨_, rfl⟩
  have HIA : Hid (ia = some ⟨g0, 0, none⟩) := hia
  rw [← hW9, ← hmid, ← hia] at HS6
  rw [← hW9, ← hia]
  clear hW9 hmid hia HS5 HS1 p0 p1 p2 p3 p4 p5 p6 p7
  go_loopw [10, 11] (fun okv i wr => ∃ j : Nat, j ≤ N ∧ i = .int .i64 j ∧ ∃ okb : Bool, okv = .bool okb ∧ Hid (∃ m os oa oc kv, j = (q + 1) + m ∧ Sl w wr g ws T mid kk ff ia n ic rs oa m oc oa m oc os kv ∧ (okb = true → ((ws.drop (q + 1)).take m).map sout = os.map some) ∧ (okb = false → parT t = none))) (fun _ i _ => N - (intOf i).toNat)
  case atStart => exact ⟨(q + 1), by omega, rfl, true, rfl, 0, [], none, 0, _, rfl, HS6.out, fun _ => rfl, fun e => by cases e⟩
  case round =>
    obtain ⟨j, hj, rfl, okb, rfl, HH⟩ := hrel
    obtain ⟨m, os, oa, oc, kv, hjm, HSl, hmp, hno⟩ := HH.out
    have HSL : Hid (Sl w wr g ws T mid kk ff ia n ic rs oa m oc oa m oc os kv) := HSl
    have HJM : Hid (j = (q + 1) + m) := hjm
    have hm6 : m ≤ 1100000 := by omega
    have hm2 : m ≤ 1048576 := by omega
    clear HH
    cases okb
    · have HNO : Hid (parT t = none) := hno rfl
      obtain ⟨p0, p1, p2, p3, _⟩ := cells4 HSl.box
      clear HSl hmp hno hjm
      by_cases hlt : j < N
      · have hki : (j : Int) < (N : Int) := by omega
        have hkd : decide ((j : Int) < (N : Int)) = true := decide_eq_true hki
        go_wp2
        obtain ⟨b0, b1, b2, b3, b4, b5, b6, b7⟩ := cells4 HSL.out.box
        obtain ⟨r0, r1, r2, r3, r4, r5, r6, r7⟩ := cells4 HSL.out.res
        have hTR : w.heap.size < T := by have := HSL.out.ord; omega
        have hTl : T < wr.heap.size := by have := HSL.out.ord; omega
        go_big_region
        go_wp2
        obtain ⟨j0, j1, j2, j3⟩ := four_set HSL.out.res (.int .i64 kk) (.int .i64 ff) (.slice ia n ic) (.slice oa m oc)
        refine bodyPost_ret (v := .tuple #[.agg #[.int .i64 kk, .int .i64 ff, .slice ia n ic, .slice oa m oc], .bool false]) (by simp [results, Tryz.results25, go_sem, j0, j1, j2, j3]) rfl ?_
        exact ⟨(four_belowR HSL.out.bel (Nat.le_refl _) _ _ _ _).drew, .inr ⟨HNO.out, _, _, _, _, _, _, _, _, rfl⟩⟩
      · have hki : ¬ (j : Int) < (N : Int) := by omega
        have hkd : decide ((j : Int) < (N : Int)) = false := decide_eq_false hki
        go_wp2
        obtain ⟨b0, b1, b2, b3, b4, b5, b6, b7⟩ := cells4 HSL.out.box
        obtain ⟨r0, r1, r2, r3, r4, r5, r6, r7⟩ := cells4 HSL.out.res
        have hTR : w.heap.size < T := by have := HSL.out.ord; omega
        have hTl : T < wr.heap.size := by have := HSL.out.ord; omega
        go_big_region
        go_wp2
        obtain ⟨j0, j1, j2, j3⟩ := four_set HSL.out.res (.int .i64 kk) (.int .i64 ff) (.slice ia n ic) (.slice oa m oc)
        refine bodyPost_ret (v := .tuple #[.agg #[.int .i64 kk, .int .i64 ff, .slice ia n ic, .slice oa m oc], .bool false]) (by simp [results, Tryz.results25, go_sem, j0, j1, j2, j3]) rfl ?_
        exact ⟨(four_belowR HSL.out.bel (Nat.le_refl _) _ _ _ _).drew, .inr ⟨HNO.out, _, _, _, _, _, _, _, _, rfl⟩⟩
    · have HMP : Hid (((ws.drop (q + 1)).take m).map sout = os.map some) := hmp rfl
      have HOL : Hid (os.length = m) := outs_lenS (hmp rfl) (by rw [HN.out]; omega)
      clear hmp hno hjm
      by_cases hlt : j < N
      · have hki : (j : Int) < (N : Int) := by omega
        have hkd : decide ((j : Int) < (N : Int)) = true := decide_eq_true hki
        obtain ⟨x, hx⟩ : ∃ x, x = ws.getD j [] := ⟨_, rfl⟩
        have hjl : j < ws.length := by rw [HN.out]; exact hlt
        have hxl : x.length ≤ 1048576 := HLN.out x (by rw [hx]; exact getD_mem hjl)
        have cj : wr.cell? ⟨g, j, none⟩ = some (.string (str x)) := by rw [hx]; exact HSl.wd j hjl
        have HX : Hid (x = ws.getD j []) := hx
        have HWM : Hid (x ∈ ws.drop (q + 1)) := by
          have e : (ws.drop (q + 1))[m]? = some x := by rw [List.getElem?_drop, ← HJM.out, hx, List.getD, List.getElem?_eq_getElem hjl]; rfl
          exact List.mem_of_getElem? e
        have hc2 := l2Cut_any x 61 wr hxl
        obtain ⟨r0, r1, r2, r3, r4, r5, r6, r7⟩ := cells4 HSl.res
        obtain ⟨b0, b1, b2, b3, _⟩ := cells4 HSl.box
        clear hx hjl
        by_cases h2 : (cutL 61 x).length = 2
        · obtain ⟨a, b, hab⟩ := cut_two h2
          rw [hab] at hc2
          have hc2' : Calls Tryz.prog 50 #[.string (str x), .int .u8 61] wr fun e w' => ∃ g2 v2, e = .returned (.slice (some ⟨g2, 0, none⟩) 2 v2) ∧ Hid (w'.ownsRow wr.heap.size 9 1 (.slice (some ⟨g2, 0, none⟩) 2 v2) 2 (texts [a, b])) ∧ Hid (Below wr.heap.size wr w') := hc2.mono fun e w' ⟨va, vc, e1, hO, hb⟩ => by
            obtain ⟨g2, rfl⟩ := row_some hO (by simp)
            exact ⟨g2, vc, e1, hO, hb⟩
          have hal : a.length ≤ 1048576 := by have := cutL_sub 61 x a (by rw [hab]; simp); omega
          have hbl : b.length ≤ 1048576 := by have := cutL_sub 61 x b (by rw [hab]; simp); omega
          have hs := sout_two hab
          obtain ⟨pq, hpq⟩ : ∃ z, z = b.map swq := ⟨_, rfl⟩
          have hpql : pq.length ≤ 1048576 := by rw [hpq, List.length_map]; exact hbl
          obtain ⟨n7, hn7⟩ : ∃ z, z = (numR a 7).1 := ⟨_, rfl⟩
          obtain ⟨k1, hk1⟩ : ∃ z, z = (numR a 7).2 := ⟨_, rfl⟩
          obtain ⟨k2, hk2⟩ : ∃ z, z = (parU pq).2 := ⟨_, rfl⟩
          have hN7 : ∀ u, Calls Tryz.prog 51 #[.string (str a), .int .i64 7] u fun e w' => e = .returned (.tuple #[.int .i64 n7, .bool k1]) ∧ w' = u := fun u => by rw [hn7, hk1]; exact l2Number_any a 7 u hal (by omega)
          have HSW : Hid (∀ u, Calls Tryz.prog 39 #[.string (str b), .int .u8 95, .int .u8 32] u fun e w' => e = .returned (.string (str pq)) ∧ Hid (Below u.heap.size u w')) := fun u => by rw [hpq]; exact l3SwapQ_any b u hbl
          have HPA : Hid (∀ u, Calls Tryz.prog 53 #[.string (str pq)] u fun e w' => Below u.heap.size u w' ∧ ∃ (l : List Int) (rx ry : Int) (va : Option Addr) (vk : Nat), e = .returned (.tuple #[.agg #[.slice va l.length vk, .int .i64 rx, .int .i64 ry], .bool k2]) ∧ w'.ownsRow u.heap.size 2 1 (.slice va l.length vk) l.length (ints l) ∧ ((parU pq).2 = true → (parU pq).1 = (l, rx, ry))) := fun u => by rw [hk2]; exact l2Parse_any pq u hpql
          have HK2 : Hid (k2 = (parU pq).2) := hk2
          rw [← hpq, ← hn7, ← hk1, ← hk2] at hs
          have HSO : Hid (sout x = if k1 = true ∧ k2 = true then some ⟨n7, (parU pq).1.1, (parU pq).1.2.1, (parU pq).1.2.2⟩ else none) := hs
          clear hs hn7 hk1 hk2 h2 hab hc2 hpq HSl
          cases k1
          · go_wp2_with (first
              | (go_at_call 50; (with_reducible refine hc2'.mono ?_); clear hc2'; rintro e u1 ⟨g2, v2, rfl, HO1, HB1⟩; obtain ⟨s20, s21⟩ := row_two HO1.out; have HSa : Hid (Sl w u1 g ws T mid kk ff ia n ic rs oa m oc oa m oc os kv) := HSL.out.mem HB1.out; have hSw := HSW.out u1)
              | (go_at_call 51; (with_reducible refine (hN7 _).mono ?_); clear hN7; rintro e w' ⟨rfl, hw⟩; have hw2 := hw.symm; subst hw2; clear hw)
              | (go_at_call 39; (with_reducible refine hSw.mono ?_); clear hSw; rintro e u3 ⟨rfl, HB3⟩; have HSb : Hid (Sl w u3 g ws T mid kk ff ia n ic rs oa m oc oa m oc os kv) := HSa.out.mem HB3.out; have hPa := HPA.out u3)
              | (go_at_call 53; (with_reducible refine hPa.mono ?_); clear hPa; rintro e u4 ⟨hb4, l, rx, ry, va, vk, rfl, hO4, hp4⟩; have HSc : Hid (Sl w u4 g ws T mid kk ff ia n ic rs oa m oc oa m oc os kv) := HSb.out.mem hb4; obtain ⟨ln, hln⟩ : ∃ z, z = l.length := ⟨_, rfl⟩; rw [← hln] at hO4 ⊢; have HLN2 : Hid (l.length = ln) := hln.symm; clear hln; have HP4 : Hid (k2 = true → (parU pq).1 = (l, rx, ry)) := (fun e => hp4 (HK2.out.symm.trans e)); have hbr : Below u4.heap.size u4 (u4.alloc (.cells #[.slice va ln vk, .int .i64 rx, .int .i64 ry] 42)) := below_box _; have hbo : Below (u4.alloc (.cells #[.slice va ln vk, .int .i64 rx, .int .i64 ry] 42)).heap.size (u4.alloc (.cells #[.slice va ln vk, .int .i64 rx, .int .i64 ry] 42)) ((u4.alloc (.cells #[.slice va ln vk, .int .i64 rx, .int .i64 ry] 42)).alloc (.cells #[.int .i64 n7, .slice va ln vk, .int .i64 rx, .int .i64 ry] 44)) := below_box _; have HSd : Hid (Sl w (u4.alloc (.cells #[.slice va ln vk, .int .i64 rx, .int .i64 ry] 42)) g ws T mid kk ff ia n ic rs oa m oc oa m oc os kv) := HSc.out.mem hbr; have HSe : Hid (Sl w ((u4.alloc (.cells #[.slice va ln vk, .int .i64 rx, .int .i64 ry] 42)).alloc (.cells #[.int .i64 n7, .slice va ln vk, .int .i64 rx, .int .i64 ry] 44)) g ws T mid kk ff ia n ic rs oa m oc oa m oc os kv) := HSd.out.mem hbo; obtain ⟨p0, p1, p2, p3, _⟩ := cells4 HSd.out.box; obtain ⟨g6, c6, w6, hrun, HA⟩ := out_step (q := ⟨n7, l, rx, ry⟩) HSe.out HOL.out HLN2.out (Joins.ownsRow_le ((hO4.alloc _).alloc _) (Nat.le_refl _)) HSb.out (heap_alloc_new (u4.alloc (.cells #[.slice va ln vk, .int .i64 rx, .int .i64 ry] 42)) _) hm6; have hsz6 : (u4.alloc (.cells #[.slice va ln vk, .int .i64 rx, .int .i64 ry] 42)).heap.size = u4.heap.size + 1 := (by simp); rw [hsz6] at hrun; obtain ⟨t0, t1, t2, t3, t4, t5, t6, t7⟩ := cells4 HA.out.box; have HF7 : Hid (∃ kv', Sl w (w6.setCell ⟨T, 3, none⟩ (.slice (some ⟨g6, 0, none⟩) (m + 1) c6)) g ws T mid kk ff ia n ic rs (some ⟨g6, 0, none⟩) (m + 1) c6 (some ⟨g6, 0, none⟩) (m + 1) c6 (os ++ [⟨n7, l, rx, ry⟩]) kv') := ⟨_, HA.out.setO⟩; clear hb4 hO4 hp4 hbr hbo)
              | (at_builtin; go_must (refine wpList_append_runC (by rfl) _ _ _ (by rfl) (by rfl) (by rfl) hrun ?_); clear hrun))
            go_roundw
            case rel =>
              obtain ⟨kv', HF⟩ := HF7.out
              refine ⟨j + 1, by omega, by go_num, false, rfl, m + 1, os ++ [⟨n7, l, rx, ry⟩], some ⟨g6, 0, none⟩, c6, kv', by have := HJM.out; omega, HF, fun e => ?_, fun e => ?_⟩
              · cases e
              · exact HNON.out (mapO_none HWM.out (by rw [HSO.out, if_neg (fun h => by cases h.1)]))
            case measure => simp [intOf]; omega
          · go_wp2_with (first
              | (go_at_call 50; (with_reducible refine hc2'.mono ?_); clear hc2'; rintro e u1 ⟨g2, v2, rfl, HO1, HB1⟩; obtain ⟨s20, s21⟩ := row_two HO1.out; have HSa : Hid (Sl w u1 g ws T mid kk ff ia n ic rs oa m oc oa m oc os kv) := HSL.out.mem HB1.out; have hSw := HSW.out u1)
              | (go_at_call 51; (with_reducible refine (hN7 _).mono ?_); clear hN7; rintro e w' ⟨rfl, hw⟩; have hw2 := hw.symm; subst hw2; clear hw)
              | (go_at_call 39; (with_reducible refine hSw.mono ?_); clear hSw; rintro e u3 ⟨rfl, HB3⟩; have HSb : Hid (Sl w u3 g ws T mid kk ff ia n ic rs oa m oc oa m oc os kv) := HSa.out.mem HB3.out; have hPa := HPA.out u3)
              | (go_at_call 53; (with_reducible refine hPa.mono ?_); clear hPa; rintro e u4 ⟨hb4, l, rx, ry, va, vk, rfl, hO4, hp4⟩; have HSc : Hid (Sl w u4 g ws T mid kk ff ia n ic rs oa m oc oa m oc os kv) := HSb.out.mem hb4; obtain ⟨ln, hln⟩ : ∃ z, z = l.length := ⟨_, rfl⟩; rw [← hln] at hO4 ⊢; have HLN2 : Hid (l.length = ln) := hln.symm; clear hln; have HP4 : Hid (k2 = true → (parU pq).1 = (l, rx, ry)) := (fun e => hp4 (HK2.out.symm.trans e)); have hbr : Below u4.heap.size u4 (u4.alloc (.cells #[.slice va ln vk, .int .i64 rx, .int .i64 ry] 42)) := below_box _; have hbo : Below (u4.alloc (.cells #[.slice va ln vk, .int .i64 rx, .int .i64 ry] 42)).heap.size (u4.alloc (.cells #[.slice va ln vk, .int .i64 rx, .int .i64 ry] 42)) ((u4.alloc (.cells #[.slice va ln vk, .int .i64 rx, .int .i64 ry] 42)).alloc (.cells #[.int .i64 n7, .slice va ln vk, .int .i64 rx, .int .i64 ry] 44)) := below_box _; have HSd : Hid (Sl w (u4.alloc (.cells #[.slice va ln vk, .int .i64 rx, .int .i64 ry] 42)) g ws T mid kk ff ia n ic rs oa m oc oa m oc os kv) := HSc.out.mem hbr; have HSe : Hid (Sl w ((u4.alloc (.cells #[.slice va ln vk, .int .i64 rx, .int .i64 ry] 42)).alloc (.cells #[.int .i64 n7, .slice va ln vk, .int .i64 rx, .int .i64 ry] 44)) g ws T mid kk ff ia n ic rs oa m oc oa m oc os kv) := HSd.out.mem hbo; obtain ⟨p0, p1, p2, p3, _⟩ := cells4 HSd.out.box; obtain ⟨g6, c6, w6, hrun, HA⟩ := out_step (q := ⟨n7, l, rx, ry⟩) HSe.out HOL.out HLN2.out (Joins.ownsRow_le ((hO4.alloc _).alloc _) (Nat.le_refl _)) HSb.out (heap_alloc_new (u4.alloc (.cells #[.slice va ln vk, .int .i64 rx, .int .i64 ry] 42)) _) hm6; have hsz6 : (u4.alloc (.cells #[.slice va ln vk, .int .i64 rx, .int .i64 ry] 42)).heap.size = u4.heap.size + 1 := (by simp); rw [hsz6] at hrun; obtain ⟨t0, t1, t2, t3, t4, t5, t6, t7⟩ := cells4 HA.out.box; have HF7 : Hid (∃ kv', Sl w (w6.setCell ⟨T, 3, none⟩ (.slice (some ⟨g6, 0, none⟩) (m + 1) c6)) g ws T mid kk ff ia n ic rs (some ⟨g6, 0, none⟩) (m + 1) c6 (some ⟨g6, 0, none⟩) (m + 1) c6 (os ++ [⟨n7, l, rx, ry⟩]) kv') := ⟨_, HA.out.setO⟩; clear hb4 hO4 hp4 hbr hbo)
              | (at_builtin; go_must (refine wpList_append_runC (by rfl) _ _ _ (by rfl) (by rfl) (by rfl) hrun ?_); clear hrun))
            go_roundw
            case rel =>
              obtain ⟨kv', HF⟩ := HF7.out
              refine ⟨j + 1, by omega, by go_num, k2, rfl, m + 1, os ++ [⟨n7, l, rx, ry⟩], some ⟨g6, 0, none⟩, c6, kv', by have := HJM.out; omega, HF, fun e => ?_, fun e => ?_⟩
              · have h4 := HP4.out e
                have hq : sout (ws.getD j []) = some ⟨n7, l, rx, ry⟩ := by
                  rw [← HX.out, HSO.out, if_pos (by simp [e]), h4]
                exact outs_atS HMP.out HJM.out (by rw [HN.out]; exact hlt) hq
              · exact HNON.out (mapO_none HWM.out (by rw [HSO.out, if_neg (fun h => by have h2 := h.2; rw [e] at h2; cases h2)]))
            case measure => simp [intOf]; omega
        · obtain ⟨M, hM⟩ : ∃ M, M = (cutL 61 x).length := ⟨_, rfl⟩
          have HNO : Hid (parT t = none) := HNON.out (mapO_none HWM.out (sout_no h2))
          rw [← hM] at hc2 h2
          have hne : ((M : Int) == 2) = false := by simp; omega
          have hne2 : (M == 2) = false := by simpa using h2
          have hne3 : ¬ (M : Int) = 2 := by omega
          have hc3 : Calls Tryz.prog 50 #[.string (str x), .int .u8 61] wr fun e w' => ∃ va vc, e = .returned (.slice va M vc) ∧ Hid (Below wr.heap.size wr w') := hc2.mono fun e w' ⟨va, vc, e1, _, hb⟩ => ⟨va, vc, e1, hb⟩
          clear hc2 hM HSl
          go_wp2_with (first
            | (go_at_call 50; (with_reducible refine hc3.mono ?_); clear hc3; rintro e u3 ⟨va, v2, rfl, HB3⟩; have HS3 : Hid (Sl w u3 g ws T mid kk ff ia n ic rs oa m oc oa m oc os kv) := HSL.out.mem HB3.out; obtain ⟨p0, p1, p2, p3, _⟩ := cells4 HS3.out.box; obtain ⟨q0, q1, q2, q3, q4, q5, q6, q7⟩ := cells4 HS3.out.res))
          obtain ⟨j0, j1, j2, j3⟩ := four_set HS3.out.res (.int .i64 kk) (.int .i64 ff) (.slice ia n ic) (.slice oa m oc)
          refine bodyPost_ret (v := .tuple #[.agg #[.int .i64 kk, .int .i64 ff, .slice ia n ic, .slice oa m oc], .bool false]) (by simp [results, Tryz.results25, go_sem, j0, j1, j2, j3]) rfl ?_
          exact ⟨four_belowR HS3.out.bel (Nat.le_refl _) _ _ _ _, .inr ⟨HNO.out, _, _, _, _, _, _, _, _, rfl⟩⟩
      · have hki : ¬ (j : Int) < (N : Int) := by omega
        have hkd : decide ((j : Int) < (N : Int)) = false := decide_eq_false hki
        have HAL : Hid (mapO sout (ws.drop (q + 1)) = some os) := mapO_some (by rw [← HMP.out, List.take_of_length_le (by rw [List.length_drop, HN.out]; have := HJM.out; omega)])
        have HSD : Hid (sread t = some ⟨kk, ff, rs, os⟩) := HSOM.out os HAL.out
        have HFEW : Hid (∀ q ∈ os, q.l.length ≤ 3) := fun q hq => by
          obtain ⟨a, _, e⟩ := mapO_mem HAL.out q hq
          exact sout_few e
        have hcap := row_caps2 HSl.ref
        have hTx : ∀ u, Below wr.heap.size wr u → TxAt u ia n oa m rs os := fun u hu => ⟨GAt.owned2 ((HSL.out.mem hu).ref) HNR.out, (HSL.out.mem hu).out.at2 HOL.out HFEW.out⟩
        obtain ⟨cf, hcf⟩ : ∃ z, z = txR kk ff rs os := ⟨_, rfl⟩
        have HF31 : Hid (∀ u, Below wr.drew.heap.size wr.drew u → Calls Tryz.prog 27 #[.pointer (some ⟨T, 0, none⟩)] u fun e w' => e = .returned (.int .i64 cf) ∧ Below u.heap.size u w') := fun u hu => by
          have hu2 : Below wr.heap.size wr u := (Below.refl _ _).drew.trans hu
          rw [hcf]
          exact l3Fault_any T n ic m oc ia oa kk ff rs os u hn2 hm2 hcap.1 hcap.2 (fun q hq => Nat.le_trans (HFEW.out _ (getD_mem (by rw [HOL.out]; exact hq))) (by omega)) (hTx u hu2) (HSL.out.mem hu2).box
        obtain ⟨tx, htx⟩ : ∃ z, z = txT kk ff rs os := ⟨_, rfl⟩
        obtain ⟨okF, hokF⟩ : ∃ b, b = (cf == 0) := ⟨_, rfl⟩
        obtain ⟨okT, hokT⟩ : ∃ b, b = ((str tx).toList == (str t).toList) := ⟨_, rfl⟩
        obtain ⟨okL, hokL⟩ : ∃ b, b = decide (((t.length : Nat) : Int) ≤ 300) := ⟨_, rfl⟩
        obtain ⟨okB, hOB⟩ : ∃ b, b = (okF && okT) := ⟨_, rfl⟩
        obtain ⟨okR, hOR⟩ : ∃ b, b = (okB && okL) := ⟨_, rfl⟩
        have HT31 : Hid (okF = true → ∀ u, Below wr.drew.heap.size wr.drew u → Calls Tryz.prog 18 #[.pointer (some ⟨T, 0, none⟩)] u fun e w' => e = .returned (.string (str tx)) ∧ Below u.heap.size u w') := fun hF u hu => by
          have hz : cf = 0 := by rw [hokF] at hF; simpa using hF
          have hu2 : Below wr.heap.size wr u := (Below.refl _ _).drew.trans hu
          have hS2 := HSL.out.mem hu2
          obtain ⟨p0, p1, p2, p3, _⟩ := cells4 hS2.box
          rw [htx]
          exact l3Text_any T n ic m oc ia oa kk ff rs os u (txOk_of (hz.symm.trans hcf)) (hTx u hu2) (by have := hS2.ord; omega) p0 p1 p2 p3
        have hTE : okT = true ↔ tx = t := by
          rw [hokT]
          constructor
          · intro h
            by_cases e : tx = t
            · exact e
            · rw [str_no (by
                intro e2
                apply e
                have := congrArg (fun b : ByteArray => b.data.toList) e2
                simpa [str] using this)] at h
              cases h
          · intro h; exact str_yes (by rw [h])
        have HFIT : Hid (TxV.fits ⟨kk, ff, rs, os⟩ t ↔ okR = true) := by
          show TxV.fits ⟨kk, ff, rs, os⟩ t ↔ okR = true
          rw [hOR, hOB, Bool.and_eq_true, Bool.and_eq_true, hTE, hokF, hokL, beq_iff_eq, decide_eq_true_iff, hcf]
          constructor
          · rintro ⟨h1, h2, h3⟩; exact ⟨⟨h1, htx.trans h2⟩, by omega⟩
          · rintro ⟨⟨h1, h2⟩, h3⟩; exact ⟨h1, htx.symm.trans h2, by omega⟩
        have HTXR : Hid (okR = true → parT t = some ⟨kk, ff, rs, os⟩ ∧ os.length ≠ 0) := fun h => by
          have hf := HFIT.out.2 h
          refine ⟨?_, fun e => (tx_parts (x := ⟨kk, ff, rs, os⟩) hf.1).2.2.2.1 (List.length_eq_zero_iff.1 e)⟩
          show kept (sread t) t = _
          rw [HSD.out]
          exact if_pos hf
        have HTXN : Hid (okR = false → parT t = none) := fun h => kept_no fun y hy hf => by
          rw [HSD.out] at hy
          cases hy
          rw [HFIT.out.1 hf] at h
          cases h
        have HOB : Hid (okB = (okF && okT)) := hOB
        have HOR : Hid (okR = (okB && okL)) := hOR
        have hOKF : (cf == 0) = okF := hokF.symm
        have hOKT : ((str tx).toList == (str t).toList) = okT := hokT.symm
        have hOKL : decide (((t.length : Nat) : Int) ≤ 300) = okL := hokL.symm
        clear hTx hcap hcf htx hokF hokT hokL hTE HSl hOB hOR
        have hTl : T < wr.drew.heap.size := by have := HSL.out.ord; show T < wr.heap.size; omega
        have hRl : w.heap.size < wr.drew.heap.size := by have := HSL.out.ord; show w.heap.size < wr.heap.size; omega
        go_wp2
        refine wp_region_any (by kernel_rfl) ?_
        change wpAny _ _ _ _ _ _ _ (World.drew _)
        refine wpAny_inv (fun L a V => ∃ (b0 b1 b2 b3 b4 b5 b6 b7 b8 b9 b10 b11 b12 b13 b14 b15 b16 b17 : Bool) (x0 x1 x2 x3 x4 x5 x6 x7 x8 x9 x10 x11 x12 x13 x14 x15 x16 x17 : Value), L = #[b0, b1, b2, b3, b4, b5, b6, b7, b8, b9, b10, b11, b12, b13, b14, b15, b16, b17] ∧ Fr 136 [some 120, some 121, some 122, some 123, some 124, some 125, some 126, some 127, some 128, some 129, some 130, some 131, some 132, some 133, some 134, some 135, none, some 3, some 0, some 2, some 5, some 10] [b0, b1, b2, b3, b4, b5, b6, b7, b8, b9, b10, b11, b12, b13, b14, b15, b16, b17, true, true, true, true] [x0, x1, x2, x3, x4, x5, x6, x7, x8, x9, x10, x11, x12, x13, x14, x15, x16, x17, .string (str t), .pointer (some ⟨w.heap.size, 0, none⟩), .pointer (some ⟨T, 0, none⟩), .bool true] a ∧ Rm wr.drew w.heap.size kk ff ia n ic oa m oc t tx cf okF okT okB okL okR V b0 b1 b2 b3 b4 b5 b6 b7 b8 b9 b10 b11 b12 b13 b14 b15 b16 b17 x0 x1 x2 x3 x4 x5 x6 x7 x8 x9 x10 x11 x12 x13 x14 x15 x16 x17) ?step ?done _ _ _ _ (by simp) ?start
        case start =>
          refine ⟨false, false, false, false, false, false, false, false, false, false, false, false, false, false, false, false, false, false, undef, undef, undef, undef, undef, undef, undef, undef, undef, undef, undef, undef, undef, undef, undef, undef, undef, undef, rfl, ⟨rfl, rfl, rfl, rfl, fun i d h1 h2 => ?_⟩, ?_⟩
          · have hlt : i < 22 := (List.getElem?_eq_some_iff.1 h1).1
            obtain rfl | rfl | rfl | rfl | rfl | rfl | rfl | rfl | rfl | rfl | rfl | rfl | rfl | rfl | rfl | rfl | rfl | rfl | rfl | rfl | rfl | rfl : i = 0 ∨ i = 1 ∨ i = 2 ∨ i = 3 ∨ i = 4 ∨ i = 5 ∨ i = 6 ∨ i = 7 ∨ i = 8 ∨ i = 9 ∨ i = 10 ∨ i = 11 ∨ i = 12 ∨ i = 13 ∨ i = 14 ∨ i = 15 ∨ i = 16 ∨ i = 17 ∨ i = 18 ∨ i = 19 ∨ i = 20 ∨ i = 21 := by omega
            all_goals first | exact absurd h2 (by decide) | (have := Option.some.inj (Option.some.inj h1); subst this; rfl)
          · exact { bel := fun _ => Below.refl _ _, g0 := nofun, g1 := nofun, g2 := nofun, g3 := nofun, g4 := nofun, g5 := nofun, g6 := nofun, g7 := nofun, g8 := nofun, g9 := nofun, g10 := nofun, g11 := nofun, g12 := nofun, g13 := nofun, g14 := nofun, g15 := nofun, g17 := nofun, o2_1 := nofun, o3_2 := nofun, o4_3 := nofun, o5_4 := nofun, o6_5 := nofun, o7_6 := nofun, o8_6 := nofun, o9_7 := nofun, o9_8 := nofun, o10_9 := nofun, o11_10 := nofun, o12_11 := nofun, o13_12 := nofun, o14_13 := nofun, o15_14 := nofun, o16_0 := nofun, o16_11 := nofun, o16_3 := nofun, o16_7 := nofun, o17_15 := nofun, f16 := nofun }
        case done =>
          rintro L a V ⟨b0, b1, b2, b3, b4, b5, b6, b7, b8, b9, b10, b11, b12, b13, b14, b15, b16, b17, x0, x1, x2, x3, x4, x5, x6, x7, x8, x9, x10, x11, x12, x13, x14, x15, x16, x17, rfl, FR, H⟩ hr
          have hall := ready_all (by kernel_rfl) hr
          obtain ⟨tm, df⟩ := a
          obtain rfl : df = [] := FR.hd
          obtain ⟨F, hF⟩ := arr_of FR.hs
          have hF2 : tm = #[F 0, F 1, F 2, F 3, F 4, F 5, F 6, F 7, F 8, F 9, F 10, F 11, F 12, F 13, F 14, F 15, F 16, F 17, F 18, F 19, F 20, F 21, F 22, F 23, F 24, F 25, F 26, F 27, F 28, F 29, F 30, F 31, F 32, F 33, F 34, F 35, F 36, F 37, F 38, F 39, F 40, F 41, F 42, F 43, F 44, F 45, F 46, F 47, F 48, F 49, F 50, F 51, F 52, F 53, F 54, F 55, F 56, F 57, F 58, F 59, F 60, F 61, F 62, F 63, F 64, F 65, F 66, F 67, F 68, F 69, F 70, F 71, F 72, F 73, F 74, F 75, F 76, F 77, F 78, F 79, F 80, F 81, F 82, F 83, F 84, F 85, F 86, F 87, F 88, F 89, F 90, F 91, F 92, F 93, F 94, F 95, F 96, F 97, F 98, F 99, F 100, F 101, F 102, F 103, F 104, F 105, F 106, F 107, F 108, F 109, F 110, F 111, F 112, F 113, F 114, F 115, F 116, F 117, F 118, F 119, F 120, F 121, F 122, F 123, F 124, F 125, F 126, F 127, F 128, F 129, F 130, F 131, F 132, F 133, F 134, F 135] := hF
          subst hF2
          have kk0 : F 0 = .string (str t) := Option.some.inj (FR.get 18 0 rfl rfl)
          have kk2 : F 2 = .pointer (some ⟨w.heap.size, 0, none⟩) := Option.some.inj (FR.get 19 2 rfl rfl)
          have kk5 : F 5 = .pointer (some ⟨T, 0, none⟩) := Option.some.inj (FR.get 20 5 rfl rfl)
          have kk10 : F 10 = .bool true := Option.some.inj (FR.get 21 10 rfl rfl)
          obtain rfl : b16 = true := hall 16 (by decide)
          obtain rfl : b17 = true := hall 17 (by decide)
          obtain rfl := H.g17 rfl
          have kr17 : F 3 = .bool okR := Option.some.inj (FR.get 17 3 rfl rfl)
          rw [kk0, kk2, kk5, kk10, kr17]
          obtain ⟨u, hu, hv⟩ := H.f16 rfl
          subst hv
          have hbR : u.heap[w.heap.size]? = some (.cells #[.int .i64 0, .int .i64 0, .slice none 0 0, .slice none 0 0] 28 (0, 0)) := (hu.block w.heap.size hRl).trans HSL.out.res
          obtain ⟨j0, j1, j2, j3⟩ := four_set hbR (.int .i64 kk) (.int .i64 ff) (.slice ia n ic) (.slice oa m oc)
          have HU : Hid (Below wr.heap.size wr u) := (Below.refl _ _).drew.trans hu
          clear H hr hall hu hbR FR hF
          go_wp2
          refine bodyPost_ret (v := .tuple #[.agg #[.int .i64 kk, .int .i64 ff, .slice ia n ic, .slice oa m oc], .bool okR]) (by simp [results, Tryz.results25, go_sem, j0, j1, j2, j3]) rfl ?_
          cases okR
          · exact ⟨four_belowR ((HSL.out.mem HU.out).bel) (Nat.le_refl _) _ _ _ _, .inr ⟨HTXN.out rfl, _, _, _, _, _, _, _, _, rfl⟩⟩
          · obtain ⟨hps, hm0⟩ := HTXR.out rfl
            have hS := HSL.out.mem HU.out
            have ho := hS.ord
            have hcR : Chg u (four w.heap.size u (.int .i64 kk) (.int .i64 ff) (.slice ia n ic) (.slice oa m oc)) w.heap.size (w.heap.size + 1) := ((((Chg.refl _ _ _).setCell ⟨Nat.le_refl _, by omega⟩ _).setCell ⟨Nat.le_refl _, by omega⟩ _).setCell ⟨Nat.le_refl _, by omega⟩ _).setCell ⟨Nat.le_refl _, by omega⟩ _
            obtain ⟨zs, hz1, _⟩ := hS.out.row
            obtain ⟨g1, hg1⟩ := row_some hz1 (by rw [← HOL.out]; exact hm0)
            have hg0 := HIA.out
            subst hg1 hg0
            have hgr := hS.ref.lt g0 rfl
            have hgne : g0 ≠ w.heap.size := fun e => by
              subst e
              rcases hS.ref.2 with ⟨q0, _⟩ | ⟨g', cap, cur, q0, _, hgb, _⟩
              · cases q0
              · cases q0
                rw [hS.res] at hgb
                cases hgb
            refine ⟨four_belowR hS.bel (Nat.le_refl _) _ _ _ _, .inl ⟨⟨kk, ff, rs, os⟩, g0, ic, g1, oc, w.heap.size + 1, mid, u.heap.size, kv, hps, ?_, ?_, by omega, hcR.size⟩⟩
            · simp only [HNR.out, HOL.out]
            · simp only [HNR.out, HOL.out]
              have hr2 := hcR.row hS.ref (fun b hb => .inr (by have e : g0 = b := by simpa [Value.ownBlock] using hb
                                                               omega))
              refine ⟨?_, hS.rlt g0 rfl, hS.out.chg hcR (.inr (by omega)), by omega, ho.2.2.2⟩
              refine ⟨hr2.1, ?_⟩
              rcases hr2.2 with hn | ⟨g', cap, cur, q0, h1, hgb, rest⟩
              · exact .inl hn
              · cases q0
                exact .inr ⟨_, _, cur, rfl, by omega, hgb, rest⟩
        case step =>
          rintro L a V i ⟨b0, b1, b2, b3, b4, b5, b6, b7, b8, b9, b10, b11, b12, b13, b14, b15, b16, b17, x0, x1, x2, x3, x4, x5, x6, x7, x8, x9, x10, x11, x12, x13, x14, x15, x16, x17, rfl, FR, H⟩ hi
          have hlt : i < 18 := ready_lt hi
          obtain rfl | rfl | rfl | rfl | rfl | rfl | rfl | rfl | rfl | rfl | rfl | rfl | rfl | rfl | rfl | rfl | rfl | rfl : i = 0 ∨ i = 1 ∨ i = 2 ∨ i = 3 ∨ i = 4 ∨ i = 5 ∨ i = 6 ∨ i = 7 ∨ i = 8 ∨ i = 9 ∨ i = 10 ∨ i = 11 ∨ i = 12 ∨ i = 13 ∨ i = 14 ∨ i = 15 ∨ i = 16 ∨ i = 17 := by omega
          · obtain rfl : b0 = false := ready_new hi
            obtain rfl : b16 = false := Bool.eq_false_iff.2 (fun h => by have := H.o16_0 h; cases this)
            have hbT : V.heap[T]? = some (.cells #[.int .i64 kk, .int .i64 ff, .slice ia n ic, .slice oa m oc] 28 (0, 0)) := ((H.bel rfl).block T hTl).trans HSL.out.box
            obtain ⟨q0, q1, q2, q3, _⟩ := cells4 hbT
            have k5 : a.tmps[5]? = some (.pointer (some ⟨T, 0, none⟩)) := FR.get 20 5 rfl rfl
            refine wpOp_run (o := _) rfl (fun K hK => ?_)
            go_simp
            refine hK _ _ ?_
            exact ⟨_, _, _, _, _, _, _, _, _, _, _, _, _, _, _, _, _, _, _, _, _, _, _, _, _, _, _, _, _, _, _, _, _, _, _, _, rfl, FR.put 0 120 (by decide), { H with g0 := fun _ => rfl, o16_0 := fun _ => rfl }⟩
          · obtain rfl : b1 = false := ready_new hi
            have k10 : a.tmps[10]? = some (.bool true) := FR.get 21 10 rfl rfl
            refine wpOp_run (o := _) rfl (fun K hK => ?_)
            go_simp
            refine hK _ _ ?_
            exact ⟨_, _, _, _, _, _, _, _, _, _, _, _, _, _, _, _, _, _, _, _, _, _, _, _, _, _, _, _, _, _, _, _, _, _, _, _, rfl, FR.put 1 121 (by decide), { H with g1 := fun _ => rfl, o2_1 := fun _ => rfl }⟩
          · obtain rfl : b2 = false := ready_new hi
            obtain rfl : b1 = true := ready_dep (d := 1) hi (by kernel_rfl)
            obtain rfl := H.g1 rfl
            have l1 : a.tmps[121]? = some (.bool true) := FR.get 1 121 rfl rfl
            refine wpOp_run (o := _) rfl (fun K hK => ?_)
            go_simp
            refine hK _ _ ?_
            exact ⟨_, _, _, _, _, _, _, _, _, _, _, _, _, _, _, _, _, _, _, _, _, _, _, _, _, _, _, _, _, _, _, _, _, _, _, _, rfl, FR.put 2 122 (by decide), { H with g2 := fun _ => rfl, o3_2 := fun _ => rfl, o2_1 := fun _ => rfl }⟩
          · obtain rfl : b3 = false := ready_new hi
            obtain rfl : b2 = true := ready_dep (d := 2) hi (by kernel_rfl)
            obtain rfl : b1 = true := H.o2_1 rfl
            obtain rfl := H.g2 rfl
            obtain rfl : b16 = false := Bool.eq_false_iff.2 (fun h => by have := H.o16_3 h; cases this)
            have hW := HF31.out V (H.bel rfl)
            have l2 : a.tmps[122]? = some (.bool true) := FR.get 2 122 rfl rfl
            have k5 : a.tmps[5]? = some (.pointer (some ⟨T, 0, none⟩)) := FR.get 20 5 rfl rfl
            refine wpOp_run (o := _) rfl (fun K hK => ?_)
            go_simp
            go_at_call 27
            refine hW.mono ?_
            rintro e v5 ⟨rfl, hb5⟩
            show K _ _
            refine hK _ _ ?_
            exact ⟨_, _, _, _, _, _, _, _, _, _, _, _, _, _, _, _, _, _, _, _, _, _, _, _, _, _, _, _, _, _, _, _, _, _, _, _, rfl, FR.put 3 123 (by decide), { H with bel := fun _ => (H.bel rfl).trans (hb5.mono (H.bel rfl).size), f16 := nofun, g3 := fun _ => rfl, o4_3 := fun _ => rfl, o16_3 := fun _ => rfl, o3_2 := fun _ => rfl }⟩
          · obtain rfl : b4 = false := ready_new hi
            obtain rfl : b3 = true := ready_dep (d := 3) hi (by kernel_rfl)
            obtain rfl : b2 = true := H.o3_2 rfl
            obtain rfl : b1 = true := H.o2_1 rfl
            obtain rfl := H.g2 rfl
            obtain rfl := H.g3 rfl
            have l2 : a.tmps[122]? = some (.bool true) := FR.get 2 122 rfl rfl
            have l3 : a.tmps[123]? = some (.int .i64 cf) := FR.get 3 123 rfl rfl
            refine wpOp_run (o := _) rfl (fun K hK => ?_)
            go_simp
            refine hK _ _ ?_
            exact ⟨_, _, _, _, _, _, _, _, _, _, _, _, _, _, _, _, _, _, _, _, _, _, _, _, _, _, _, _, _, _, _, _, _, _, _, _, rfl, FR.put 4 124 (by decide), { H with g4 := fun _ => rfl, o5_4 := fun _ => rfl, o4_3 := fun _ => rfl }⟩
          · obtain rfl : b5 = false := ready_new hi
            obtain rfl : b4 = true := ready_dep (d := 4) hi (by kernel_rfl)
            obtain rfl : b3 = true := H.o4_3 rfl
            obtain rfl : b2 = true := H.o3_2 rfl
            obtain rfl : b1 = true := H.o2_1 rfl
            obtain rfl := H.g2 rfl
            obtain rfl := H.g4 rfl
            have l2 : a.tmps[122]? = some (.bool true) := FR.get 2 122 rfl rfl
            have l4 : a.tmps[124]? = some (.bool okF) := FR.get 4 124 rfl rfl
            refine wpOp_run (o := _) rfl (fun K hK => ?_)
            go_simp
            refine hK _ _ ?_
            exact ⟨_, _, _, _, _, _, _, _, _, _, _, _, _, _, _, _, _, _, _, _, _, _, _, _, _, _, _, _, _, _, _, _, _, _, _, _, rfl, FR.put 5 125 (by decide), { H with g5 := fun _ => rfl, o6_5 := fun _ => rfl, o5_4 := fun _ => rfl }⟩
          · obtain rfl : b6 = false := ready_new hi
            obtain rfl : b5 = true := ready_dep (d := 5) hi (by kernel_rfl)
            obtain rfl : b4 = true := H.o5_4 rfl
            obtain rfl : b3 = true := H.o4_3 rfl
            obtain rfl : b2 = true := H.o3_2 rfl
            obtain rfl : b1 = true := H.o2_1 rfl
            obtain rfl := H.g5 rfl
            have l5 : a.tmps[125]? = some (.bool okF) := FR.get 5 125 rfl rfl
            refine wpOp_run (o := _) rfl (fun K hK => ?_)
            go_simp
            refine hK _ _ ?_
            exact ⟨_, _, _, _, _, _, _, _, _, _, _, _, _, _, _, _, _, _, _, _, _, _, _, _, _, _, _, _, _, _, _, _, _, _, _, _, rfl, FR.put 6 126 (by decide), { H with g6 := fun _ => rfl, o7_6 := fun _ => rfl, o8_6 := fun _ => rfl, o6_5 := fun _ => rfl }⟩
          · obtain rfl : b7 = false := ready_new hi
            obtain rfl : b6 = true := ready_dep (d := 6) hi (by kernel_rfl)
            obtain rfl : b5 = true := H.o6_5 rfl
            obtain rfl : b4 = true := H.o5_4 rfl
            obtain rfl : b3 = true := H.o4_3 rfl
            obtain rfl : b2 = true := H.o3_2 rfl
            obtain rfl : b1 = true := H.o2_1 rfl
            obtain rfl := H.g6 rfl
            obtain rfl : b16 = false := Bool.eq_false_iff.2 (fun h => by have := H.o16_7 h; cases this)
            have l6 : a.tmps[126]? = some (.bool okF) := FR.get 6 126 rfl rfl
            have k5 : a.tmps[5]? = some (.pointer (some ⟨T, 0, none⟩)) := FR.get 20 5 rfl rfl
            cases okF
            · refine wpOp_run (o := _) rfl (fun K hK => ?_)
              go_simp
              refine hK _ _ ?_
              exact ⟨_, _, _, _, _, _, _, _, _, _, _, _, _, _, _, _, _, _, _, _, _, _, _, _, _, _, _, _, _, _, _, _, _, _, _, _, rfl, FR.put 7 127 (by decide), { H with g7 := fun _ => rfl, o9_7 := fun _ => rfl, o16_7 := fun _ => rfl, o7_6 := fun _ => rfl }⟩
            · have hW := HT31.out rfl V (H.bel rfl)
              refine wpOp_run (o := _) rfl (fun K hK => ?_)
              go_simp
              go_at_call 18
              refine hW.mono ?_
              rintro e v5 ⟨rfl, hb5⟩
              show K _ _
              refine hK _ _ ?_
              exact ⟨_, _, _, _, _, _, _, _, _, _, _, _, _, _, _, _, _, _, _, _, _, _, _, _, _, _, _, _, _, _, _, _, _, _, _, _, rfl, FR.put 7 127 (by decide), { H with bel := fun _ => (H.bel rfl).trans (hb5.mono (H.bel rfl).size), f16 := nofun, g7 := fun _ => rfl, o9_7 := fun _ => rfl, o16_7 := fun _ => rfl, o7_6 := fun _ => rfl }⟩
          · obtain rfl : b8 = false := ready_new hi
            obtain rfl : b6 = true := ready_dep (d := 6) hi (by kernel_rfl)
            obtain rfl : b5 = true := H.o6_5 rfl
            obtain rfl : b4 = true := H.o5_4 rfl
            obtain rfl : b3 = true := H.o4_3 rfl
            obtain rfl : b2 = true := H.o3_2 rfl
            obtain rfl : b1 = true := H.o2_1 rfl
            obtain rfl := H.g6 rfl
            have l6 : a.tmps[126]? = some (.bool okF) := FR.get 6 126 rfl rfl
            have k0 : a.tmps[0]? = some (.string (str t)) := FR.get 18 0 rfl rfl
            cases okF
            · refine wpOp_run (o := _) rfl (fun K hK => ?_)
              go_simp
              refine hK _ _ ?_
              exact ⟨_, _, _, _, _, _, _, _, _, _, _, _, _, _, _, _, _, _, _, _, _, _, _, _, _, _, _, _, _, _, _, _, _, _, _, _, rfl, FR.put 8 128 (by decide), { H with g8 := fun _ => rfl, o9_8 := fun _ => rfl, o8_6 := fun _ => rfl }⟩
            · refine wpOp_run (o := _) rfl (fun K hK => ?_)
              go_simp
              refine hK _ _ ?_
              exact ⟨_, _, _, _, _, _, _, _, _, _, _, _, _, _, _, _, _, _, _, _, _, _, _, _, _, _, _, _, _, _, _, _, _, _, _, _, rfl, FR.put 8 128 (by decide), { H with g8 := fun _ => rfl, o9_8 := fun _ => rfl, o8_6 := fun _ => rfl }⟩
          · obtain rfl : b9 = false := ready_new hi
            obtain rfl : b7 = true := ready_dep (d := 7) hi (by kernel_rfl)
            obtain rfl : b8 = true := ready_dep (d := 8) hi (by kernel_rfl)
            obtain rfl : b6 = true := H.o7_6 rfl
            obtain rfl : b5 = true := H.o6_5 rfl
            obtain rfl : b4 = true := H.o5_4 rfl
            obtain rfl : b3 = true := H.o4_3 rfl
            obtain rfl : b2 = true := H.o3_2 rfl
            obtain rfl : b1 = true := H.o2_1 rfl
            obtain rfl := H.g6 rfl
            obtain rfl := H.g7 rfl
            obtain rfl := H.g8 rfl
            have l6 : a.tmps[126]? = some (.bool okF) := FR.get 6 126 rfl rfl
            have l7 : a.tmps[127]? = some ((if okF = true then .string (str tx) else undef)) := FR.get 7 127 rfl rfl
            have l8 : a.tmps[128]? = some ((if okF = true then .string (str t) else undef)) := FR.get 8 128 rfl rfl
            cases okF
            · refine wpOp_run (o := _) rfl (fun K hK => ?_)
              go_simp
              refine hK _ _ ?_
              exact ⟨_, _, _, _, _, _, _, _, _, _, _, _, _, _, _, _, _, _, _, _, _, _, _, _, _, _, _, _, _, _, _, _, _, _, _, _, rfl, FR.put 9 129 (by decide), { H with g9 := fun _ => rfl, o10_9 := fun _ => rfl, o9_7 := fun _ => rfl, o9_8 := fun _ => rfl }⟩
            · have l7 : a.tmps[127]? = some (.string (str tx)) := l7
              have l8 : a.tmps[128]? = some (.string (str t)) := l8
              refine wpOp_run (o := _) rfl (fun K hK => ?_)
              go_simp
              refine hK _ _ ?_
              exact ⟨_, _, _, _, _, _, _, _, _, _, _, _, _, _, _, _, _, _, _, _, _, _, _, _, _, _, _, _, _, _, _, _, _, _, _, _, rfl, FR.put 9 129 (by decide), { H with g9 := fun _ => rfl, o10_9 := fun _ => rfl, o9_7 := fun _ => rfl, o9_8 := fun _ => rfl }⟩
          · obtain rfl : b10 = false := ready_new hi
            obtain rfl : b9 = true := ready_dep (d := 9) hi (by kernel_rfl)
            obtain rfl : b7 = true := H.o9_7 rfl
            obtain rfl : b8 = true := H.o9_8 rfl
            obtain rfl : b6 = true := H.o7_6 rfl
            obtain rfl : b5 = true := H.o6_5 rfl
            obtain rfl : b4 = true := H.o5_4 rfl
            obtain rfl : b3 = true := H.o4_3 rfl
            obtain rfl : b2 = true := H.o3_2 rfl
            obtain rfl : b1 = true := H.o2_1 rfl
            obtain rfl := H.g6 rfl
            obtain rfl := H.g9 rfl
            have l6 : a.tmps[126]? = some (.bool okF) := FR.get 6 126 rfl rfl
            have l9 : a.tmps[129]? = some ((if okF = true then .bool okT else undef)) := FR.get 9 129 rfl rfl
            cases okF
            · obtain rfl : okB = false := HOB.out
              refine wpOp_run (o := _) rfl (fun K hK => ?_)
              go_simp
              refine hK _ _ ?_
              exact ⟨_, _, _, _, _, _, _, _, _, _, _, _, _, _, _, _, _, _, _, _, _, _, _, _, _, _, _, _, _, _, _, _, _, _, _, _, rfl, FR.put 10 130 (by decide), { H with g10 := fun _ => rfl, o11_10 := fun _ => rfl, o10_9 := fun _ => rfl }⟩
            · obtain rfl : okB = okT := HOB.out
              have l9 : a.tmps[129]? = some (.bool okB) := l9
              refine wpOp_run (o := _) rfl (fun K hK => ?_)
              go_simp
              refine hK _ _ ?_
              exact ⟨_, _, _, _, _, _, _, _, _, _, _, _, _, _, _, _, _, _, _, _, _, _, _, _, _, _, _, _, _, _, _, _, _, _, _, _, rfl, FR.put 10 130 (by decide), { H with g10 := fun _ => rfl, o11_10 := fun _ => rfl, o10_9 := fun _ => rfl }⟩
          · obtain rfl : b11 = false := ready_new hi
            obtain rfl : b10 = true := ready_dep (d := 10) hi (by kernel_rfl)
            obtain rfl : b9 = true := H.o10_9 rfl
            obtain rfl : b7 = true := H.o9_7 rfl
            obtain rfl : b8 = true := H.o9_8 rfl
            obtain rfl : b6 = true := H.o7_6 rfl
            obtain rfl : b5 = true := H.o6_5 rfl
            obtain rfl : b4 = true := H.o5_4 rfl
            obtain rfl : b3 = true := H.o4_3 rfl
            obtain rfl : b2 = true := H.o3_2 rfl
            obtain rfl : b1 = true := H.o2_1 rfl
            obtain rfl := H.g10 rfl
            have l10 : a.tmps[130]? = some (.bool okB) := FR.get 10 130 rfl rfl
            refine wpOp_run (o := _) rfl (fun K hK => ?_)
            go_simp
            refine hK _ _ ?_
            exact ⟨_, _, _, _, _, _, _, _, _, _, _, _, _, _, _, _, _, _, _, _, _, _, _, _, _, _, _, _, _, _, _, _, _, _, _, _, rfl, FR.put 11 131 (by decide), { H with g11 := fun _ => rfl, o12_11 := fun _ => rfl, o16_11 := fun _ => rfl, o11_10 := fun _ => rfl }⟩
          · obtain rfl : b12 = false := ready_new hi
            obtain rfl : b11 = true := ready_dep (d := 11) hi (by kernel_rfl)
            obtain rfl : b10 = true := H.o11_10 rfl
            obtain rfl : b9 = true := H.o10_9 rfl
            obtain rfl : b7 = true := H.o9_7 rfl
            obtain rfl : b8 = true := H.o9_8 rfl
            obtain rfl : b6 = true := H.o7_6 rfl
            obtain rfl : b5 = true := H.o6_5 rfl
            obtain rfl : b4 = true := H.o5_4 rfl
            obtain rfl : b3 = true := H.o4_3 rfl
            obtain rfl : b2 = true := H.o3_2 rfl
            obtain rfl : b1 = true := H.o2_1 rfl
            obtain rfl := H.g11 rfl
            have l11 : a.tmps[131]? = some (.bool okB) := FR.get 11 131 rfl rfl
            have k0 : a.tmps[0]? = some (.string (str t)) := FR.get 18 0 rfl rfl
            cases okB
            · refine wpOp_run (o := _) rfl (fun K hK => ?_)
              go_simp
              refine hK _ _ ?_
              exact ⟨_, _, _, _, _, _, _, _, _, _, _, _, _, _, _, _, _, _, _, _, _, _, _, _, _, _, _, _, _, _, _, _, _, _, _, _, rfl, FR.put 12 132 (by decide), { H with g12 := fun _ => rfl, o13_12 := fun _ => rfl, o12_11 := fun _ => rfl }⟩
            · refine wpOp_run (o := _) rfl (fun K hK => ?_)
              go_simp
              refine hK _ _ ?_
              exact ⟨_, _, _, _, _, _, _, _, _, _, _, _, _, _, _, _, _, _, _, _, _, _, _, _, _, _, _, _, _, _, _, _, _, _, _, _, rfl, FR.put 12 132 (by decide), { H with g12 := fun _ => rfl, o13_12 := fun _ => rfl, o12_11 := fun _ => rfl }⟩
          · obtain rfl : b13 = false := ready_new hi
            obtain rfl : b12 = true := ready_dep (d := 12) hi (by kernel_rfl)
            obtain rfl : b11 = true := H.o12_11 rfl
            obtain rfl : b10 = true := H.o11_10 rfl
            obtain rfl : b9 = true := H.o10_9 rfl
            obtain rfl : b7 = true := H.o9_7 rfl
            obtain rfl : b8 = true := H.o9_8 rfl
            obtain rfl : b6 = true := H.o7_6 rfl
            obtain rfl : b5 = true := H.o6_5 rfl
            obtain rfl : b4 = true := H.o5_4 rfl
            obtain rfl : b3 = true := H.o4_3 rfl
            obtain rfl : b2 = true := H.o3_2 rfl
            obtain rfl : b1 = true := H.o2_1 rfl
            obtain rfl := H.g11 rfl
            obtain rfl := H.g12 rfl
            have l11 : a.tmps[131]? = some (.bool okB) := FR.get 11 131 rfl rfl
            have l12 : a.tmps[132]? = some ((if okB = true then .string (str t) else undef)) := FR.get 12 132 rfl rfl
            cases okB
            · refine wpOp_run (o := _) rfl (fun K hK => ?_)
              go_simp
              refine hK _ _ ?_
              exact ⟨_, _, _, _, _, _, _, _, _, _, _, _, _, _, _, _, _, _, _, _, _, _, _, _, _, _, _, _, _, _, _, _, _, _, _, _, rfl, FR.put 13 133 (by decide), { H with g13 := fun _ => rfl, o14_13 := fun _ => rfl, o13_12 := fun _ => rfl }⟩
            · have l12 : a.tmps[132]? = some (.string (str t)) := l12
              refine wpOp_run (o := _) rfl (fun K hK => ?_)
              go_simp
              refine hK _ _ ?_
              exact ⟨_, _, _, _, _, _, _, _, _, _, _, _, _, _, _, _, _, _, _, _, _, _, _, _, _, _, _, _, _, _, _, _, _, _, _, _, rfl, FR.put 13 133 (by decide), { H with g13 := fun _ => rfl, o14_13 := fun _ => rfl, o13_12 := fun _ => rfl }⟩
          · obtain rfl : b14 = false := ready_new hi
            obtain rfl : b13 = true := ready_dep (d := 13) hi (by kernel_rfl)
            obtain rfl : b12 = true := H.o13_12 rfl
            obtain rfl : b11 = true := H.o12_11 rfl
            obtain rfl : b10 = true := H.o11_10 rfl
            obtain rfl : b9 = true := H.o10_9 rfl
            obtain rfl : b7 = true := H.o9_7 rfl
            obtain rfl : b8 = true := H.o9_8 rfl
            obtain rfl : b6 = true := H.o7_6 rfl
            obtain rfl : b5 = true := H.o6_5 rfl
            obtain rfl : b4 = true := H.o5_4 rfl
            obtain rfl : b3 = true := H.o4_3 rfl
            obtain rfl : b2 = true := H.o3_2 rfl
            obtain rfl : b1 = true := H.o2_1 rfl
            obtain rfl := H.g11 rfl
            obtain rfl := H.g13 rfl
            have l11 : a.tmps[131]? = some (.bool okB) := FR.get 11 131 rfl rfl
            have l13 : a.tmps[133]? = some ((if okB = true then .int .i64 (t.length : Nat) else undef)) := FR.get 13 133 rfl rfl
            cases okB
            · refine wpOp_run (o := _) rfl (fun K hK => ?_)
              go_simp
              refine hK _ _ ?_
              exact ⟨_, _, _, _, _, _, _, _, _, _, _, _, _, _, _, _, _, _, _, _, _, _, _, _, _, _, _, _, _, _, _, _, _, _, _, _, rfl, FR.put 14 134 (by decide), { H with g14 := fun _ => rfl, o15_14 := fun _ => rfl, o14_13 := fun _ => rfl }⟩
            · have l13 : a.tmps[133]? = some (.int .i64 (t.length : Nat)) := l13
              refine wpOp_run (o := _) rfl (fun K hK => ?_)
              go_simp
              refine hK _ _ ?_
              exact ⟨_, _, _, _, _, _, _, _, _, _, _, _, _, _, _, _, _, _, _, _, _, _, _, _, _, _, _, _, _, _, _, _, _, _, _, _, rfl, FR.put 14 134 (by decide), { H with g14 := fun _ => rfl, o15_14 := fun _ => rfl, o14_13 := fun _ => rfl }⟩
          · obtain rfl : b15 = false := ready_new hi
            obtain rfl : b14 = true := ready_dep (d := 14) hi (by kernel_rfl)
            obtain rfl : b13 = true := H.o14_13 rfl
            obtain rfl : b12 = true := H.o13_12 rfl
            obtain rfl : b11 = true := H.o12_11 rfl
            obtain rfl : b10 = true := H.o11_10 rfl
            obtain rfl : b9 = true := H.o10_9 rfl
            obtain rfl : b7 = true := H.o9_7 rfl
            obtain rfl : b8 = true := H.o9_8 rfl
            obtain rfl : b6 = true := H.o7_6 rfl
            obtain rfl : b5 = true := H.o6_5 rfl
            obtain rfl : b4 = true := H.o5_4 rfl
            obtain rfl : b3 = true := H.o4_3 rfl
            obtain rfl : b2 = true := H.o3_2 rfl
            obtain rfl : b1 = true := H.o2_1 rfl
            obtain rfl := H.g11 rfl
            obtain rfl := H.g14 rfl
            have l11 : a.tmps[131]? = some (.bool okB) := FR.get 11 131 rfl rfl
            have l14 : a.tmps[134]? = some ((if okB = true then .bool okL else undef)) := FR.get 14 134 rfl rfl
            cases okB
            · obtain rfl : okR = false := HOR.out
              refine wpOp_run (o := _) rfl (fun K hK => ?_)
              go_simp
              refine hK _ _ ?_
              exact ⟨_, _, _, _, _, _, _, _, _, _, _, _, _, _, _, _, _, _, _, _, _, _, _, _, _, _, _, _, _, _, _, _, _, _, _, _, rfl, FR.put 15 135 (by decide), { H with g15 := fun _ => rfl, o17_15 := fun _ => rfl, o15_14 := fun _ => rfl }⟩
            · obtain rfl : okR = okL := HOR.out
              have l14 : a.tmps[134]? = some (.bool okR) := l14
              refine wpOp_run (o := _) rfl (fun K hK => ?_)
              go_simp
              refine hK _ _ ?_
              exact ⟨_, _, _, _, _, _, _, _, _, _, _, _, _, _, _, _, _, _, _, _, _, _, _, _, _, _, _, _, _, _, _, _, _, _, _, _, rfl, FR.put 15 135 (by decide), { H with g15 := fun _ => rfl, o17_15 := fun _ => rfl, o15_14 := fun _ => rfl }⟩
          · obtain rfl : b16 = false := ready_new hi
            obtain rfl : b0 = true := ready_dep (d := 0) hi (by kernel_rfl)
            obtain rfl : b11 = true := ready_dep (d := 11) hi (by kernel_rfl)
            obtain rfl : b10 = true := H.o11_10 rfl
            obtain rfl : b9 = true := H.o10_9 rfl
            obtain rfl : b7 = true := H.o9_7 rfl
            obtain rfl : b8 = true := H.o9_8 rfl
            obtain rfl : b6 = true := H.o7_6 rfl
            obtain rfl : b5 = true := H.o6_5 rfl
            obtain rfl : b4 = true := H.o5_4 rfl
            obtain rfl : b3 = true := H.o4_3 rfl
            obtain rfl : b2 = true := H.o3_2 rfl
            obtain rfl : b1 = true := H.o2_1 rfl
            obtain rfl := H.g0 rfl
            have hbR : V.heap[w.heap.size]? = some (.cells #[.int .i64 0, .int .i64 0, .slice none 0 0, .slice none 0 0] 28 (0, 0)) := ((H.bel rfl).block w.heap.size hRl).trans HSL.out.res
            obtain ⟨q0, q1, q2, q3, q4, q5, q6, q7⟩ := cells4 hbR
            have l0 : a.tmps[120]? = some (.agg #[.int .i64 kk, .int .i64 ff, .slice ia n ic, .slice oa m oc]) := FR.get 0 120 rfl rfl
            have k2 : a.tmps[2]? = some (.pointer (some ⟨w.heap.size, 0, none⟩)) := FR.get 19 2 rfl rfl
            refine wpOp_run (o := _) rfl (fun K hK => ?_)
            go_simp
            refine hK _ _ ?_
            exact ⟨_, _, _, _, _, _, _, _, _, _, _, _, _, _, _, _, _, _, _, _, _, _, _, _, _, _, _, _, _, _, _, _, _, _, _, _, rfl, FR.skip 16 rfl, { H with bel := nofun, f16 := fun _ => ⟨V, H.bel rfl, rfl⟩, o16_0 := fun _ => rfl, o16_11 := fun _ => rfl, o16_3 := fun _ => rfl, o16_7 := fun _ => rfl }⟩
          · obtain rfl : b17 = false := ready_new hi
            obtain rfl : b15 = true := ready_dep (d := 15) hi (by kernel_rfl)
            obtain rfl : b14 = true := H.o15_14 rfl
            obtain rfl : b13 = true := H.o14_13 rfl
            obtain rfl : b12 = true := H.o13_12 rfl
            obtain rfl : b11 = true := H.o12_11 rfl
            obtain rfl : b10 = true := H.o11_10 rfl
            obtain rfl : b9 = true := H.o10_9 rfl
            obtain rfl : b7 = true := H.o9_7 rfl
            obtain rfl : b8 = true := H.o9_8 rfl
            obtain rfl : b6 = true := H.o7_6 rfl
            obtain rfl : b5 = true := H.o6_5 rfl
            obtain rfl : b4 = true := H.o5_4 rfl
            obtain rfl : b3 = true := H.o4_3 rfl
            obtain rfl : b2 = true := H.o3_2 rfl
            obtain rfl : b1 = true := H.o2_1 rfl
            obtain rfl := H.g15 rfl
            have l15 : a.tmps[135]? = some (.bool okR) := FR.get 15 135 rfl rfl
            refine wpOp_run (o := _) rfl (fun K hK => ?_)
            go_simp
            refine hK _ _ ?_
            exact ⟨_, _, _, _, _, _, _, _, _, _, _, _, _, _, _, _, _, _, _, _, _, _, _, _, _, _, _, _, _, _, _, _, _, _, _, _, rfl, FR.put 17 3 (by decide), { H with g17 := fun _ => rfl, o17_15 := fun _ => rfl }⟩

end Go.Proofs.YtciefdphjkjikaaGreatDoor
