/- The specification's l6Take keeps its contract. -/
import Derived.Test.YtgfhnmjpkanikaaEj
namespace Go.Proofs.Ytgfhnmjpkanikaa
open Go.RowKit Go.Maps Go.WideMaps

/-- Who stays: not who leaves, and nobody whose coin is spent. -/
def keepM (kd f : Int) (rs : List (Int × Int)) (m : Mb) : Bool := !(decide (kd = 2) && decide (m.1 = f)) && !memB rs m.2
/-- What taking a transaction comes to. -/
def takeMR (ms : List Mb) (kd f : Int) (rs : List (Int × Int)) (id : Int) : Int × List Mb :=
  if kd = 2 ∧ (ms.any fun m => decide (m.1 = f)) = false then (4, []) else if kd = 1 then joinMR (ms.filter (keepM kd f rs)) (f, id, 0) else (0, ms.filter (keepM kd f rs))
theorem keep_yes {kd f : Int} {rs : List (Int × Int)} {m : Mb} (h : (decide (kd = 2) && decide (m.1 = f)) = false) : memB rs m.2 = false → keepM kd f rs m = true := fun hm => by unfold keepM; rw [h, hm]; rfl
theorem filt_yes {ms : List Mb} {n j : Nat} {o : Mb} {p : Mb → Bool} (hn : ms.length = n) (hlt : j < n) (ho : o = ms.getD j Z3) (hp : p o = true) : (ms.take (j + 1)).filter p = (ms.take j).filter p ++ [o] := by
  have e : ms[j]? = some o := by rw [ho]; simp [List.getD, show j < ms.length by omega]
  rw [List.take_add_one, e, List.filter_append]
  simp [hp]
theorem filt_no {ms : List Mb} {n j : Nat} {o : Mb} {p : Mb → Bool} (hn : ms.length = n) (hlt : j < n) (ho : o = ms.getD j Z3) (hp : p o = false) : (ms.take (j + 1)).filter p = (ms.take j).filter p := by
  have e : ms[j]? = some o := by rw [ho]; simp [List.getD, show j < ms.length by omega]
  rw [List.take_add_one, e, List.filter_append]
  simp [hp]
theorem rises_iff (ms : List Mb) : Rises ms ↔ ms.Pairwise (fun a b => a.1 < b.1) := by
  rw [List.pairwise_iff_getElem]
  constructor
  · intro h i j hi hj hij
    have := h i j hij hj
    simpa [List.getD, List.getElem?_eq_getElem hi, List.getElem?_eq_getElem hj] using this
  · intro h i j hij hj
    have := h i j (by omega) hj hij
    simpa [List.getD, List.getElem?_eq_getElem (show i < ms.length by omega), List.getElem?_eq_getElem hj] using this
theorem rises_filter {ms : List Mb} {p : Mb → Bool} (h : Rises ms) : Rises (ms.filter p) := (rises_iff _).2 (((rises_iff _).1 h).filter p)
theorem own_len {w : World} {base n g c : Nat} {ms : List Mb} {t : TypeId} (h : w.ownsRow base t 3 (.slice (some ⟨g, 0, none⟩) n c) n (mcells ms)) : ms.length = n := by
  have := h.1
  rw [mcells_length] at this
  omega
theorem row_cap {w : World} {base n g c z : Nat} {xs : List Value} {t : TypeId} (h : w.ownsRow base t z (.slice (some ⟨g, 0, none⟩) n c) n xs) : n ≤ c ∧ c ≤ maxLen := by
  rcases h.2 with ⟨e, _⟩ | ⟨g', c', cur, e, _, _, q1, q2, _⟩
  · cases e
  · cases e; exact ⟨q1, q2⟩

set_option maxRecDepth 20000 in
set_option maxHeartbeats 8000000 in
theorem l6Take_any (n c n2 ic P : Nat) (a ia : Option Addr) (ms : List Mb) (rs : List (Int × Int)) (kd f id : Int) (w : World) (hn : n ≤ 8) (hn2 : n2 ≤ 1048576) (hC : MAt w a n ms) (hG : GAt w ia n2 rs) (hri : Rises ms) (hP : P < w.heap.size) (p0 : w.cell? ⟨P, 0, none⟩ = some (.int .i64 kd)) (p1 : w.cell? ⟨P, 1, none⟩ = some (.int .i64 f)) (p2 : w.cell? ⟨P, 2, none⟩ = some (.slice ia n2 ic)) :
    Calls Try.prog 27 #[.slice a n c, .pointer (some ⟨P, 0, none⟩), .int .i64 id] w fun e w' => JoinO w w' e (takeMR ms kd f rs id).1 (takeMR ms kd f rs id).2 := by
  have HC : Hid (MAt w a n ms) := hC
  have HG : Hid (GAt w ia n2 rs) := hG
  have HN : Hid (ms.length = n) := hC.1
  have HRI : Hid (Rises ms) := hri
  have hAt := l6At_any n c a ms f w (by omega) hC
  obtain ⟨rc, hrc⟩ : ∃ x, x = (takeMR ms kd f rs id).1 := ⟨_, rfl⟩
  obtain ⟨rr, hrr⟩ : ∃ x, x = (takeMR ms kd f rs id).2 := ⟨_, rfl⟩
  rw [← hrc, ← hrr]
  have HJC : Hid (rc = (takeMR ms kd f rs id).1) := hrc
  have HJR : Hid (rr = (takeMR ms kd f rs id).2) := hrr
  clear hC hG hri hrc hrr
  by_cases h2 : kd = 2
  · subst h2
    have HP0 : Hid (w.cell? ⟨P, 0, none⟩ = some (.int .i64 2)) := p0
    have HP1 : Hid (w.cell? ⟨P, 1, none⟩ = some (.int .i64 f)) := p1
    have HP2 : Hid (w.cell? ⟨P, 2, none⟩ = some (.slice ia n2 ic)) := p2
    go_enter Try.func27, Try.ntmps27
    go_wp2_with (fail)
    refine hAt.mono ?_
    clear hAt
    rintro e w2 ⟨i, rfl, HI, hw2⟩
    have hw3 := hw2.symm
    subst hw3
    clear hw2
    rcases HI.out with ⟨rfl, hmi⟩ | ⟨kk, hkk, rfl, _, hhit⟩
    · have hc : takeMR ms 2 f rs id = (4, []) := by
        unfold takeMR
        rw [if_pos ⟨rfl, none_key HN.out hmi⟩]
      have HRC : Hid (rc = 4) := by show _ = _; rw [HJC.out, hc]
      have HRR : Hid (rr = []) := by show _ = _; rw [HJR.out, hc]
      clear hc HI hmi
      go_wp2
      exact bodyPost_ret (v := .tuple #[.slice none 0 0, .int .i64 4]) (by simp [results, Try.results27, go_sem]) rfl (join_code HRC.out HRR.out (Below.refl _ _))
    · have hc : takeMR ms 2 f rs id = (0, ms.filter (keepM 2 f rs)) := by
        unfold takeMR
        rw [if_neg (by rw [any_key HN.out hkk hhit]; simp), if_neg (by decide)]
      have HRC : Hid (rc = 0) := by show _ = _; rw [HJC.out, hc]
      have HRR : Hid (rr = ms.filter (keepM 2 f rs)) := by show _ = _; rw [HJR.out, hc]
      have hk0 : ¬ (kk : Int) < 0 := by omega
      clear hc HI hhit p0 p1 p2
      go_wp2
      go_loopw [8, 9] (fun v i wr => ∃ j : Nat, j ≤ n ∧ i = .int .i64 j ∧ Below w.heap.size w wr ∧ ∃ gv m uc, v = .slice (some ⟨gv, 0, none⟩) m uc ∧ m ≤ j ∧ Hid (wr.ownsRow w.heap.size 38 3 (.slice (some ⟨gv, 0, none⟩) m uc) m (mcells ((ms.take j).filter (keepM 2 f rs))))) (fun _ i _ => n - (intOf i).toNat)
      case atStart => exact ⟨0, Nat.zero_le _, rfl, below_box _, _, 0, 0, rfl, Nat.le_refl _, own_empty (heap_alloc_new _ _) (Nat.le_refl _)⟩
      case round =>
        obtain ⟨j, hj, rfl, hbel, gv, m, uc, rfl, hmj, HO⟩ := hrel
        have hPw : P < wr.heap.size := Nat.lt_of_lt_of_le hP hbel.size
        have q0 := (hbel.cell (p := ⟨P, 0, none⟩) hP).trans HP0.out
        have q1 := (hbel.cell (p := ⟨P, 1, none⟩) hP).trans HP1.out
        have q2 := (hbel.cell (p := ⟨P, 2, none⟩) hP).trans HP2.out
        by_cases hlt : j < n
        · rcases HC.out.2 with h0 | ⟨b, off, e0, l0, d0⟩
          · omega
          subst e0
          obtain ⟨o, ho⟩ : ∃ o, o = ms.getD j Z3 := ⟨_, rfl⟩
          have p0 := d0 j hlt
          rw [← ho] at p0
          have HS : Hid (o = ms.getD j Z3) := ho
          obtain ⟨nk, np, nq'⟩ := o
          have x0 := (hbel.cell (p := ⟨b, off + j * 3, none⟩) l0).trans p0.1
          have x1 := (hbel.cell (p := ⟨b, off + j * 3 + 1, none⟩) l0).trans p0.2.1
          have x2 := (hbel.cell (p := ⟨b, off + j * 3 + 2, none⟩) l0).trans p0.2.2
          simp only at x0 x1 x2
          have hbw : b < wr.heap.size := Nat.lt_of_lt_of_le l0 hbel.size
          have hki : (j : Int) < (n : Int) := by omega
          obtain ⟨mb, hmb⟩ : ∃ b, b = memB rs (np, nq') := ⟨_, rfl⟩
          have HMB : Hid (mb = memB rs (np, nq')) := hmb
          clear d0 ho p0 hmb
          by_cases hf : nk = f
          · have e2 : (nk == f) = true := by simpa using hf
            have HFS : Hid ((ms.take (j + 1)).filter (keepM 2 f rs) = (ms.take j).filter (keepM 2 f rs)) := filt_no HN.out hlt HS.out (by unfold keepM; rw [decide_eq_true hf]; rfl)
            clear hf
            go_wp2
            go_quiet (fail)
            go_wp2
            go_quiet (fail)
            go_wp2
            go_roundw
            case rel => exact ⟨j + 1, by omega, by go_num, hbel.trans (Joins.below_draws _ _ _), gv, m, uc, rfl, by omega, by rw [HFS.out]; exact HO.out.kept (grown_of_below (Joins.below_draws _ _ _)) (by cases Value.ownBlock (.slice (some ⟨gv, 0, none⟩) m uc) <;> simp)⟩
            case measure => simp [intOf]; omega
          · have e2 : (nk == f) = false := by simpa using hf
            have HKY : Hid (memB rs (np, nq') = false → keepM 2 f rs (nk, np, nq') = true) := keep_yes (kd := 2) (f := f) (m := (nk, np, nq')) (by show (decide ((2 : Int) = 2) && decide (nk = f)) = false; rw [decide_eq_false hf]; rfl)
            clear hf
            go_wp2
            go_quiet (fail)
            obtain ⟨wt, hwt⟩ : ∃ W, W = wr.drewN nq := ⟨_, rfl⟩
            have hbt : Below wr.heap.size wr wt := by rw [hwt]; exact Joins.below_draws _ _ _
            rw [← hwt]
            have HBT : Hid (Below w.heap.size w wt) := hbel.trans (hbt.mono hbel.size)
            have HOT : Hid (wt.ownsRow w.heap.size 38 3 (.slice (some ⟨gv, 0, none⟩) m uc) m (mcells ((ms.take j).filter (keepM 2 f rs)))) := HO.out.kept (grown_of_below hbt) (by cases Value.ownBlock (.slice (some ⟨gv, 0, none⟩) m uc) <;> simp)
            have ll := hbt.size
            have z0 := (hbt.cell (p := ⟨P, 0, none⟩) hPw).trans q0
            have z2 := (hbt.cell (p := ⟨P, 2, none⟩) hPw).trans q2
            have x0t := (hbt.cell (p := ⟨b, off + j * 3, none⟩) hbw).trans x0
            have x1t := (hbt.cell (p := ⟨b, off + j * 3 + 1, none⟩) hbw).trans x1
            have x2t := (hbt.cell (p := ⟨b, off + j * 3 + 2, none⟩) hbw).trans x2
            have hPt : P < wt.heap.size := by omega
            have hbt2 : b < wt.heap.size := by omega
            have ham : Calls Try.prog 33 #[.slice ia n2 ic, .agg #[.int .i64 np, .int .i64 nq']] wt.drew fun e w' => e = .returned (.bool mb) ∧ Below wt.heap.size wt w' := by
              rw [HMB.out]; exact (l3Among_any ia n2 ic rs np nq' wt.drew (by unfold maxLen; omega) ((HG.out.below HBT.out (Nat.le_refl _)).below (Below.refl _ _).drew (Nat.le_refl _))).mono fun e w' h => ⟨h.1, (Below.refl _ _).drew.trans h.2⟩
            clear hwt hbt x0 x1 x2 q0 q1 q2 hbel
            go_wp2
            go_region_held3 (fun w' => w'.cell? ⟨P, 2, none⟩ = some (.slice ia n2 ic) ∧ w'.cell? ⟨b, off + j * 3 + 1, none⟩ = some (.int .i64 np) ∧ w'.cell? ⟨b, off + j * 3 + 2, none⟩ = some (.int .i64 nq')) (go_keep)
              (first | (go_at_call 33; refine ham.mono ?_; rintro e w4 ⟨rfl, hb4⟩; have y2 := (hb4.cell (p := ⟨P, 2, none⟩) hPt).trans z2; have y3 := (hb4.cell (p := ⟨b, off + j * 3 + 1, none⟩) hbt2).trans x1t; have y4 := (hb4.cell (p := ⟨b, off + j * 3 + 2, none⟩) hbt2).trans x2t))
            have y5 := (hb4.cell (p := ⟨b, off + j * 3, none⟩) hbt2).trans x0t
            have HB4 : Hid (Below w.heap.size w w4) := HBT.out.trans (hb4.mono HBT.out.size)
            have HO4 : Hid (w4.ownsRow w.heap.size 38 3 (.slice (some ⟨gv, 0, none⟩) m uc) m (mcells ((ms.take j).filter (keepM 2 f rs)))) := HOT.out.kept (grown_of_below hb4) (by cases Value.ownBlock (.slice (some ⟨gv, 0, none⟩) m uc) <;> simp)
            clear hb4 x0t x1t x2t z0 z2
            cases mb
            · have HFS : Hid ((ms.take (j + 1)).filter (keepM 2 f rs) = (ms.take j).filter (keepM 2 f rs) ++ [(nk, np, nq')]) := filt_yes HN.out hlt HS.out (HKY.out HMB.out.symm)
              have hs4 := HB4.out.size
              obtain ⟨g5, cap, w5, hrun, HC5⟩ := mem_added (o := (nk, np, nq')) (X := w4.heap.size) (HO4.out.alloc (.cells #[.int .i64 nk, .int .i64 np, .int .i64 nq'] 38)) (heap_alloc_at _ _ _ rfl) (by omega) (by simp; omega)
              have HB5 : Hid (Below w.heap.size w w5) := (HB4.out.trans ((below_box _).mono HB4.out.size)).grown HC5.out.2 (by simp; omega) (fun k hk => (HO4.out.lt k hk).1)
              go_wp2_with (first
                | (at_builtin; go_must (refine wpList_append_runC (by rfl) _ _ _ (by rfl) (by rfl) (by rfl) hrun ?_); clear hrun))
              go_roundw
              case rel => exact ⟨j + 1, by omega, by go_num, HB5.out, g5, m + 1, cap, rfl, by omega, by rw [HFS.out]; exact HC5.out.1⟩
              case measure => simp [intOf]; omega
            · have HFS : Hid ((ms.take (j + 1)).filter (keepM 2 f rs) = (ms.take j).filter (keepM 2 f rs)) := filt_no HN.out hlt HS.out (by unfold keepM; rw [← HMB.out]; simp)
              go_wp2
              go_roundw
              case rel => exact ⟨j + 1, by omega, by go_num, HB4.out, gv, m, uc, rfl, by omega, by rw [HFS.out]; exact HO4.out⟩
              case measure => simp [intOf]; omega
        · have hki : ¬ (j : Int) < (n : Int) := by omega
          have HTF : Hid ((ms.take j).filter (keepM 2 f rs) = ms.filter (keepM 2 f rs)) := by show _ = _; rw [List.take_of_length_le (by rw [HN.out]; omega)]
          have HFI : Hid (JoinO w wr (.returned (.tuple #[.slice (some ⟨gv, 0, none⟩) m uc, .int .i64 0])) rc rr) := join_ok (HRC.out) (by rw [HRR.out, ← HTF.out]; exact own_len HO.out) hbel (by rw [HRR.out, ← HTF.out]; exact HO.out)
          go_wp2
          exact bodyPost_ret (v := .tuple #[.slice (some ⟨gv, 0, none⟩) m uc, .int .i64 0]) (by simp [results, Try.results27, go_sem]) rfl HFI.out
  · have HK2 : Hid (¬ kd = 2) := h2
    have e1 : (kd == 2) = false := by simpa using h2
    have HP1 : Hid (w.cell? ⟨P, 1, none⟩ = some (.int .i64 f)) := p1
    have HP2 : Hid (w.cell? ⟨P, 2, none⟩ = some (.slice ia n2 ic)) := p2
    clear hAt
    by_cases h1 : kd = 1
    · subst h1
      have HP0 : Hid (w.cell? ⟨P, 0, none⟩ = some (.int .i64 1)) := p0
      have hc : takeMR ms 1 f rs id = joinMR (ms.filter (keepM 1 f rs)) (f, id, 0) := by
        unfold takeMR
        rw [if_neg (by simp), if_pos rfl]
      have HRC : Hid (rc = (joinMR (ms.filter (keepM 1 f rs)) (f, id, 0)).1) := by show _ = _; rw [HJC.out, hc]
      have HRR : Hid (rr = (joinMR (ms.filter (keepM 1 f rs)) (f, id, 0)).2) := by show _ = _; rw [HJR.out, hc]
      clear hc h2 e1
      go_enter Try.func27, Try.ntmps27
      go_wp2
      clear p0 p1 p2
      go_loopw [8, 9] (fun v i wr => ∃ j : Nat, j ≤ n ∧ i = .int .i64 j ∧ Below w.heap.size w wr ∧ ∃ gv m uc, v = .slice (some ⟨gv, 0, none⟩) m uc ∧ m ≤ j ∧ Hid (wr.ownsRow w.heap.size 38 3 (.slice (some ⟨gv, 0, none⟩) m uc) m (mcells ((ms.take j).filter (keepM 1 f rs))))) (fun _ i _ => n - (intOf i).toNat)
      case atStart => exact ⟨0, Nat.zero_le _, rfl, below_box _, _, 0, 0, rfl, Nat.le_refl _, own_empty (heap_alloc_new _ _) (Nat.le_refl _)⟩
      case round =>
        obtain ⟨j, hj, rfl, hbel, gv, m, uc, rfl, hmj, HO⟩ := hrel
        have hPw : P < wr.heap.size := Nat.lt_of_lt_of_le hP hbel.size
        have q0 := (hbel.cell (p := ⟨P, 0, none⟩) hP).trans HP0.out
        have q1 := (hbel.cell (p := ⟨P, 1, none⟩) hP).trans HP1.out
        have q2 := (hbel.cell (p := ⟨P, 2, none⟩) hP).trans HP2.out
        by_cases hlt : j < n
        · rcases HC.out.2 with h0 | ⟨b, off, e0, l0, d0⟩
          · omega
          subst e0
          obtain ⟨o, ho⟩ : ∃ o, o = ms.getD j Z3 := ⟨_, rfl⟩
          have p0 := d0 j hlt
          rw [← ho] at p0
          have HS : Hid (o = ms.getD j Z3) := ho
          obtain ⟨nk, np, nq'⟩ := o
          have x0 := (hbel.cell (p := ⟨b, off + j * 3, none⟩) l0).trans p0.1
          have x1 := (hbel.cell (p := ⟨b, off + j * 3 + 1, none⟩) l0).trans p0.2.1
          have x2 := (hbel.cell (p := ⟨b, off + j * 3 + 2, none⟩) l0).trans p0.2.2
          simp only at x0 x1 x2
          have hbw : b < wr.heap.size := Nat.lt_of_lt_of_le l0 hbel.size
          have hki : (j : Int) < (n : Int) := by omega
          obtain ⟨mb, hmb⟩ : ∃ b, b = memB rs (np, nq') := ⟨_, rfl⟩
          have HMB : Hid (mb = memB rs (np, nq')) := hmb
          clear d0 ho p0 hmb
          have HKY : Hid (memB rs (np, nq') = false → keepM 1 f rs (nk, np, nq') = true) := keep_yes (kd := 1) (f := f) (m := (nk, np, nq')) rfl
          go_wp2
          go_quiet (fail)
          obtain ⟨wt, hwt⟩ : ∃ W, W = wr.drewN nq := ⟨_, rfl⟩
          have hbt : Below wr.heap.size wr wt := by rw [hwt]; exact Joins.below_draws _ _ _
          rw [← hwt]
          have HBT : Hid (Below w.heap.size w wt) := hbel.trans (hbt.mono hbel.size)
          have HOT : Hid (wt.ownsRow w.heap.size 38 3 (.slice (some ⟨gv, 0, none⟩) m uc) m (mcells ((ms.take j).filter (keepM 1 f rs)))) := HO.out.kept (grown_of_below hbt) (by cases Value.ownBlock (.slice (some ⟨gv, 0, none⟩) m uc) <;> simp)
          have ll := hbt.size
          have z0 := (hbt.cell (p := ⟨P, 0, none⟩) hPw).trans q0
          have z2 := (hbt.cell (p := ⟨P, 2, none⟩) hPw).trans q2
          have x0t := (hbt.cell (p := ⟨b, off + j * 3, none⟩) hbw).trans x0
          have x1t := (hbt.cell (p := ⟨b, off + j * 3 + 1, none⟩) hbw).trans x1
          have x2t := (hbt.cell (p := ⟨b, off + j * 3 + 2, none⟩) hbw).trans x2
          have hPt : P < wt.heap.size := by omega
          have hbt2 : b < wt.heap.size := by omega
          have ham : Calls Try.prog 33 #[.slice ia n2 ic, .agg #[.int .i64 np, .int .i64 nq']] wt.drew fun e w' => e = .returned (.bool mb) ∧ Below wt.heap.size wt w' := by
            rw [HMB.out]; exact (l3Among_any ia n2 ic rs np nq' wt.drew (by unfold maxLen; omega) ((HG.out.below HBT.out (Nat.le_refl _)).below (Below.refl _ _).drew (Nat.le_refl _))).mono fun e w' h => ⟨h.1, (Below.refl _ _).drew.trans h.2⟩
          clear hwt hbt x0 x1 x2 q0 q1 q2 hbel
          go_wp2
          go_region_held3 (fun w' => w'.cell? ⟨P, 2, none⟩ = some (.slice ia n2 ic) ∧ w'.cell? ⟨b, off + j * 3 + 1, none⟩ = some (.int .i64 np) ∧ w'.cell? ⟨b, off + j * 3 + 2, none⟩ = some (.int .i64 nq')) (go_keep)
            (first | (go_at_call 33; refine ham.mono ?_; rintro e w4 ⟨rfl, hb4⟩; have y2 := (hb4.cell (p := ⟨P, 2, none⟩) hPt).trans z2; have y3 := (hb4.cell (p := ⟨b, off + j * 3 + 1, none⟩) hbt2).trans x1t; have y4 := (hb4.cell (p := ⟨b, off + j * 3 + 2, none⟩) hbt2).trans x2t))
          have y5 := (hb4.cell (p := ⟨b, off + j * 3, none⟩) hbt2).trans x0t
          have HB4 : Hid (Below w.heap.size w w4) := HBT.out.trans (hb4.mono HBT.out.size)
          have HO4 : Hid (w4.ownsRow w.heap.size 38 3 (.slice (some ⟨gv, 0, none⟩) m uc) m (mcells ((ms.take j).filter (keepM 1 f rs)))) := HOT.out.kept (grown_of_below hb4) (by cases Value.ownBlock (.slice (some ⟨gv, 0, none⟩) m uc) <;> simp)
          clear hb4 x0t x1t x2t z0 z2
          cases mb
          · have HFS : Hid ((ms.take (j + 1)).filter (keepM 1 f rs) = (ms.take j).filter (keepM 1 f rs) ++ [(nk, np, nq')]) := filt_yes HN.out hlt HS.out (HKY.out HMB.out.symm)
            have hs4 := HB4.out.size
            obtain ⟨g5, cap, w5, hrun, HC5⟩ := mem_added (o := (nk, np, nq')) (X := w4.heap.size) (HO4.out.alloc (.cells #[.int .i64 nk, .int .i64 np, .int .i64 nq'] 38)) (heap_alloc_at _ _ _ rfl) (by omega) (by simp; omega)
            have HB5 : Hid (Below w.heap.size w w5) := (HB4.out.trans ((below_box _).mono HB4.out.size)).grown HC5.out.2 (by simp; omega) (fun k hk => (HO4.out.lt k hk).1)
            go_wp2_with (first
              | (at_builtin; go_must (refine wpList_append_runC (by rfl) _ _ _ (by rfl) (by rfl) (by rfl) hrun ?_); clear hrun))
            go_roundw
            case rel => exact ⟨j + 1, by omega, by go_num, HB5.out, g5, m + 1, cap, rfl, by omega, by rw [HFS.out]; exact HC5.out.1⟩
            case measure => simp [intOf]; omega
          · have HFS : Hid ((ms.take (j + 1)).filter (keepM 1 f rs) = (ms.take j).filter (keepM 1 f rs)) := filt_no HN.out hlt HS.out (by unfold keepM; rw [← HMB.out]; simp)
            go_wp2
            go_roundw
            case rel => exact ⟨j + 1, by omega, by go_num, HB4.out, gv, m, uc, rfl, by omega, by rw [HFS.out]; exact HO4.out⟩
            case measure => simp [intOf]; omega
        · have hki : ¬ (j : Int) < (n : Int) := by omega
          have HTF : Hid ((ms.take j).filter (keepM 1 f rs) = ms.filter (keepM 1 f rs)) := by show _ = _; rw [List.take_of_length_le (by rw [HN.out]; omega)]
          have HJ := l6Join_any gv m uc ((ms.take j).filter (keepM 1 f rs)) f id 0 wr (by omega) (row_cap HO.out).1 (row_cap HO.out).2 (mat_row HO.out (own_len HO.out)) (HO.out.lt gv rfl).2 (by rw [HTF.out]; exact rises_filter HRI.out)
          have HJ2 : Calls Try.prog 48 #[.slice (some ⟨gv, 0, none⟩) m uc, .agg #[.int .i64 f, .int .i64 id, .int .i64 0]] wr fun e w' => JoinO wr w' e rc rr := by
            rw [HRC.out, HRR.out, ← HTF.out]; exact HJ
          clear HJ
          go_wp2_with (first
            | (go_at_call 48; (with_reducible refine HJ2.mono ?_); clear HJ2; rintro e w5 ⟨va, vc, rfl, hO5, hb5⟩; have HFI : Hid (JoinO w w5 (.returned (.tuple #[.slice va rr.length vc, .int .i64 rc])) rc rr) := ⟨va, vc, rfl, Joins.ownsRow_le hO5 hbel.size, hbel.trans (hb5.mono hbel.size)⟩; clear hO5 hb5))
          exact bodyPost_ret (v := .tuple #[.slice va rr.length vc, .int .i64 rc]) (by simp [results, Try.results27, go_sem]) rfl HFI.out
    · have HP0 : Hid (w.cell? ⟨P, 0, none⟩ = some (.int .i64 kd)) := p0
      have hc : takeMR ms kd f rs id = (0, ms.filter (keepM kd f rs)) := by
        unfold takeMR
        rw [if_neg (by rintro ⟨h, _⟩; exact h2 h), if_neg h1]
      have HRC : Hid (rc = 0) := by show _ = _; rw [HJC.out, hc]
      have HRR : Hid (rr = ms.filter (keepM kd f rs)) := by show _ = _; rw [HJR.out, hc]
      have e3 : (kd != 1) = true := by simpa using h1
      clear hc h2 h1
      go_enter Try.func27, Try.ntmps27
      go_wp2
      clear p0 p1 p2
      go_loopw [8, 9] (fun v i wr => ∃ j : Nat, j ≤ n ∧ i = .int .i64 j ∧ Below w.heap.size w wr ∧ ∃ gv m uc, v = .slice (some ⟨gv, 0, none⟩) m uc ∧ m ≤ j ∧ Hid (wr.ownsRow w.heap.size 38 3 (.slice (some ⟨gv, 0, none⟩) m uc) m (mcells ((ms.take j).filter (keepM kd f rs))))) (fun _ i _ => n - (intOf i).toNat)
      case atStart => exact ⟨0, Nat.zero_le _, rfl, below_box _, _, 0, 0, rfl, Nat.le_refl _, own_empty (heap_alloc_new _ _) (Nat.le_refl _)⟩
      case round =>
        obtain ⟨j, hj, rfl, hbel, gv, m, uc, rfl, hmj, HO⟩ := hrel
        have hPw : P < wr.heap.size := Nat.lt_of_lt_of_le hP hbel.size
        have q0 := (hbel.cell (p := ⟨P, 0, none⟩) hP).trans HP0.out
        have q1 := (hbel.cell (p := ⟨P, 1, none⟩) hP).trans HP1.out
        have q2 := (hbel.cell (p := ⟨P, 2, none⟩) hP).trans HP2.out
        by_cases hlt : j < n
        · rcases HC.out.2 with h0 | ⟨b, off, e0, l0, d0⟩
          · omega
          subst e0
          obtain ⟨o, ho⟩ : ∃ o, o = ms.getD j Z3 := ⟨_, rfl⟩
          have p0 := d0 j hlt
          rw [← ho] at p0
          have HS : Hid (o = ms.getD j Z3) := ho
          obtain ⟨nk, np, nq'⟩ := o
          have x0 := (hbel.cell (p := ⟨b, off + j * 3, none⟩) l0).trans p0.1
          have x1 := (hbel.cell (p := ⟨b, off + j * 3 + 1, none⟩) l0).trans p0.2.1
          have x2 := (hbel.cell (p := ⟨b, off + j * 3 + 2, none⟩) l0).trans p0.2.2
          simp only at x0 x1 x2
          have hbw : b < wr.heap.size := Nat.lt_of_lt_of_le l0 hbel.size
          have hki : (j : Int) < (n : Int) := by omega
          obtain ⟨mb, hmb⟩ : ∃ b, b = memB rs (np, nq') := ⟨_, rfl⟩
          have HMB : Hid (mb = memB rs (np, nq')) := hmb
          clear d0 ho p0 hmb
          have HKY : Hid (memB rs (np, nq') = false → keepM kd f rs (nk, np, nq') = true) := keep_yes (kd := kd) (f := f) (m := (nk, np, nq')) (by rw [decide_eq_false HK2.out]; rfl)
          go_wp2
          go_quiet (fail)
          obtain ⟨wt, hwt⟩ : ∃ W, W = wr.drewN nq := ⟨_, rfl⟩
          have hbt : Below wr.heap.size wr wt := by rw [hwt]; exact Joins.below_draws _ _ _
          rw [← hwt]
          have HBT : Hid (Below w.heap.size w wt) := hbel.trans (hbt.mono hbel.size)
          have HOT : Hid (wt.ownsRow w.heap.size 38 3 (.slice (some ⟨gv, 0, none⟩) m uc) m (mcells ((ms.take j).filter (keepM kd f rs)))) := HO.out.kept (grown_of_below hbt) (by cases Value.ownBlock (.slice (some ⟨gv, 0, none⟩) m uc) <;> simp)
          have ll := hbt.size
          have z0 := (hbt.cell (p := ⟨P, 0, none⟩) hPw).trans q0
          have z2 := (hbt.cell (p := ⟨P, 2, none⟩) hPw).trans q2
          have x0t := (hbt.cell (p := ⟨b, off + j * 3, none⟩) hbw).trans x0
          have x1t := (hbt.cell (p := ⟨b, off + j * 3 + 1, none⟩) hbw).trans x1
          have x2t := (hbt.cell (p := ⟨b, off + j * 3 + 2, none⟩) hbw).trans x2
          have hPt : P < wt.heap.size := by omega
          have hbt2 : b < wt.heap.size := by omega
          have ham : Calls Try.prog 33 #[.slice ia n2 ic, .agg #[.int .i64 np, .int .i64 nq']] wt.drew fun e w' => e = .returned (.bool mb) ∧ Below wt.heap.size wt w' := by
            rw [HMB.out]; exact (l3Among_any ia n2 ic rs np nq' wt.drew (by unfold maxLen; omega) ((HG.out.below HBT.out (Nat.le_refl _)).below (Below.refl _ _).drew (Nat.le_refl _))).mono fun e w' h => ⟨h.1, (Below.refl _ _).drew.trans h.2⟩
          clear hwt hbt x0 x1 x2 q0 q1 q2 hbel
          go_wp2
          go_region_held3 (fun w' => w'.cell? ⟨P, 2, none⟩ = some (.slice ia n2 ic) ∧ w'.cell? ⟨b, off + j * 3 + 1, none⟩ = some (.int .i64 np) ∧ w'.cell? ⟨b, off + j * 3 + 2, none⟩ = some (.int .i64 nq')) (go_keep)
            (first | (go_at_call 33; refine ham.mono ?_; rintro e w4 ⟨rfl, hb4⟩; have y2 := (hb4.cell (p := ⟨P, 2, none⟩) hPt).trans z2; have y3 := (hb4.cell (p := ⟨b, off + j * 3 + 1, none⟩) hbt2).trans x1t; have y4 := (hb4.cell (p := ⟨b, off + j * 3 + 2, none⟩) hbt2).trans x2t))
          have y5 := (hb4.cell (p := ⟨b, off + j * 3, none⟩) hbt2).trans x0t
          have HB4 : Hid (Below w.heap.size w w4) := HBT.out.trans (hb4.mono HBT.out.size)
          have HO4 : Hid (w4.ownsRow w.heap.size 38 3 (.slice (some ⟨gv, 0, none⟩) m uc) m (mcells ((ms.take j).filter (keepM kd f rs)))) := HOT.out.kept (grown_of_below hb4) (by cases Value.ownBlock (.slice (some ⟨gv, 0, none⟩) m uc) <;> simp)
          clear hb4 x0t x1t x2t z0 z2
          cases mb
          · have HFS : Hid ((ms.take (j + 1)).filter (keepM kd f rs) = (ms.take j).filter (keepM kd f rs) ++ [(nk, np, nq')]) := filt_yes HN.out hlt HS.out (HKY.out HMB.out.symm)
            have hs4 := HB4.out.size
            obtain ⟨g5, cap, w5, hrun, HC5⟩ := mem_added (o := (nk, np, nq')) (X := w4.heap.size) (HO4.out.alloc (.cells #[.int .i64 nk, .int .i64 np, .int .i64 nq'] 38)) (heap_alloc_at _ _ _ rfl) (by omega) (by simp; omega)
            have HB5 : Hid (Below w.heap.size w w5) := (HB4.out.trans ((below_box _).mono HB4.out.size)).grown HC5.out.2 (by simp; omega) (fun k hk => (HO4.out.lt k hk).1)
            go_wp2_with (first
              | (at_builtin; go_must (refine wpList_append_runC (by rfl) _ _ _ (by rfl) (by rfl) (by rfl) hrun ?_); clear hrun))
            go_roundw
            case rel => exact ⟨j + 1, by omega, by go_num, HB5.out, g5, m + 1, cap, rfl, by omega, by rw [HFS.out]; exact HC5.out.1⟩
            case measure => simp [intOf]; omega
          · have HFS : Hid ((ms.take (j + 1)).filter (keepM kd f rs) = (ms.take j).filter (keepM kd f rs)) := filt_no HN.out hlt HS.out (by unfold keepM; rw [← HMB.out]; simp)
            go_wp2
            go_roundw
            case rel => exact ⟨j + 1, by omega, by go_num, HB4.out, gv, m, uc, rfl, by omega, by rw [HFS.out]; exact HO4.out⟩
            case measure => simp [intOf]; omega
        · have hki : ¬ (j : Int) < (n : Int) := by omega
          have HTF : Hid ((ms.take j).filter (keepM kd f rs) = ms.filter (keepM kd f rs)) := by show _ = _; rw [List.take_of_length_le (by rw [HN.out]; omega)]
          have HFI : Hid (JoinO w wr (.returned (.tuple #[.slice (some ⟨gv, 0, none⟩) m uc, .int .i64 0])) rc rr) := join_ok (HRC.out) (by rw [HRR.out, ← HTF.out]; exact own_len HO.out) hbel (by rw [HRR.out, ← HTF.out]; exact HO.out)
          go_wp2
          exact bodyPost_ret (v := .tuple #[.slice (some ⟨gv, 0, none⟩) m uc, .int .i64 0]) (by simp [results, Try.results27, go_sem]) rfl HFI.out

end Go.Proofs.Ytgfhnmjpkanikaa
