/- The law on lots that meet: where a quorum is safe, two lots of as many as it needs have one in common who is not bad. -/
import Derived.Test.YtolpbichkmeaaaaYd
import Derived.Lib.QuietBelow
namespace Go.Proofs.Ytolpbichkmeaaaa
open Go.RowKit Go.Maps Go.WideMaps Go.Sort

/-- Two lists under way, each in memory of its own. -/
structure Tw2 (U W : World) (ga ca gb cb ja jb : Nat) (xs ys : List Int) : Prop where
  ra : W.ownsRow U.heap.size 2 1 (.slice (some ⟨ga, 0, none⟩) ja ca) ja (ints xs)
  rb : W.ownsRow U.heap.size 2 1 (.slice (some ⟨gb, 0, none⟩) jb cb) jb (ints ys)
  ne : ga ≠ gb
  bel : Below U.heap.size U W
section
variable {U W W' : World} {ga ca gb cb ja jb : Nat} {xs ys : List Int}
theorem Tw2.swap (h : Tw2 U W ga ca gb cb ja jb xs ys) : Tw2 U W gb cb ga ca jb ja ys xs := ⟨h.rb, h.ra, h.ne.symm, h.bel⟩
theorem Tw2.step (h : Tw2 U W ga ca gb cb ja jb xs ys) (hb : Below W.heap.size W W') : Tw2 U W' ga ca gb cb ja jb xs ys :=
  ⟨((own1_new h.ra).below hb).t, ((own1_new h.rb).below hb).t, h.ne, h.bel.trans (hb.mono h.bel.size)⟩
theorem Tw2.put (h : Tw2 U W ga ca gb cb ja jb xs ys) {g c' H : Nat} {w3 : World} {x : Int} {o : Obj} (ho : w3.ownsRow U.heap.size 2 1 (.slice (some ⟨g, 0, none⟩) (ja + 1) c') (ja + 1) (ints xs ++ [.int .i64 x])) (hg : (W.alloc o).grownBy w3 (Value.ownBlock (.slice (some ⟨ga, 0, none⟩) ja ca))) (hat : Value.ownBlock (.slice (some ⟨ga, 0, none⟩) ja ca) = some g ∨ g = H) (hH : H = W.heap.size + 1) : Tw2 U w3 g c' gb cb (ja + 1) jb (xs ++ [x]) ys := by
  have hgb := (h.rb.lt gb rfl).2
  have hga := (h.ra.lt ga rfl)
  refine ⟨by rw [show ints (xs ++ [x]) = ints xs ++ [.int .i64 x] by simp [ints]]; exact ho, (h.rb.alloc o).kept hg (.inr (by intro e; have e2 : some gb = some ga := e; cases e2; exact h.ne rfl)), ?_, (h.bel.trans ((below_box o).mono h.bel.size)).grown hg (by have := h.bel.size; simp; omega) (fun k hk => by have e2 : some ga = some k := hk; cases e2; exact hga.1)⟩
  rcases hat with e | e
  · have e2 : some ga = some g := e
    cases e2
    exact h.ne
  · omega
end

theorem safe_data {ms ks : List Int} {x : Int} {n : Nat} (hn : ms.length = n) (h : safeR ms x ks = true) : 1 ≤ n ∧ n ≤ 8 ∧ ∃ X : Nat, x = X ∧ 1 ≤ X ∧ X ≤ n ∧ ms.Pairwise (· < ·) ∧ badN ms ks + n < X + X := by
  unfold safeR at h
  by_cases h0 : quoR ms x = 0
  · rw [if_pos h0] at h
    obtain ⟨⟨a1, a2⟩, a3, a4, _, a6⟩ := quoR_zero h0
    obtain ⟨X, rfl⟩ := Int.eq_ofNat_of_zero_le (show 0 ≤ x by omega)
    rw [hn] at a1 a2 a4
    have h2 := of_decide_eq_true h
    rw [hn] at h2
    exact ⟨a1, a2, X, rfl, by omega, by omega, (rise_lt.1 a6).2, by omega⟩
  · rw [if_neg h0] at h; cases h

/-- Has a list one who is not among others? -/
def goodB (bad l : List Int) : Bool := l.any fun x => !(hasK bad x)
theorem goodB_next {bad l : List Int} {n j : Nat} {s : Int} (hn : l.length = n) (hlt : j < n) (hs : s = l.getD j 0) : goodB bad (l.take (j + 1)) = (goodB bad (l.take j) || !(hasK bad s)) := by
  unfold goodB
  rw [take_next hn hlt hs, List.any_append]
  simp

set_option maxRecDepth 20000 in
set_option maxHeartbeats 16000000 in
theorem lawMeets (cn cc : Nat) (ca : Option Addr) (l : List Int) (w : World) (hB : BAt w ca cn l) :
    Calls Try.prog 4 #[.slice ca cn cc] w fun e w' => e = .returned (.bool true) ∧ Below w.heap.size w w' := by
  have hbg := lwBigM_any cn cc ca w
  by_cases hbig : 1048576 < cn
  · rw [decide_eq_true (by omega)] at hbg
    clear hB
    go_enter Try.func4, Try.ntmps4
    go_wp2_with (go_at_call 5; (with_reducible refine hbg.mono ?_); clear hbg; rintro e w' ⟨rfl, hw⟩; have hw2 := hw.symm; subst hw2)
    go_ret
    exact ⟨rfl, Below.refl _ _⟩
  have hcn : cn ≤ 1048576 := by omega
  rw [decide_eq_false (by omega)] at hbg
  have hdr := drawSafe_any cn cc ca l w hcn hB
  have HB : Hid (BAt w ca cn l) := hB
  have hmix : Try.prog.follows .mixedOrders = true := by kernel_rfl
  clear hB hbig
  go_enter Try.func4, Try.ntmps4
  go_wp2_with (first
    | (go_at_call 5; (with_reducible refine hbg.mono ?_); clear hbg; rintro e w' ⟨rfl, hw⟩; have hw2 := hw.symm; subst hw2)
    | (go_at_call 14; (with_reducible refine hdr.mono ?_); clear hdr; rintro e v1 ⟨a, n, c, ms, x, g, m, d, ks, rfl, hn9, hm4, HI, _, HB1⟩; have HN : Hid (ms.length = n) := HI.out.1.1; have hbx : Below v1.heap.size v1 (v1.alloc (.cells #[.slice a n c, .int .i64 x] 28)) := below_box _; have hsf := iIsSafe_any n c m d a (some ⟨g, 0, none⟩) ms ks x (v1.alloc (.cells #[.slice a n c, .int .i64 x] 28)) (by omega) (by unfold maxLen; omega) (HI.out.1.below hbx (Nat.le_refl _)) (HI.out.2.below hbx (Nat.le_refl _)); have HQ1 : Hid ((v1.alloc (.cells #[.slice a n c, .int .i64 x] 28)).heap[v1.heap.size]? = some (.cells #[.slice a n c, .int .i64 x] 28 (0, 0))) := heap_alloc_new _ _; have HBX : Hid (Below v1.heap.size v1 (v1.alloc (.cells #[.slice a n c, .int .i64 x] 28))) := hbx; clear hbx)
    | (go_at_call 15; (with_reducible refine hsf.mono ?_); clear hsf; rintro e v2 ⟨rfl, hb2⟩; have HQ2 : Hid (v2.heap[v1.heap.size]? = some (.cells #[.slice a n c, .int .i64 x] 28 (0, 0))) := (keepb HQ1.out hb2).out; have HB2 : Hid (Below v1.heap.size v1 v2) := HBX.out.trans (hb2.mono HBX.out.size); clear hb2))
  obtain ⟨sf, hsfv⟩ : ∃ b, b = safeR ms x ks := ⟨_, rfl⟩
  rw [← hsfv]
  have HSF : Hid (safeR ms x ks = sf) := hsfv.symm
  obtain ⟨cl, hcl⟩ : ∃ b, b = canR ms x ks := ⟨_, rfl⟩
  obtain ⟨cd, hcd⟩ : ∃ b, b = quoR ms x := ⟨_, rfl⟩
  have HI2 : Hid (IAt v2 a n ms ∧ IAt v2 (some ⟨g, 0, none⟩) m ks) := ⟨HI.out.1.below HB2.out (Nat.le_refl _), HI.out.2.below HB2.out (Nat.le_refl _)⟩
  have hml : m ≤ maxLen := by unfold maxLen; omega
  have hnl : n ≤ 1048576 := by omega
  have c1 : ∀ dd os, Calls Try.prog 16 #[.agg #[.slice a n c, .int .i64 x], .slice (some ⟨g, 0, none⟩) m d] (grow (redrawn v2 dd) os) fun e w'' => e = .returned (.bool sf) ∧ ∃ p : Regrown, w'' = grow (redrawn v2 p.d) p.os := fun dd os => Calls.regrown_of (by
    have hb := below_regrown v2 dd os
    have := sIsSafe_any n c m d a (some ⟨g, 0, none⟩) ms ks x (grow (redrawn v2 dd) os) hnl hml (HI2.out.1.below hb (Nat.le_refl _)) (HI2.out.2.below hb (Nat.le_refl _))
    rw [← hsfv] at this; exact this)
  have c2 : ∀ dd os, Calls Try.prog 17 #[.agg #[.slice a n c, .int .i64 x], .slice (some ⟨g, 0, none⟩) m d] (grow (redrawn v2 dd) os) fun e w'' => e = .returned (.bool cl) ∧ ∃ p : Regrown, w'' = grow (redrawn v2 p.d) p.os := fun dd os => Calls.regrown_of (by
    have hb := below_regrown v2 dd os
    have := iCanLock_any n c m d a (some ⟨g, 0, none⟩) ms ks x (grow (redrawn v2 dd) os) hnl hml (HI2.out.1.below hb (Nat.le_refl _)) (HI2.out.2.below hb (Nat.le_refl _))
    rw [← hcl] at this; exact this)
  have c3 : ∀ dd os, Calls Try.prog 18 #[.agg #[.slice a n c, .int .i64 x], .slice (some ⟨g, 0, none⟩) m d] (grow (redrawn v2 dd) os) fun e w'' => e = .returned (.bool cl) ∧ ∃ p : Regrown, w'' = grow (redrawn v2 p.d) p.os := fun dd os => Calls.regrown_of (by
    have hb := below_regrown v2 dd os
    have := sCanLock_any n c m d a (some ⟨g, 0, none⟩) ms ks x (grow (redrawn v2 dd) os) hnl hml (HI2.out.1.below hb (Nat.le_refl _)) (HI2.out.2.below hb (Nat.le_refl _))
    rw [← hcl] at this; exact this)
  have c4 : ∀ dd os, Calls Try.prog 11 #[.agg #[.slice a n c, .int .i64 x]] (grow (redrawn v2 dd) os) fun e w'' => e = .returned (.int .i64 cd) ∧ ∃ p : Regrown, w'' = grow (redrawn v2 p.d) p.os := fun dd os => Calls.regrown_of (by
    have := iQuorumFault_any n c a ms x (grow (redrawn v2 dd) os) hnl (HI2.out.1.below (below_regrown v2 dd os) (Nat.le_refl _))
    rw [← hcd] at this; exact this)
  have c5 : ∀ dd os, Calls Try.prog 19 #[.agg #[.slice a n c, .int .i64 x]] (grow (redrawn v2 dd) os) fun e w'' => e = .returned (.int .i64 cd) ∧ ∃ p : Regrown, w'' = grow (redrawn v2 p.d) p.os := fun dd os => Calls.regrown_of (by
    have := sQuorumFault_any n c a ms x (grow (redrawn v2 dd) os) hnl (HI2.out.1.below (below_regrown v2 dd os) (Nat.le_refl _))
    rw [← hcd] at this; exact this)
  obtain ⟨p0, p1⟩ := cells2 HQ2.out
  have a0 := cell_regrown p0
  have a1 := cell_regrown p1
  have e1 : (sf != sf) = false := by simp
  have e2 : (cl != cl) = false := by simp
  have e3 : (cd != cd) = false := by simp
  clear hsfv hcl hcd p0 p1
  refine wp_region_quiet_below hmix (by kernel_rfl) ?_
  repeat (go_big_quiet_step (first | exact c1 _ _ | exact c2 _ _ | exact c3 _ _ | exact c4 _ _ | exact c5 _ _))
  refine wpQuiet_nil ?_
  intro _ hw'
  obtain ⟨⟨dq, osq⟩, hw''⟩ := hw'
  subst hw''
  obtain ⟨V, hV⟩ : ∃ V, V = grow (redrawn v2 dq) osq := ⟨_, rfl⟩
  rw [← hV]
  have hbV : Below v2.heap.size v2 V := by rw [hV]; exact below_regrown _ _ _
  have HQV : Hid (V.heap[v1.heap.size]? = some (.cells #[.slice a n c, .int .i64 x] 28 (0, 0))) := (keepb HQ2.out hbV).out
  have HBV : Hid (Below w.heap.size w V) := (HB1.out.trans (HB2.out.mono HB1.out.size)).trans (hbV.mono (by have := HB1.out.size; have := HB2.out.size; omega))
  have HIV : Hid (IAt V a n ms ∧ IAt V (some ⟨g, 0, none⟩) m ks) := ⟨HI2.out.1.below hbV (Nat.le_refl _), HI2.out.2.below hbV (Nat.le_refl _)⟩
  obtain ⟨Qb, hQb⟩ : ∃ q, q = v1.heap.size := ⟨_, rfl⟩
  rw [← hQb] at HQV ⊢
  clear hV hbV a0 a1 e1 e2 e3 c1 c2 c3 c4 c5 HI2 HQ2 HQ1 HBX HB2 hQb HI
  cases sf
  · go_wp2
    go_ret
    exact ⟨rfl, HBV.out⟩
  obtain ⟨hn1, hn8, X, rfl, hX1, hXn, hrise, hcount⟩ := safe_data HN.out HSF.out
  have HRI : Hid (ms.Pairwise (· < ·) ∧ badN ms ks + n < X + X) := ⟨hrise, hcount⟩
  clear hrise hcount HSF
  obtain ⟨A, hA⟩ := Int.eq_ofNat_of_zero_le (lwAtR_lt l cn 1 n hn1).1
  obtain ⟨B, hBv⟩ := Int.eq_ofNat_of_zero_le (lwAtR_lt l cn 2 n hn1).1
  have hAl : A < n := by have := (lwAtR_lt l cn 1 n hn1).2; omega
  have hBl : B < n := by have := (lwAtR_lt l cn 2 n hn1).2; omega
  have HA : Hid (lwAtR l cn 1 n = (A : Int) ∧ lwAtR l cn 2 n = (B : Int)) := ⟨hA, hBv⟩
  clear hA hBv
  rcases HIV.out.1.2 with h0 | ⟨b0, off, e0, l0, d0⟩
  · omega
  subst e0
  have HCL : Hid (b0 < V.heap.size ∧ ∀ j, j < n → V.cell? ⟨b0, off + j, none⟩ = some (.int .i64 (ms.getD j 0))) := ⟨l0, d0⟩
  have hqb := lt_of_block HQV.out
  obtain ⟨p0, p1⟩ := cells2 HQV.out
  have HT0 : Hid (Tw2 V ((V.alloc (.cells #[] 2)).alloc (.cells #[] 2)) V.heap.size 0 (V.heap.size + 1) 0 0 0 (lotL ms (fwdP A n) 0) (lotL ms (bwdP B n) 0)) := ⟨own_empty block_at2 (Nat.le_refl _), own_empty (heap_alloc_at _ _ _ (by simp)) (by omega), by omega, below_box2 _ _⟩
  clear l0 d0
  go_wp2
  go_loopw [7, 8, 9] (fun va vb i wr => ∃ (k ga ea gb eb j : Nat), k ≤ n ∧ i = .int .i64 (k : Int) ∧ va = .slice (some ⟨ga, 0, none⟩) j ea ∧ vb = .slice (some ⟨gb, 0, none⟩) j eb ∧ (j = k ∨ (X ≤ k ∧ j = X)) ∧ j ≤ X ∧ Hid (Tw2 V wr ga ea gb eb j j (lotL ms (fwdP A n) j) (lotL ms (bwdP B n) j))) (fun _ _ i _ => n - (intOf i).toNat)
  case atStart => exact ⟨0, V.heap.size, 0, V.heap.size + 1, 0, 0, Nat.zero_le _, rfl, rfl, rfl, .inl rfl, Nat.zero_le _, HT0⟩
  case round =>
    clear HT0 p0 p1
    obtain ⟨k, ga, ea, gb, eb, j, hk, rfl, rfl, rfl, hjk, hjX, HT⟩ := hrel
    have hqr := (keepb HQV.out HT.out.bel).out
    obtain ⟨q0, q1⟩ := cells2 hqr
    have HQr : Hid (wr.heap[Qb]? = some (.cells #[.slice (some ⟨b0, off, none⟩) n c, .int .i64 (X : Int)] 28 (0, 0))) := hqr
    clear hqr
    by_cases hlt : k < n
    · have hki : (k : Int) < (n : Int) := by omega
      obtain ⟨f1, hf1⟩ : ∃ f, f = fwdP A n k := ⟨_, rfl⟩
      obtain ⟨f2, hf2⟩ : ∃ f, f = bwdP B n k := ⟨_, rfl⟩
      have hf1l : f1 < n := by rw [hf1]; exact Nat.mod_lt _ (by omega)
      have hf2l : f2 < n := by rw [hf2]; exact Nat.mod_lt _ (by omega)
      obtain ⟨x1, hx1⟩ : ∃ y, y = ms.getD f1 0 := ⟨_, rfl⟩
      obtain ⟨x2, hx2⟩ : ∃ y, y = ms.getD f2 0 := ⟨_, rfl⟩
      have g1 := (HT.out.bel.cell (p := ⟨b0, off + f1, none⟩) HCL.out.1).trans (HCL.out.2 f1 hf1l)
      have g2 := (HT.out.bel.cell (p := ⟨b0, off + f2, none⟩) HCL.out.1).trans (HCL.out.2 f2 hf2l)
      rw [← hx1] at g1
      rw [← hx2] at g2
      have w1 : IntKind.i64.wrap ((k : Int) + (A : Int)) = (k : Int) + (A : Int) := IntWalk.i64_in _ (by omega)
      have w2 : ((k : Int) + (A : Int)).tmod (n : Int) = (f1 : Int) := by rw [hf1, Int.tmod_eq_emod_of_nonneg (by omega)]; unfold fwdP; rw [show (k : Int) + (A : Int) = ((k + A : Nat) : Int) by omega]; omega
      have w3 : IntKind.i64.wrap ((n : Int) - 1) = (n : Int) - 1 := IntWalk.i64_in _ (by omega)
      have w4 : IntKind.i64.wrap ((n : Int) - 1 - (k : Int)) = (n : Int) - 1 - (k : Int) := IntWalk.i64_in _ (by omega)
      have w5 : IntKind.i64.wrap ((n : Int) - 1 - (k : Int) + (B : Int)) = (n : Int) - 1 - (k : Int) + (B : Int) := IntWalk.i64_in _ (by omega)
      have w6 : ((n : Int) - 1 - (k : Int) + (B : Int)).tmod (n : Int) = (f2 : Int) := by rw [hf2, Int.tmod_eq_emod_of_nonneg (by omega)]; unfold bwdP; rw [show (n : Int) - 1 - (k : Int) + (B : Int) = ((n - 1 - k + B : Nat) : Int) by omega]; omega
      have hw1 : Below w.heap.size w wr := HBV.out.trans (HT.out.bel.mono HBV.out.size)
      have lA : ∀ (W : World), Below wr.heap.size wr W → ∀ dd os, Calls Try.prog 20 #[.slice ca cn cc, .int .i64 1, .int .i64 (n : Int)] (grow (redrawn W dd) os) fun e w'' => e = .returned (.int .i64 (A : Int)) ∧ ∃ p : Regrown, w'' = grow (redrawn W p.d) p.os := fun W hW dd os => Calls.regrown_of (by
        have hb := hw1.trans ((hW.trans ((below_regrown W dd os).mono hW.size)).mono hw1.size)
        have := lwAt_any cn cc 1 n ca l (grow (redrawn W dd) os) (by omega) (by omega) hcn (batBelow HB.out hb)
        rw [HA.out.1] at this
        exact this)
      have lB : ∀ (W : World), Below wr.heap.size wr W → ∀ dd os, Calls Try.prog 20 #[.slice ca cn cc, .int .i64 2, .int .i64 (n : Int)] (grow (redrawn W dd) os) fun e w'' => e = .returned (.int .i64 (B : Int)) ∧ ∃ p : Regrown, w'' = grow (redrawn W p.d) p.os := fun W hW dd os => Calls.regrown_of (by
        have hb := hw1.trans ((hW.trans ((below_regrown W dd os).mono hW.size)).mono hw1.size)
        have := lwAt_any cn cc 2 n ca l (grow (redrawn W dd) os) (by omega) (by omega) hcn (batBelow HB.out hb)
        rw [HA.out.2] at this
        exact this)
      have cA := lA wr (Below.refl _ _)
      have LB : Hid (∀ (W : World), Below wr.heap.size wr W → ∀ dd os, Calls Try.prog 20 #[.slice ca cn cc, .int .i64 2, .int .i64 (n : Int)] (grow (redrawn W dd) os) fun e w'' => e = .returned (.int .i64 (B : Int)) ∧ ∃ p : Regrown, w'' = grow (redrawn W p.d) p.os) := lB
      have hfi : (f1 : Int) < (n : Int) := by omega
      have hfj : (f2 : Int) < (n : Int) := by omega
      have hnz : (n : Int) ≠ 0 := by omega
      have H1 : Hid (x1 = ms.getD (fwdP A n k) 0 ∧ x2 = ms.getD (bwdP B n k) 0) := ⟨by rw [hx1, hf1], by rw [hx2, hf2]⟩
      have a0 := cell_regrown q0
      have a1 := cell_regrown q1
      have a2 := cell_regrown g1
      have G2 : Hid (wr.cell? ⟨b0, off + f2, none⟩ = some (.int .i64 x2)) := g2
      clear lA lB hf1 hf2 hx1 hx2 hw1 g1 g2 q0 q1
      go_wp2
      refine wp_region_quiet_below hmix (by kernel_rfl) ?_
      repeat (go_big_quiet_step (first | exact cA _ _))
      refine wpQuiet_nil ?_
      intro _ hw'
      obtain ⟨⟨dq, osq⟩, hw''⟩ := hw'
      subst hw''
      obtain ⟨W1, hW1⟩ : ∃ W, W = grow (redrawn wr dq) osq := ⟨_, rfl⟩
      rw [← hW1]
      have hb1 : Below wr.heap.size wr W1 := by rw [hW1]; exact below_regrown _ _ _
      have HT1 : Hid (Tw2 V W1 ga ea gb eb j j (lotL ms (fwdP A n) j) (lotL ms (bwdP B n) j)) := HT.out.step hb1
      have hq1 := (keepb HQr.out hb1).out
      obtain ⟨q0, q1⟩ := cells2 hq1
      have b0a := cell_regrown q0
      have b0b := cell_regrown q1
      have b0c := cell_regrown ((hb1.cell (p := ⟨b0, off + f2, none⟩) (World.block_lt_of_cell? _ _ G2.out)).trans G2.out)
      have cB := LB.out W1 hb1
      have HQ1 : Hid (W1.heap[Qb]? = some (.cells #[.slice (some ⟨b0, off, none⟩) n c, .int .i64 (X : Int)] 28 (0, 0))) := hq1
      clear hW1 hb1 hq1 a0 a1 a2 cA LB G2 q0 q1 HT HQr
      go_wp2
      refine wp_region_quiet_below hmix (by kernel_rfl) ?_
      repeat (go_big_quiet_step (first | exact cB _ _))
      refine wpQuiet_nil ?_
      intro _ hw'
      obtain ⟨⟨dr, osr⟩, hw''⟩ := hw'
      subst hw''
      obtain ⟨W2, hW2⟩ : ∃ W, W = grow (redrawn W1 dr) osr := ⟨_, rfl⟩
      rw [← hW2]
      have hb2 : Below W1.heap.size W1 W2 := by rw [hW2]; exact below_regrown _ _ _
      have HT2 : Hid (Tw2 V W2 ga ea gb eb j j (lotL ms (fwdP A n) j) (lotL ms (bwdP B n) j)) := HT1.out.step hb2
      obtain ⟨q0, q1⟩ := cells2 (keepb HQ1.out hb2).out
      clear hW2 hb2 b0a b0b b0c cB HT1 HQ1
      by_cases hkX : k < X
      · obtain rfl : j = k := by omega
        have hkXi : (j : Int) < (X : Int) := by omega
        obtain ⟨i0, hi0, hz0, hz1, hz2⟩ := info_parts Try.infoI64
        have hs2 := HT2.out.bel.size
        go_wp2_with (first
          | (at_builtin; have HTq := HT2; clear HT2; go_must (refine wpList_append_lies _ (by rfl) _ _ 24 (by rfl) V.heap.size 2 i0 (.int .i64 0) 1 8 Try.underlying24 hi0 hz0 hz1 hz2 rfl (by omega) (.slice (some ⟨ga, 0, none⟩) j ea) j (ints (lotL ms (fwdP A n) j)) (by rfl) (HTq.out.ra.alloc _) ⟨W2.heap.size, 0, none⟩ 1 1 [.int .i64 x1] (by rfl) (by rfl) (news1 (heap_alloc_at _ _ _ (by simp))) one1 (by omega) (by unfold maxLen; omega) (by omega) (by simp; omega) (W2.heap.size + 1) (by simp) ?_); intro g3 k3 w3 ho3 hg3 hat3 hlt3; have HT3 : Hid (Tw2 V w3 g3 k3 gb eb (j + 1) j (lotL ms (fwdP A n) (j + 1)) (lotL ms (bwdP B n) j)) := (by show Tw2 _ _ _ _ _ _ _ _ _ _; rw [lotL_succ, ← H1.out.1]; exact HTq.out.put ho3 hg3 hat3 rfl); have hs3 := HT3.out.bel.size; clear ho3 hg3 hat3 hlt3 HTq)
          | (at_builtin; have HTq := HT3; clear HT3; go_must (refine wpList_append_lies _ (by rfl) _ _ 24 (by rfl) V.heap.size 2 i0 (.int .i64 0) 1 8 Try.underlying24 hi0 hz0 hz1 hz2 rfl (by omega) (.slice (some ⟨gb, 0, none⟩) j eb) j (ints (lotL ms (bwdP B n) j)) (by rfl) (HTq.out.rb.alloc _) ⟨w3.heap.size, 0, none⟩ 1 1 [.int .i64 x2] (by rfl) (by rfl) (news1 (heap_alloc_at _ _ _ (by simp))) one1 (by omega) (by unfold maxLen; omega) (by omega) (by simp; omega) (w3.heap.size + 1) (by simp) ?_); intro g4 k4 w4 ho4 hg4 hat4 hlt4; have HT4 : Hid (Tw2 V w4 g3 k3 g4 k4 (j + 1) (j + 1) (lotL ms (fwdP A n) (j + 1)) (lotL ms (bwdP B n) (j + 1))) := (by show Tw2 _ _ _ _ _ _ _ _ _ _; rw [lotL_succ ms (bwdP B n), ← H1.out.2]; exact (HTq.out.swap.put ho4 hg4 hat4 rfl).swap); clear ho4 hg4 hat4 hlt4 HTq))
        go_roundw
        case rel => exact ⟨j + 1, g3, k3, g4, k4, j + 1, by omega, by go_num, rfl, rfl, .inl rfl, by omega, HT4⟩
        case measure => simp [intOf]; omega
      · have hkXi : ¬ (k : Int) < (X : Int) := by omega
        go_wp2
        go_roundw
        case rel => exact ⟨k + 1, ga, ea, gb, eb, j, by omega, by go_num, rfl, rfl, .inr ⟨by omega, by omega⟩, hjX, HT2⟩
        case measure => simp [intOf]; omega
    · obtain rfl : j = X := by omega
      have hki : ¬ (k : Int) < (n : Int) := by omega
      obtain ⟨La, hLa⟩ : ∃ L, L = lotL ms (fwdP A n) j := ⟨_, rfl⟩
      obtain ⟨Lb, hLb⟩ : ∃ L, L = lotL ms (bwdP B n) j := ⟨_, rfl⟩
      have hla : La.length = j := by rw [hLa]; exact lotL_length _ _ _
      have hlb : Lb.length = j := by rw [hLb]; exact lotL_length _ _ _
      rw [← hLa, ← hLb] at HT
      have hgood : ∃ y ∈ La, hasK Lb y = true ∧ hasK ks y = false := by
        have hbnd : ∀ (f : Nat → Nat), (∀ i, f i < n) → ∀ i, i < j → f i < ms.length := fun f hf i _ => by rw [HN.out]; exact hf i
        have hm1 : ∀ i, fwdP A n i < n := fun i => Nat.mod_lt _ (by omega)
        have hm2 : ∀ i, bwdP B n i < n := fun i => Nat.mod_lt _ (by omega)
        rw [hLa, hLb]
        refine meet_good (L := ms) (lotL_nodup HRI.out.1 (hbnd _ hm1) (fun i i' h1 h2 => fwd_ne hAl h1 (by omega))) (lotL_nodup HRI.out.1 (hbnd _ hm2) (fun i i' h1 h2 => bwd_ne hBl h1 (by omega))) (lotL_mem (hbnd _ hm1)) (lotL_mem (hbnd _ hm2)) ?_
        rw [lotL_length, lotL_length, HN.out]
        exact HRI.out.2
      have emr : meetR La Lb = (0, selM La Lb j) := by unfold meetR; rw [if_neg (by omega), hla]
      have hmt := iMeetOf_any j ea j eb (some ⟨ga, 0, none⟩) (some ⟨gb, 0, none⟩) La Lb wr (by unfold maxLen; omega) (by unfold maxLen; omega) (IAt.owned HT.out.ra hla) (IAt.owned HT.out.rb hlb)
      rw [emr] at hmt
      obtain ⟨R, hR⟩ : ∃ R, R = selM La Lb j := ⟨_, rfl⟩
      simp only at hmt
      rw [← hR] at hmt
      obtain ⟨rn, hrn⟩ : ∃ k, k = R.length := ⟨_, rfl⟩
      have HGB : Hid (goodB ks R = true) := by
        show _ = _
        obtain ⟨y, hy1, hy2, hy3⟩ := hgood
        unfold goodB
        rw [List.any_eq_true]
        refine ⟨y, ?_, by rw [hy3]; rfl⟩
        rw [hR]
        unfold selM
        rw [List.take_of_length_le (by omega)]
        exact List.mem_filter.2 ⟨hy1, hy2⟩
      have HRN : Hid (R.length = rn ∧ rn ≤ 8) := ⟨hrn.symm, by rw [hrn, hR]; have := selM_le La Lb j; omega⟩
      have HKS : Hid (IAt wr (some ⟨g, 0, none⟩) m ks) := HIV.out.2.below HT.out.bel (Nat.le_refl _)
      have HBR : Hid (Below w.heap.size w wr) := HBV.out.trans (HT.out.bel.mono HBV.out.size)
      clear hR hrn hgood emr hLa hLb hla hlb q0 q1
      go_wp2_with (go_at_call 21; (with_reducible refine hmt.mono ?_); clear hmt; rintro e v5 ⟨hb5, ra, rc, rfl, ho5⟩; rw [HRN.out.1] at ho5 ⊢; have hbx : Below v5.heap.size v5 (v5.alloc (.cells #[.int .i64 0, .slice ra rn rc] 44)) := below_box _; have HX5 : Hid ((v5.alloc (.cells #[.int .i64 0, .slice ra rn rc] 44)).heap[v5.heap.size]? = some (.cells #[.int .i64 0, .slice ra rn rc] 44 (0, 0))) := heap_alloc_new _ _; have HI5 : Hid (IAt (v5.alloc (.cells #[.int .i64 0, .slice ra rn rc] 44)) ra rn R) := (IAt.owned ho5 HRN.out.1).below hbx (Nat.le_refl _); have HK5 : Hid (IAt (v5.alloc (.cells #[.int .i64 0, .slice ra rn rc] 44)) (some ⟨g, 0, none⟩) m ks) := (HKS.out.below hb5 (Nat.le_refl _)).below hbx (Nat.le_refl _); have HB5 : Hid (Below w.heap.size w (v5.alloc (.cells #[.int .i64 0, .slice ra rn rc] 44))) := (HBR.out.trans (hb5.mono HBR.out.size)).trans (hbx.mono (by have := HBR.out.size; have := hb5.size; omega)); clear hb5 ho5 hbx)
      obtain ⟨W5, hW5⟩ : ∃ W, W = v5.alloc (.cells #[.int .i64 0, .slice ra rn rc] 44) := ⟨_, rfl⟩
      rw [← hW5] at HX5 HI5 HK5 HB5 ⊢
      obtain ⟨Mb, hMb⟩ : ∃ q, q = v5.heap.size := ⟨_, rfl⟩
      rw [← hMb] at HX5 ⊢
      clear hW5 hMb HT HKS HBR
      obtain ⟨q0, q1⟩ := cells2 HX5.out
      go_loop [13, 14] (fun gd i => ∃ t : Nat, t ≤ rn ∧ i = .int .i64 (t : Int) ∧ ∃ z : Bool, gd = .bool z ∧ Hid (goodB ks (R.take t) = z)) (fun _ i => rn - (intOf i).toNat)
      case atStart => exact ⟨0, Nat.zero_le _, rfl, false, rfl, by show _ = _; simp [goodB]⟩
      case round =>
        obtain ⟨t, ht, rfl, z, rfl, HZ⟩ := hrel
        have hrn8 := HRN.out.2
        by_cases hlt2 : t < rn
        · rcases HI5.out.2 with h0 | ⟨b1, o1, e1, l1, d1⟩
          · omega
          subst e1
          obtain ⟨y, hy⟩ : ∃ y, y = R.getD t 0 := ⟨_, rfl⟩
          have x0 := d1 t hlt2
          rw [← hy] at x0
          have HNX : Hid (goodB ks (R.take (t + 1)) = (z || !(hasK ks y))) := by show _ = _; rw [goodB_next HRN.out.1 hlt2 hy, HZ.out]
          obtain ⟨kk, hkk⟩ : ∃ b, b = hasK ks y := ⟨_, rfl⟩
          have hhs := lwHas_any (some ⟨g, 0, none⟩) m d ks y W5 hml HK5.out
          rw [← hkk] at hhs HNX
          have hti : (t : Int) < (rn : Int) := by omega
          clear hy hkk d1
          cases z
          · go_wp2_with (go_at_call 9; (with_reducible refine hhs.mono ?_); clear hhs; rintro e w' ⟨rfl, hw⟩; have hw2 := hw.symm; subst hw2)
            go_round
            case rel => exact ⟨t + 1, by omega, by go_num, !kk, by simp, by show _ = _; rw [HNX.out]; simp⟩
            case measure => simp [intOf]; omega
          · go_wp2
            go_round
            case rel => exact ⟨t + 1, by omega, by go_num, true, by simp, by show _ = _; rw [HNX.out]; simp⟩
            case measure => simp [intOf]; omega
        · obtain rfl : z = true := by rw [← HZ.out, take_all HRN.out.1 hlt2]; exact HGB.out
          have hti : ¬ (t : Int) < (rn : Int) := by omega
          go_wp2
          go_ret
          exact ⟨rfl, HB5.out⟩

end Go.Proofs.Ytolpbichkmeaaaa
