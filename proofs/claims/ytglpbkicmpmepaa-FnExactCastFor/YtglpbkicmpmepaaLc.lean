/- The fault of a tree: the specification's whole. -/
import Derived.Test.YtglpbkicmpmepaaLb
import Derived.Lib.QuietBelow
namespace Go.Proofs.Ytglpbkicmpmepaa
open Go.RowKit Go.Maps Go.WideMaps Go.Sort

theorem MAt.take {w : World} {a : Option Addr} {n : Nat} {ms : List Mb} (h : MAt w a n ms) {j : Nat} (hj : j ≤ n) : MAt w a j (ms.take j) := by
  refine ⟨by rw [List.length_take, h.1]; omega, ?_⟩
  rcases h.2 with h0 | ⟨b, off, e, hl, hc⟩
  · exact .inl (by omega)
  · refine .inr ⟨b, off, e, hl, fun t ht => ?_⟩
    have e1 : (ms.take j).getD t Z3 = ms.getD t Z3 := by
      rw [List.getD, List.getD, List.getElem?_take_of_lt ht]
    rw [e1]
    exact hc t (by omega)
theorem next_nd {ms : List Mb} {n j : Nat} {o : Mb} (hn : ms.length = n) (hlt : j < n) (ho : o = ms.getD j Z3) : ms.drop j = o :: ms.drop (j + 1) ∧ ms.take (j + 1) = ms.take j ++ [o] := by
  have hj : j < ms.length := by omega
  have e : ms.getD j Z3 = ms[j]'hj := by simp [List.getD, List.getElem?_eq_getElem hj]
  refine ⟨?_, ?_⟩
  · rw [ho, e]; exact List.drop_eq_getElem_cons hj
  · rw [List.take_add_one, ho, e, List.getElem?_eq_getElem hj]; rfl
theorem nodeR_ht {ms : List Mb} {id pv h : Int} (e : nodeR ms id pv h = 0) : 1 ≤ h ∧ h ≤ 40 := by
  unfold nodeR at e
  by_cases h1 : inB id 1 60 = false ∨ inB h 1 40 = false
  · rw [if_pos h1] at e; cases e
  · have h2 : inB h 1 40 = true := by
      cases hh : inB h 1 40
      · exact absurd (.inr hh) h1
      · rfl
    exact inB_true.1 h2
theorem HtOk.more {ms : List Mb} {g : Mb} (h : HtOk ms) (hg : 1 ≤ g.2.2 ∧ g.2.2 ≤ 40) : HtOk (ms ++ [g]) := fun x hx => by
  rcases List.mem_append.1 hx with hx | hx
  · exact h x hx
  · simp at hx; subst hx; omega

set_option maxRecDepth 20000 in
set_option maxHeartbeats 2000000 in
theorem l9Fault_any (n c : Nat) (a : Option Addr) (ms : List Mb) (w : World) (hcap : n ≤ c) (hC : MAt w a n ms) :
    Calls Try.prog 18 #[.slice a n c] w fun e w' => e = .returned (.int .i64 (treeR ms)) ∧ Below w.heap.size w w' := by
  have HC : Hid (MAt w a n ms) := hC
  have HN : Hid (ms.length = n) := hC.1
  have hmix : Try.prog.follows .mixedOrders = true := by kernel_rfl
  obtain ⟨r, hr⟩ : ∃ r, r = treeR ms := ⟨_, rfl⟩
  rw [← hr]
  have HR : Hid (r = treeR ms) := hr
  clear hC hr
  by_cases h60 : 60 < n
  · obtain rfl : r = 2 := by rw [HR.out]; unfold treeR; rw [if_pos (by rw [HN.out]; exact h60)]
    have hki : (60 : Int) < (n : Int) := by omega
    go_enter Try.func18, Try.ntmps18
    go_wp2
    go_ret
    exact ⟨rfl, Below.refl _ _⟩
  have HG : Hid (r = treeG [] ms) := by show _ = _; rw [HR.out]; unfold treeR; rw [if_neg (by rw [HN.out]; exact h60)]
  have hk6 : ¬ (60 : Int) < (n : Int) := by omega
  clear HR
  go_enter Try.func18, Try.ntmps18
  go_wp2
  go_loopw [3] (fun i wr => ∃ j : Nat, j ≤ n ∧ i = .int .i64 j ∧ Below w.heap.size w wr ∧ Hid (r = treeG (ms.take j) (ms.drop j)) ∧ Hid (HtOk (ms.take j))) (fun i _ => n - (intOf i).toNat)
  case atStart => exact ⟨0, Nat.zero_le _, rfl, Below.refl _ _, by show _ = _; simpa using HG.out, fun g hg => by simp at hg⟩
  case round =>
    obtain ⟨j, hj, rfl, hbel, HT, HO⟩ := hrel
    by_cases hlt : j < n
    · rcases HC.out.2 with h0 | ⟨b, off, e0, l0, d0⟩
      · omega
      subst e0
      obtain ⟨o, ho⟩ : ∃ o, o = ms.getD j Z3 := ⟨_, rfl⟩
      have p0 := d0 j hlt
      rw [← ho] at p0
      obtain ⟨hnx, htk⟩ := next_nd HN.out hlt ho
      have HNX : Hid (ms.drop j = o :: ms.drop (j + 1)) := hnx
      have HTK : Hid (ms.take (j + 1) = ms.take j ++ [o]) := htk
      obtain ⟨c1, hc1⟩ : ∃ x, x = nodeR (ms.take j) o.1 o.2.1 o.2.2 := ⟨_, rfl⟩
      have HC1 : Hid (nodeR (ms.take j) o.1 o.2.1 o.2.2 = c1) := hc1.symm
      obtain ⟨ok, op, oq⟩ := o
      have x0 := (hbel.cell (p := ⟨b, off + j * 3, none⟩) l0).trans p0.1
      have x1 := (hbel.cell (p := ⟨b, off + j * 3 + 1, none⟩) l0).trans p0.2.1
      have x2 := (hbel.cell (p := ⟨b, off + j * 3 + 2, none⟩) l0).trans p0.2.2
      simp only at x0 x1 x2
      have y0 := cell_regrown x0
      have y1 := cell_regrown x1
      have y2 := cell_regrown x2
      have cN : ∀ dd os, Calls Try.prog 32 #[.slice (some ⟨b, off, none⟩) j c, .agg #[.int .i64 ok, .int .i64 op, .int .i64 oq]] (grow (redrawn wr dd) os) fun e w'' => e = .returned (.int .i64 c1) ∧ ∃ p : Regrown, w'' = grow (redrawn wr p.d) p.os := fun dd os => Calls.regrown_of (by
        have := l9Node_any j c (some ⟨b, off, none⟩) (ms.take j) ok op oq (grow (redrawn wr dd) os) (by omega) HO.out (((HC.out.below hbel (Nat.le_refl _)).below (below_regrown wr dd os) (Nat.le_refl _)).take hj)
        rw [HC1.out] at this
        exact this)
      have hki : (j : Int) < (n : Int) := by omega
      have hkc : (j : Int) ≤ (c : Int) := by omega
      have hkc2 : j ≤ c := by omega
      clear ho p0 d0 hnx htk hc1 x0 x1 x2
      by_cases hz : c1 = 0
      · subst hz
        have HNEXT : Hid (r = treeG (ms.take (j + 1)) (ms.drop (j + 1))) := by show _ = _; rw [HT.out, HNX.out, HTK.out, treeG, if_neg (by rw [HC1.out]; simp)]
        have HO2 : Hid (HtOk (ms.take (j + 1))) := by show HtOk _; rw [HTK.out]; exact HO.out.more (nodeR_ht HC1.out)
        go_wp2_with fail
        refine wp_region_quiet_below hmix (by kernel_rfl) ?_
        repeat (go_big_quiet_step (first | exact cN _ _))
        refine wpQuiet_nil ?_
        intro _ hw'
        obtain ⟨⟨dq, osq⟩, hw''⟩ := hw'
        subst hw''
        go_wp2
        go_roundw
        case rel => exact ⟨j + 1, by omega, by go_num, hbel.trans ((below_regrown wr dq osq).mono hbel.size), HNEXT, HO2⟩
        case measure => simp [intOf]; omega
      · obtain rfl : r = c1 := by rw [HT.out, HNX.out, treeG, if_pos (by rw [HC1.out]; exact hz), HC1.out]
        have hzn : (r != 0) = true := by simpa using hz
        go_wp2_with fail
        refine wp_region_quiet_below hmix (by kernel_rfl) ?_
        repeat (go_big_quiet_step (first | exact cN _ _))
        refine wpQuiet_nil ?_
        intro _ hw'
        obtain ⟨⟨dq, osq⟩, hw''⟩ := hw'
        subst hw''
        go_wp2
        go_ret
        exact ⟨rfl, hbel.trans ((below_regrown wr dq osq).mono hbel.size)⟩
    · obtain rfl : r = 0 := by rw [HT.out, List.drop_of_length_le (by rw [HN.out]; omega)]; rfl
      have hki : ¬ (j : Int) < (n : Int) := by omega
      go_wp2
      go_ret
      exact ⟨rfl, hbel⟩

end Go.Proofs.Ytglpbkicmpmepaa
