/- The program's grove is planted out of a tree; the fault of a tree: the program's. -/
import Derived.Test.YtglpbkicmpmepaaNd
namespace Go.Proofs.Ytglpbkicmpmepaa
open Go.RowKit Go.Maps Go.WideMaps

theorem addR_lt {ms : List Mb} {id pv h : Int} (hl : ms.length < 60) : addR ms id pv h = nodeR ms id pv h := by
  unfold addR
  by_cases e : nodeR ms id pv h ≠ 0
  · rw [if_pos e]
  · rw [if_neg e, if_neg (by omega)]; simpa using (Decidable.not_not.1 e).symm

/-- What is planted: nothing where there is a fault, else the grove. -/
def PlO (w' : World) (lo : Nat) (ms : List Mb) (p : Option Addr) : Prop := (treeR ms ≠ 0 → p = none) ∧ (treeR ms = 0 → ∃ G B s bs, p = some ⟨G, 0, none⟩ ∧ Gv w' lo G B s ms bs)
theorem PlO.bad {w' : World} {lo : Nat} {ms : List Mb} (h : treeR ms ≠ 0) : PlO w' lo ms none := ⟨fun _ => rfl, fun e => absurd e h⟩

set_option maxRecDepth 20000 in
set_option maxHeartbeats 2000000 in
theorem plant_any (n c : Nat) (a : Option Addr) (ms : List Mb) (w : World) (hC : MAt w a n ms) (hF : FineN ms) (hcn : n ≤ maxLen) :
    Calls Try.prog 23 #[.slice a n c] w fun e w' => ∃ p, e = .returned (.tuple #[.pointer p, .int .i64 (treeR ms)]) ∧ Below w.heap.size w w' ∧ Hid (PlO w' w.heap.size ms p) := by
  have HC : Hid (MAt w a n ms) := hC
  have HN : Hid (ms.length = n) := hC.1
  have HFN : Hid (FineN ms) := hF
  have hmm := @run_makeMap Try.prog
  unfold maxLen at hcn
  obtain ⟨r, hr⟩ : ∃ r, r = treeR ms := ⟨_, rfl⟩
  rw [← hr]
  have HR : Hid (r = treeR ms) := hr
  clear hC hr hF
  by_cases h60 : 60 < n
  · obtain rfl : r = 2 := by rw [HR.out]; unfold treeR; rw [if_pos (by rw [HN.out]; exact h60)]
    have hki : (60 : Int) < (n : Int) := by omega
    go_enter Try.func23, Try.ntmps23
    go_wp2
    exact bodyPost_ret (v := .tuple #[.pointer none, .int .i64 2]) (by simp [results, Try.results23, go_sem]) rfl ⟨none, rfl, Below.refl _ _, PlO.bad (by rw [← HR.out]; simp)⟩
  have HG : Hid (r = treeG [] ms) := by show _ = _; rw [HR.out]; unfold treeR; rw [if_neg (by rw [HN.out]; exact h60)]
  have hk6 : ¬ (60 : Int) < (n : Int) := by omega
  have HP0 : Hid (Gv ((w.alloc (.map #[] 0)).alloc (.cells #[.slice none 0 0, .map (some w.heap.size)] 86)) w.heap.size (w.heap.size + 1) w.heap.size (.slice none 0 0) [] []) := by
    refine ⟨?_, ⟨rfl, .inl ⟨rfl, rfl⟩⟩, (Gm.made w).kept (World.grownBy_alloc _ _ none) (by simp), rfl, fun j hj => by simp at hj, fun i j _ hj => by simp at hj, by omega, Nat.le_refl _⟩
    have := heap_alloc_new (w.alloc (.map #[] 0)) (.cells #[.slice none 0 0, .map (some w.heap.size)] 86)
    simpa using this
  have HB0 : Hid (Below w.heap.size w ((w.alloc (.map #[] 0)).alloc (.cells #[.slice none 0 0, .map (some w.heap.size)] 86))) := below_box2 _ _
  go_enter Try.func23, Try.ntmps23
  go_wp2
  go_loopw [16] (fun i wr => ∃ j : Nat, j ≤ n ∧ i = .int .i64 j ∧ Below w.heap.size w wr ∧ Hid (r = treeG (ms.take j) (ms.drop j)) ∧ Hid (treeR (ms.take j) = 0) ∧ Hid (∃ s bs, Gv wr w.heap.size (w.heap.size + 1) w.heap.size s (ms.take j) bs)) (fun i _ => n - (intOf i).toNat)
  case atStart => exact ⟨0, Nat.zero_le _, rfl, HB0.out, by show _ = _; simpa using HG.out, rfl, _, _, HP0.out⟩
  case round =>
    obtain ⟨j, hj, rfl, hbel, HT, HZ, HV⟩ := hrel
    by_cases hlt : j < n
    · rcases HC.out.2 with h0 | ⟨b, off, e0, l0, d0⟩
      · omega
      subst e0
      obtain ⟨o, ho⟩ : ∃ o, o = ms.getD j Z3 := ⟨_, rfl⟩
      have p0 := d0 j hlt
      rw [← ho] at p0
      obtain ⟨hnx, htk⟩ := next_nd HN.out hlt ho
      have HNX : Hid (ms.drop j = o :: ms.drop (j + 1)) := hnx
      have HTK : Hid (ms.take (j + 1) = ms.take j ++ [o]) := htk
      have hwf := (HFN.out j).2.1
      rw [← ho] at hwf
      have hl60 : (ms.take j).length < 60 := by rw [List.length_take, HN.out]; omega
      obtain ⟨c1, hc1⟩ : ∃ x, x = nodeR (ms.take j) o.1 o.2.1 o.2.2 := ⟨_, rfl⟩
      have HC1 : Hid (nodeR (ms.take j) o.1 o.2.1 o.2.2 = c1) := hc1.symm
      obtain ⟨ok, op, oq⟩ := o
      have hA := addR_lt (id := ok) (pv := op) (h := oq) hl60
      have HAR : Hid (addR (ms.take j) ok op oq = c1) := hA.trans HC1.out
      have x0 := (hbel.cell (p := ⟨b, off + j * 3, none⟩) l0).trans p0.1
      have x1 := (hbel.cell (p := ⟨b, off + j * 3 + 1, none⟩) l0).trans p0.2.1
      have x2 := (hbel.cell (p := ⟨b, off + j * 3 + 2, none⟩) l0).trans p0.2.2
      simp only at x0 x1 x2 hwf
      obtain ⟨s, bs, hGv⟩ := HV.out
      have hadd := add_any w.heap.size (w.heap.size + 1) w.heap.size s (ms.take j) bs ok op oq (wr.alloc (.cells #[.int .i64 ok, .int .i64 op, .int .i64 oq] 53)) HZ.out hwf (by have := hbel.size; simp; omega) (hGv.below (below_box _))
      rw [HAR.out] at hadd
      have HB1 : Hid (Below w.heap.size w (wr.alloc (.cells #[.int .i64 ok, .int .i64 op, .int .i64 oq] 53))) := hbel.trans ((below_box _).mono hbel.size)
      have hki : (j : Int) < (n : Int) := by omega
      clear ho p0 d0 hnx htk hc1 hA hl60 hGv hwf
      by_cases hz : c1 = 0
      · subst hz
        have HNEXT : Hid (r = treeG (ms.take (j + 1)) (ms.drop (j + 1))) := by show _ = _; rw [HT.out, HNX.out, HTK.out, treeG, if_neg (by rw [HC1.out]; simp)]
        go_wp2_with (go_at_call 42; (with_reducible refine hadd.mono ?_); clear hadd; rintro e w2 ⟨rfl, hb2, HA2, _⟩)
        go_roundw
        case rel =>
          obtain ⟨t1, t2⟩ := HA2.out HAR.out
          rw [← HTK.out] at t1 t2
          exact ⟨j + 1, by omega, by go_num, HB1.out.trans hb2, HNEXT, t1, t2⟩
        case measure => simp [intOf]; omega
      · obtain rfl : r = c1 := by rw [HT.out, HNX.out, treeG, if_pos (by rw [HC1.out]; exact hz), HC1.out]
        have hzn : (r != 0) = true := by simpa using hz
        go_wp2_with (go_at_call 42; (with_reducible refine hadd.mono ?_); clear hadd; rintro e w2 ⟨rfl, hb2, HA2, _⟩)
        exact bodyPost_ret (v := .tuple #[.pointer none, .int .i64 r]) (by simp [results, Try.results23, go_sem]) rfl ⟨none, rfl, HB1.out.trans hb2, PlO.bad (by rw [← HR.out]; exact hz)⟩
    · have HTA : Hid (ms.take j = ms) := List.take_of_length_le (by rw [HN.out]; omega)
      obtain rfl : r = 0 := by rw [HT.out, List.drop_of_length_le (by rw [HN.out]; omega)]; rfl
      have hki : ¬ (j : Int) < (n : Int) := by omega
      go_wp2
      exact bodyPost_ret (v := .tuple #[.pointer (some ⟨w.heap.size + 1, 0, none⟩), .int .i64 0]) (by simp [results, Try.results23, go_sem]) rfl ⟨_, rfl, hbel, fun q => absurd HR.out.symm q, fun _ => by
        obtain ⟨s, bs, hV⟩ := HV.out
        rw [HTA.out] at hV
        exact ⟨_, _, s, bs, rfl, hV⟩⟩

end Go.Proofs.Ytglpbkicmpmepaa
