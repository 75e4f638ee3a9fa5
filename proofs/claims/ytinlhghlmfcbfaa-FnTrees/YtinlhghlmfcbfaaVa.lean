/- A list of numbers is turned round: slices.Reverse. -/
import Derived.Test.YtinlhghlmfcbfaaEf
import Derived.BigRegion
namespace Go.Proofs.Ytinlhghlmfcbfaa
open Go.RowKit Go.Maps Go.WideMaps

/-- What stands behind k rounds. -/
def RevK (l xs : List Int) (k : Nat) : Prop := xs.length = l.length ∧ ∀ t, t < l.length → xs.getD t 0 = if t < k ∨ l.length - k ≤ t then l.getD (l.length - 1 - t) 0 else l.getD t 0
theorem RevK.start (l : List Int) : RevK l l 0 := ⟨rfl, fun t ht => by rw [if_neg (by omega)]⟩
theorem getD_ext {l m : List Int} (h : l.length = m.length) (h2 : ∀ t, t < l.length → l.getD t 0 = m.getD t 0) : l = m := by
  refine List.ext_getElem h fun i h1 h3 => ?_
  have := h2 i h1
  simpa [List.getD, h1, h3] using this
theorem RevK.done {l xs : List Int} {k : Nat} (h : RevK l xs k) (hk : l.length ≤ 2 * k + 1) (h2 : 2 * k ≤ l.length) : xs = l.reverse := by
  refine getD_ext (by rw [List.length_reverse]; exact h.1) fun t ht => ?_
  rw [h.1] at ht
  rw [h.2 t ht]
  have e : l.reverse.getD t 0 = l.getD (l.length - 1 - t) 0 := by simp [List.getD, List.getElem?_reverse ht]
  rw [e]
  by_cases q : t < k ∨ l.length - k ≤ t
  · rw [if_pos q]
  · rw [if_neg q]
    congr 1
    omega
theorem RevK.next {l xs : List Int} {k : Nat} (h : RevK l xs k) (hk : 2 * k + 1 < l.length) : RevK l ((xs.set k (xs.getD (l.length - 1 - k) 0)).set (l.length - 1 - k) (xs.getD k 0)) (k + 1) := by
  refine ⟨by simpa using h.1, fun t ht => ?_⟩
  have h1 := h.1
  have a1 := h.2 k (by omega)
  have a2 := h.2 (l.length - 1 - k) (by omega)
  rw [if_neg (by omega)] at a1 a2
  by_cases e1 : t = l.length - 1 - k
  · subst e1
    rw [if_pos (by omega)]
    have : l.length - 1 - (l.length - 1 - k) = k := by omega
    rw [this, ← a1]
    rw [List.getD, List.getElem?_set_self (by simp; omega)]
    rfl
  · by_cases e2 : t = k
    · subst e2
      rw [if_pos (by omega), ← a2]
      simp [List.getD, List.getElem?_set_ne (Ne.symm e1), List.getElem?_set_self (show t < xs.length by omega)]
    · have e3 : ((xs.set k (xs.getD (l.length - 1 - k) 0)).set (l.length - 1 - k) (xs.getD k 0)).getD t 0 = xs.getD t 0 := by
        simp [List.getD, List.getElem?_set_ne (Ne.symm e1), List.getElem?_set_ne (Ne.symm e2)]
      rw [e3, h.2 t ht]
      by_cases q : t < k ∨ l.length - k ≤ t
      · rw [if_pos q, if_pos (by omega)]
      · rw [if_neg q, if_neg (by omega)]
theorem ints_set (xs : List Int) (i : Nat) (v : Int) : ints (xs.set i v) = (ints xs).set i (.int .i64 v) := by simp [ints, List.map_set]

theorem rev_round {wr : World} {lo g n c i j : Nat} {xs : List Int} (h : wr.ownsRow lo 2 1 (.slice (some ⟨g, 0, none⟩) n c) n (ints xs)) (hi : i < n) (hj : j < n) {a b : Int} (ha : a = xs.getD i 0) (hb : b = xs.getD j 0) :
    wr.cell? ⟨g, i, none⟩ = some (.int .i64 a) ∧ wr.cell? ⟨g, j, none⟩ = some (.int .i64 b) ∧ wr.frozen? ⟨g, i, none⟩ = false ∧ wr.frozen? ⟨g, j, none⟩ = false ∧
      Hid (((wr.setCell ⟨g, i, none⟩ (.int .i64 b)).setCell ⟨g, j, none⟩ (.int .i64 a)).ownsRow lo 2 1 (.slice (some ⟨g, 0, none⟩) n c) n (ints ((xs.set i b).set j a))) := by
  have hl : xs.length = n := by have := h.1; simpa [ints] using this
  have e1 : (ints xs)[i]? = some (.int .i64 a) := by rw [ha]; simp [ints, List.getD, show i < xs.length by omega]
  have e2 : (ints xs)[j]? = some (.int .i64 b) := by rw [hb]; simp [ints, List.getD, show j < xs.length by omega]
  refine ⟨(h.cellAt i (by omega)).trans e1, (h.cellAt j (by omega)).trans e2, h.frozenAt _, h.frozenAt _, ?_⟩
  show World.ownsRow _ _ _ _ _ _ _
  rw [ints_set, ints_set]
  exact (((h.stored i (.int .i64 b)).1).stored j (.int .i64 a)).1

set_option maxRecDepth 20000 in
set_option maxHeartbeats 2000000 in
theorem reverse_any (lo g n c : Nat) (l : List Int) (w : World) (hn : n ≤ 1000) (h : w.ownsRow lo 2 1 (.slice (some ⟨g, 0, none⟩) n c) n (ints l)) :
    Calls Try.prog 39 #[.slice (some ⟨g, 0, none⟩) n c] w fun e w' => e = .returned (.tuple #[]) ∧ w'.ownsRow lo 2 1 (.slice (some ⟨g, 0, none⟩) n c) n (ints l.reverse) ∧ Below g w w' := by
  have hl : l.length = n := by have := h.1; simpa [ints] using this
  have HL : Hid (l.length = n) := hl
  have HO : Hid (w.ownsRow lo 2 1 (.slice (some ⟨g, 0, none⟩) n c) n (ints l)) := h
  clear h hl
  go_enter Try.func39, Try.ntmps39
  go_wp2
  go_loopw [2, 3] (fun i j wr => ∃ k : Nat, 2 * k ≤ n ∧ i = .int .i64 k ∧ j = .int .i64 ((n : Int) - 1 - k) ∧ Hid (Below g w wr) ∧ Hid (∃ xs, RevK l xs k ∧ wr.ownsRow lo 2 1 (.slice (some ⟨g, 0, none⟩) n c) n (ints xs))) (fun i _ _ => n - (intOf i).toNat)
  case atStart => exact ⟨0, by omega, rfl, by simp, Below.refl _ _, l, RevK.start l, HO.out⟩
  case round =>
    obtain ⟨k, hk, rfl, rfl, HB, HX⟩ := hrel
    by_cases hlt : 2 * k + 1 < n
    · obtain ⟨xs, hR, hrow⟩ := HX.out
      obtain ⟨j, hj⟩ : ∃ j, j = n - 1 - k := ⟨_, rfl⟩
      have hjI : (n : Int) - 1 - k = (j : Int) := by omega
      obtain ⟨a, ha⟩ : ∃ a, a = xs.getD k 0 := ⟨_, rfl⟩
      obtain ⟨b, hb⟩ : ∃ b, b = xs.getD j 0 := ⟨_, rfl⟩
      obtain ⟨c0, c1, f0, f1, HR2⟩ := rev_round hrow (show k < n by omega) (show j < n by omega) ha hb
      have HRK : Hid (RevK l ((xs.set k b).set j a) (k + 1)) := by
        have := hR.next (by rw [HL.out]; exact hlt)
        rw [HL.out, ← hj, ← ha, ← hb] at this
        exact this
      have hkj : (k : Int) < (j : Int) := by omega
      have hkn : (k : Int) < (n : Int) := by omega
      have hjn : (j : Int) < (n : Int) := by omega
      have hne : k ≠ j := by omega
      rw [hjI]
      have HJ : Hid (j = n - 1 - k) := hj
      clear ha hb hR hrow hj hjI
      go_wp2
      go_big_region
      go_wp2
      go_roundw
      case rel => exact ⟨k + 1, by omega, by go_num, by have := HJ.out; simp; omega, ((HB.out.setCell (p := ⟨g, k, none⟩) (Nat.le_refl _) _).setCell (p := ⟨g, j, none⟩) (Nat.le_refl _) _).drew, _, HRK.out, HR2.out.drew⟩
      case measure => simp [intOf]; omega
    · have hk2 : n ≤ 2 * k + 1 := by omega
      have hge : ¬ (k : Int) < (n : Int) - 1 - k := by omega
      go_wp2
      go_end0
      obtain ⟨xs, hR, hrow⟩ := HX.out
      rw [hR.done (by rw [HL.out]; exact hk2) (by rw [HL.out]; exact hk)] at hrow
      exact ⟨rfl, hrow, HB.out⟩

end Go.Proofs.Ytinlhghlmfcbfaa
