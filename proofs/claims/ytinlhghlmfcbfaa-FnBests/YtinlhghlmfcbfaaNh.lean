/- Nodes of numbers, all of them; ForkOf: the program's. -/
import Derived.Test.YtinlhghlmfcbfaaNg
import Derived.Test.YtinlhghlmfcbfaaSignsOf
namespace Go.Proofs.Ytinlhghlmfcbfaa
open Go.RowKit Go.Maps Go.WideMaps

def blkOf (ms : List Mb) (bs : List Nat) (x : Int) : Nat := bs.getD (nAt ms x).toNat 0
theorem ptr_blk {ms : List Mb} {bs : List Nat} {x : Int} (h : 0 ≤ nAt ms x) : ptrOf ms bs x = .pointer (some ⟨blkOf ms bs x, 0, none⟩) := by unfold ptrOf ptB blkOf; rw [if_neg (by omega)]
/-- Whether all numbers are in the tree. -/
def foundB (ms : List Mb) (l : List Int) : Bool := l.all fun x => decide (0 ≤ nAt ms x)
def foundC (ms : List Mb) (l : List Int) : Int := if foundB ms l = true then 0 else 4
def FoundO (w' : World) (lo : Nat) (ms : List Mb) (bs : List Nat) (l : List Int) (va : Option Addr) (k vc n : Nat) : Prop := foundB ms l = true → k = n ∧ w'.ownsRow lo 50 1 (.slice va k vc) k ((l.map (blkOf ms bs)).map ptB)
theorem FoundO.none {w' : World} {lo k vc n : Nat} {ms : List Mb} {bs : List Nat} {l : List Int} {va : Option Addr} (h : foundB ms l = false) : FoundO w' lo ms bs l va k vc n := fun e => by rw [h] at e; cases e
def FineI (l : List Int) : Prop := ∀ j, (Lit.int .i64 (l.getD j 0)).wf = true
theorem found_take {ms : List Mb} {l : List Int} {j : Nat} (hj : j < l.length) (h : foundB ms (l.take j) = true) (h2 : 0 ≤ nAt ms (l.getD j 0)) : foundB ms (l.take (j + 1)) = true := by
  unfold foundB at *
  rw [List.take_add_one, List.all_append, h]
  simp [List.getD, hj] at h2 ⊢
  exact h2
theorem found_not {ms : List Mb} {l : List Int} {j : Nat} (hj : j < l.length) (h2 : nAt ms (l.getD j 0) < 0) : foundB ms l = false := by
  unfold foundB
  rw [List.all_eq_false]
  exact ⟨l[j], List.getElem_mem hj, by simp [List.getD, hj] at h2; simp; omega⟩

set_option maxRecDepth 20000 in
set_option maxHeartbeats 2000000 in
theorem findAll_any (lo G B : Nat) (s : Value) (ms : List Mb) (bs : List Nat) (l : List Int) (a : Option Addr) (n c : Nat) (w : World) (hI : IAt w a n l) (hF : FineI l) (hn : n ≤ 1000) (hG : Gv w lo G B s ms bs) :
    Calls Try.prog 20 #[.pointer (some ⟨G, 0, none⟩), .slice a n c] w fun e w' => ∃ va k vc, e = .returned (.tuple #[.slice va k vc, .int .i64 (foundC ms l)]) ∧ Below w.heap.size w w' ∧ Hid (FoundO w' w.heap.size ms bs l va k vc n) := by
  have HI : Hid (IAt w a n l) := hI
  have HN : Hid (l.length = n) := hI.1
  have HFI : Hid (FineI l) := hF
  have HG : Hid (Gv w lo G B s ms bs) := hG
  obtain ⟨r, hr⟩ : ∃ r, r = foundC ms l := ⟨_, rfl⟩
  rw [← hr]
  have HR : Hid (r = foundC ms l) := hr
  clear hI hr hF hG
  go_enter Try.func20, Try.ntmps20
  go_wp2
  go_loopw [6, 12] (fun v i wr => ∃ j : Nat, j ≤ n ∧ i = .int .i64 j ∧ Below w.heap.size w wr ∧ Hid (foundB ms (l.take j) = true) ∧ ∃ va vc, v = .slice va j vc ∧ Hid (wr.ownsRow w.heap.size 50 1 (.slice va j vc) j (((l.take j).map (blkOf ms bs)).map ptB))) (fun _ i _ => n - (intOf i).toNat)
  case atStart => exact ⟨0, Nat.zero_le _, rfl, Below.refl _ _, rfl, none, 0, rfl, ⟨rfl, .inl ⟨rfl, rfl⟩⟩⟩
  case round =>
    obtain ⟨j, hj, rfl, hbel, HA, va, vc, rfl, HO⟩ := hrel
    by_cases hlt : j < n
    · rcases HI.out.2 with h0 | ⟨b, off, e0, l0, d0⟩
      · omega
      subst e0
      obtain ⟨x, hx⟩ : ∃ x, x = l.getD j 0 := ⟨_, rfl⟩
      have p0 := d0 j hlt
      rw [← hx] at p0
      have x0 := (hbel.cell (p := ⟨b, off + j, none⟩) l0).trans p0
      have hwf := HFI.out j
      rw [← hx] at hwf
      have HX : Hid (x = l.getD j 0) := hx
      have HTS : Hid (((l.take (j + 1)).map (blkOf ms bs)) = ((l.take j).map (blkOf ms bs)) ++ [blkOf ms bs x]) := by
        show _ = _
        have hj2 : j < l.length := by rw [HN.out]; exact hlt
        rw [List.take_add_one, List.map_append, hx]
        simp [List.getD, hj2]
      have hki : (j : Int) < (n : Int) := by omega
      have hGr := HG.out.below hbel
      by_cases hneg : nAt ms x < 0
      · have hf := find_ptr hwf hGr (ptrOf_none hneg)
        have hfb := found_not (show j < l.length by rw [HN.out]; exact hlt) (by rw [← hx]; exact hneg)
        obtain rfl : r = 4 := by rw [HR.out]; unfold foundC; rw [hfb]; simp
        have HFB : Hid (foundB ms l = false) := hfb
        clear hx p0 d0 hwf hGr hneg hfb
        go_wp2_with (go_at_call 23; (with_reducible refine hf.mono ?_); clear hf; rintro e w' ⟨rfl, hw⟩; have hw2 := hw.symm; subst hw2)
        exact bodyPost_ret (v := .tuple #[.slice none 0 0, .int .i64 4]) (by simp [results, Try.results20, go_sem]) rfl ⟨none, 0, 0, rfl, hbel, FoundO.none HFB.out⟩
      · have hf := find_ptr hwf hGr (ptr_blk (by omega))
        have HA2 : Hid (foundB ms (l.take (j + 1)) = true) := found_take (by rw [HN.out]; exact hlt) HA.out (by rw [← hx]; omega)
        have hsz := hbel.size
        obtain ⟨X, hX⟩ : ∃ X, X = blkOf ms bs x := ⟨_, rfl⟩
        rw [← hX] at hf
        obtain ⟨g5, cap, w5, hrun, HC5⟩ := ptr_added (X := X) (Y := wr.heap.size) (HO.out.alloc (.cells #[.pointer (some ⟨X, 0, none⟩)] 50)) (heap_alloc_new _ _) (by omega) (by simp; omega)
        have HB5 : Hid (Below w.heap.size w w5) := (hbel.trans ((below_box _).mono hbel.size)).grown HC5.out.2 (by simp; omega) (fun k hk => (HO.out.lt k hk).1)
        have HXX : Hid (X = blkOf ms bs x) := hX
        clear hx p0 d0 hwf hGr hneg hsz hX
        go_wp2_with (first
          | (go_at_call 23; (with_reducible refine hf.mono ?_); clear hf; rintro e w' ⟨rfl, hw⟩; have hw2 := hw.symm; subst hw2)
          | (at_builtin; go_must (refine wpList_append_runC (by rfl) _ _ _ (by rfl) (by rfl) (by rfl) hrun ?_); clear hrun))
        go_roundw
        case rel => exact ⟨j + 1, by omega, by go_num, HB5.out, HA2, _, _, rfl, by rw [HTS.out, ← HXX.out]; exact HC5.out.1⟩
        case measure => simp [intOf]; omega
    · have hjn : j = n := by omega
      subst hjn
      have HTA : Hid (l.take j = l) := List.take_of_length_le (by rw [HN.out]; omega)
      obtain rfl : r = 0 := by rw [HR.out]; unfold foundC; rw [← HTA.out, if_pos HA.out]
      go_wp2
      exact bodyPost_ret (v := .tuple #[.slice va j vc, .int .i64 0]) (by simp [results, Try.results20, go_sem]) rfl ⟨va, j, vc, rfl, hbel, fun _ => ⟨rfl, by have := HO.out; rw [HTA.out] at this; exact this⟩⟩

end Go.Proofs.Ytinlhghlmfcbfaa
