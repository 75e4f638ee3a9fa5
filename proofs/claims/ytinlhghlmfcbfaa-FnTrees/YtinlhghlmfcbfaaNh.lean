/- Nodes of numbers, all of them; ForkOf: the program's. -/
import Derived.Test.YtinlhghlmfcbfaaNg
import Derived.Test.YtinlhghlmfcbfaaSignsOf
namespace Go.Proofs.Ytinlhghlmfcbfaa
open Go.RowKit Go.Maps Go.WideMaps

theorem kept_two {w : World} {g b i : Nat} {u v0 v1 : Value} (h : w.cell? ⟨g, i, none⟩ = some u) (hne : g ≠ b) : (((w.setCell ⟨b, 0, none⟩ v0).setCell ⟨b, 1, none⟩ v1).drew).cell? ⟨g, i, none⟩ = some u := by
  have e : (((w.setCell ⟨b, 0, none⟩ v0).setCell ⟨b, 1, none⟩ v1).drew).heap[g]? = w.heap[g]? := (Below.heap_setCell _ ⟨b, 1, none⟩ v1 g hne).trans (Below.heap_setCell _ ⟨b, 0, none⟩ v0 g hne)
  unfold World.cell? at h ⊢
  rw [e]
  exact h
theorem kept_twoS {w : World} {g b i : Nat} {u v0 v1 : Value} (h : w.cell? ⟨g, i, none⟩ = some u) (hne : g ≠ b) : ((w.drew.setCell ⟨b, 0, none⟩ v0).setCell ⟨b, 1, none⟩ v1).cell? ⟨g, i, none⟩ = some u := by
  have e : ((w.drew.setCell ⟨b, 0, none⟩ v0).setCell ⟨b, 1, none⟩ v1).heap[g]? = w.heap[g]? := (Below.heap_setCell _ ⟨b, 1, none⟩ v1 g hne).trans (Below.heap_setCell _ ⟨b, 0, none⟩ v0 g hne)
  unfold World.cell? at h ⊢
  rw [e]
  exact h
def blkOf (ms : List Mb) (bs : List Nat) (x : Int) : Nat := bs.getD (nAt ms x).toNat 0
theorem ptr_blk {ms : List Mb} {bs : List Nat} {x : Int} (h : 0 ≤ nAt ms x) : ptrOf ms bs x = .pointer (some ⟨blkOf ms bs x, 0, none⟩) := by unfold ptrOf ptB blkOf; rw [if_neg (by omega)]
/-- Whether all numbers are in the tree. -/
def foundB (ms : List Mb) (l : List Int) : Bool := l.all fun x => decide (0 ≤ nAt ms x)
def foundC (ms : List Mb) (l : List Int) : Int := if foundB ms l = true then 0 else 4
def FoundO (w' : World) (lo : Nat) (ms : List Mb) (bs : List Nat) (l : List Int) (va : Option Addr) (k vc n : Nat) : Prop := foundB ms l = true → k = n ∧ w'.ownsRow lo 50 1 (.slice va k vc) k ((l.map (blkOf ms bs)).map ptB)
theorem FoundO.none {w' : World} {lo k vc n : Nat} {ms : List Mb} {bs : List Nat} {l : List Int} {va : Option Addr} (h : foundB ms l = false) : FoundO w' lo ms bs l va k vc n := fun e => by rw [h] at e; cases e
def FineI (l : List Int) : Prop := ∀ j, (Lit.int .i64 (l.getD j 0)).wf = true
theorem found_take {ms : List Mb} {l : List Int} {j : Nat} (hj : j < l.length) (h : foundB ms (l.take j) = true) (h2 : 0 ≤ nAt ms (l.getD j 0)) : foundB ms (l.take (j + 1)) = true := by
  unfold foundB at *
  rw [List.take_add_one, List.all_append, h]
  simp [List.getD, hj] at h2 ⊢
  exact h2
theorem found_not {ms : List Mb} {l : List Int} {j : Nat} (hj : j < l.length) (h2 : nAt ms (l.getD j 0) < 0) : foundB ms l = false := by
  unfold foundB
  rw [List.all_eq_false]
  exact ⟨l[j], List.getElem_mem hj, by simp [List.getD, hj] at h2; simp; omega⟩

set_option maxRecDepth 20000 in
set_option maxHeartbeats 2000000 in
theorem findAll_any (lo G B : Nat) (s : Value) (ms : List Mb) (bs : List Nat) (l : List Int) (a : Option Addr) (n c : Nat) (w : World) (hI : IAt w a n l) (hF : FineI l) (hn : n ≤ 1000) (hG : Gv w lo G B s ms bs) :
    Calls Try.prog 20 #[.pointer (some ⟨G, 0, none⟩), .slice a n c] w fun e w' => ∃ va k vc, e = .returned (.tuple #[.slice va k vc, .int .i64 (foundC ms l)]) ∧ Below w.heap.size w w' ∧ Hid (FoundO w' w.heap.size ms bs l va k vc n) := by
  have HI : Hid (IAt w a n l) := hI
  have HN : Hid (l.length = n) := hI.1
  have HFI : Hid (FineI l) := hF
  have HG : Hid (Gv w lo G B s ms bs) := hG
  obtain ⟨r, hr⟩ : ∃ r, r = foundC ms l := ⟨_, rfl⟩
  rw [← hr]
  have HR : Hid (r = foundC ms l) := hr
  clear hI hr hF hG
  go_enter Try.func20, Try.ntmps20
  go_wp2
  go_loopw [6, 12] (fun v i wr => ∃ j : Nat, j ≤ n ∧ i = .int .i64 j ∧ Below w.heap.size w wr ∧ Hid (foundB ms (l.take j) = true) ∧ ∃ va vc, v = .slice va j vc ∧ Hid (wr.ownsRow w.heap.size 50 1 (.slice va j vc) j (((l.take j).map (blkOf ms bs)).map ptB))) (fun _ i _ => n - (intOf i).toNat)
  case atStart => exact ⟨0, Nat.zero_le _, rfl, Below.refl _ _, rfl, none, 0, rfl, ⟨rfl, .inl ⟨rfl, rfl⟩⟩⟩
  case round =>
    obtain ⟨j, hj, rfl, hbel, HA, va, vc, rfl, HO⟩ := hrel
    by_cases hlt : j < n
    · rcases HI.out.2 with h0 | ⟨b, off, e0, l0, d0⟩
      · omega
      subst e0
      obtain ⟨x, hx⟩ : ∃ x, x = l.getD j 0 := ⟨_, rfl⟩
      have p0 := d0 j hlt
      rw [← hx] at p0
      have x0 := (hbel.cell (p := ⟨b, off + j, none⟩) l0).trans p0
      have hwf := HFI.out j
      rw [← hx] at hwf
      have HX : Hid (x = l.getD j 0) := hx
      have HTS : Hid (((l.take (j + 1)).map (blkOf ms bs)) = ((l.take j).map (blkOf ms bs)) ++ [blkOf ms bs x]) := by
        show _ = _
        have hj2 : j < l.length := by rw [HN.out]; exact hlt
        rw [List.take_add_one, List.map_append, hx]
        simp [List.getD, hj2]
      have hki : (j : Int) < (n : Int) := by omega
      have hGr := HG.out.below hbel
      by_cases hneg : nAt ms x < 0
      · have hf := find_ptr hwf hGr (ptrOf_none hneg)
        have hfb := found_not (show j < l.length by rw [HN.out]; exact hlt) (by rw [← hx]; exact hneg)
        obtain rfl : r = 4 := by rw [HR.out]; unfold foundC; rw [hfb]; simp
        have HFB : Hid (foundB ms l = false) := hfb
        clear hx p0 d0 hwf hGr hneg hfb
        go_wp2_with (go_at_call 23; (with_reducible refine hf.mono ?_); clear hf; rintro e w' ⟨rfl, hw⟩; have hw2 := hw.symm; subst hw2)
        exact bodyPost_ret (v := .tuple #[.slice none 0 0, .int .i64 4]) (by simp [results, Try.results20, go_sem]) rfl ⟨none, 0, 0, rfl, hbel, FoundO.none HFB.out⟩
      · have hf := find_ptr hwf hGr (ptr_blk (by omega))
        have HA2 : Hid (foundB ms (l.take (j + 1)) = true) := found_take (by rw [HN.out]; exact hlt) HA.out (by rw [← hx]; omega)
        have hsz := hbel.size
        obtain ⟨X, hX⟩ : ∃ X, X = blkOf ms bs x := ⟨_, rfl⟩
        rw [← hX] at hf
        obtain ⟨g5, cap, w5, hrun, HC5⟩ := ptr_added (X := X) (Y := wr.heap.size) (HO.out.alloc (.cells #[.pointer (some ⟨X, 0, none⟩)] 50)) (heap_alloc_new _ _) (by omega) (by simp; omega)
        have HB5 : Hid (Below w.heap.size w w5) := (hbel.trans ((below_box _).mono hbel.size)).grown HC5.out.2 (by simp; omega) (fun k hk => (HO.out.lt k hk).1)
        have HXX : Hid (X = blkOf ms bs x) := hX
        clear hx p0 d0 hwf hGr hneg hsz hX
        go_wp2_with (first
          | (go_at_call 23; (with_reducible refine hf.mono ?_); clear hf; rintro e w' ⟨rfl, hw⟩; have hw2 := hw.symm; subst hw2)
          | (at_builtin; go_must (refine wpList_append_runC (by rfl) _ _ _ (by rfl) (by rfl) (by rfl) hrun ?_); clear hrun))
        go_roundw
        case rel => exact ⟨j + 1, by omega, by go_num, HB5.out, HA2, _, _, rfl, by rw [HTS.out, ← HXX.out]; exact HC5.out.1⟩
        case measure => simp [intOf]; omega
    · have hjn : j = n := by omega
      subst hjn
      have HTA : Hid (l.take j = l) := List.take_of_length_le (by rw [HN.out]; omega)
      obtain rfl : r = 0 := by rw [HR.out]; unfold foundC; rw [← HTA.out, if_pos HA.out]
      go_wp2
      exact bodyPost_ret (v := .tuple #[.slice va j vc, .int .i64 0]) (by simp [results, Try.results20, go_sem]) rfl ⟨va, j, vc, rfl, hbel, fun _ => ⟨rfl, by have := HO.out; rw [HTA.out] at this; exact this⟩⟩

set_option maxRecDepth 20000 in
set_option maxHeartbeats 4000000 in
theorem iForkOf_any (n c : Nat) (ad : Option Addr) (ms : List Mb) (x y : Int) (w : World) (hC : MAt w ad n ms) (hF : FineN ms) (hx : (Lit.int .i64 x).wf = true) (hy : (Lit.int .i64 y).wf = true) (hcn : n ≤ maxLen) :
    Calls Try.prog 7 #[.slice ad n c, .int .i64 x, .int .i64 y] w fun e w' => e = .returned (.agg #[.int .i64 (forkR ms x y).1, .int .i64 (forkR ms x y).2]) ∧ Below w.heap.size w w' := by
  have hbx : Below w.heap.size w (w.alloc (.cells #[.int .i64 0, .int .i64 0] 28)) := below_box _
  have HBX : Hid (Below w.heap.size w (w.alloc (.cells #[.int .i64 0, .int .i64 0] 28))) := hbx
  have HX : Hid ((w.alloc (.cells #[.int .i64 0, .int .i64 0] 28)).heap[w.heap.size]? = some (.cells #[.int .i64 0, .int .i64 0] 28 (0, 0))) := heap_alloc_new _ _
  have h := plant_any n c ad ms _ (hC.below hbx (Nat.le_refl _)) hF hcn
  obtain ⟨cd, hcd⟩ : ∃ x, x = treeR ms := ⟨_, rfl⟩
  rw [← hcd] at h
  by_cases h0 : cd = 0
  rotate_left
  · have e1 : forkR ms x y = (cd, 0) := by unfold forkR; rw [← hcd, if_pos h0]
    rw [e1]
    have hcn2 : (cd != 0) = true := by simpa using h0
    clear e1 hcd hC hbx hF
    go_enter Try.func7, Try.ntmps7
    go_wp2_with (go_at_call 19; (with_reducible refine h.mono ?_); clear h; rintro e w2 ⟨p, rfl, hb2, _⟩; have HB2 : Hid (Below w.heap.size w w2) := HBX.out.trans (hb2.mono HBX.out.size); have HX2 := keepb HX.out hb2; obtain ⟨x0, x1, f0, f1, _⟩ := res_cells HX2.out (Below.refl w2.heap.size _) (lt_of_block HX2.out); clear hb2)
    obtain ⟨_, s1, s2⟩ := two_set HX2.out (.int .i64 cd) (.int .i64 0)
    exact bodyPost_ret (v := .agg #[.int .i64 cd, .int .i64 0]) (by simp [results, Try.results7, go_sem, s1, s2]) rfl ⟨rfl, two_end HB2.out (Nat.le_refl _) _ _⟩
  have HZ : Hid (treeR ms = 0) := by show _ = _; rw [← hcd]; exact h0
  have HW : Hid ((Lit.int .i64 x).wf = true ∧ (Lit.int .i64 y).wf = true) := ⟨hx, hy⟩
  have HFI : Hid (FineI [x, y]) := fun j => by
    match j with
    | 0 => simpa using hx
    | 1 => simpa using hy
    | j + 2 => simpa using (show (Lit.int .i64 0).wf = true by decide)
  subst h0
  have hFA : ∀ w2 lo G B s bs, Gv w2 lo G B s ms bs → Calls Try.prog 20 #[.pointer (some ⟨G, 0, none⟩), .slice (some ⟨w2.heap.size, 0, none⟩) 2 2] (w2.alloc (.cells #[.int .i64 x, .int .i64 y] 2)) fun e w' => ∃ va k vc, e = .returned (.tuple #[.slice va k vc, .int .i64 (foundC ms [x, y])]) ∧ Below w2.heap.size w2 w' ∧ Hid (FoundO w' w2.heap.size ms bs [x, y] va k vc 2) := fun w2 lo G B s bs hG => by
    refine (findAll_any _ G B s ms bs [x, y] _ 2 2 _ ⟨rfl, .inr ⟨w2.heap.size, 0, rfl, by simp, fun j hj => ?_⟩⟩ HFI.out (by omega) (hG.below (below_box _))).mono ?_
    · have hb := heap_alloc_new w2 (.cells #[.int .i64 x, .int .i64 y] 2)
      match j, hj with
      | 0, _ => unfold World.cell?; rw [hb]; rfl
      | 1, _ => unfold World.cell?; rw [hb]; rfl
    · rintro e w' ⟨va, k, vc, h1, h2, h3⟩
      refine ⟨va, k, vc, h1, (below_box _).trans (h2.mono (by simp)), fun q => ?_⟩
      obtain ⟨e1, e2⟩ := h3.out q
      exact ⟨e1, Joins.ownsRow_le e2 (by simp)⟩
  obtain ⟨fc, hfc⟩ : ∃ z, z = foundC ms [x, y] := ⟨_, rfl⟩
  rw [← hfc] at hFA
  by_cases hfb : foundB ms [x, y] = true
  rotate_left
  · have e1 : forkR ms x y = (4, 0) := by
      unfold forkR
      rw [← hcd, if_neg (by simp), if_pos]
      simp [foundB] at hfb
      by_cases q : 0 ≤ nAt ms x
      · exact .inr (hfb q)
      · exact .inl (by omega)
    obtain rfl : fc = 4 := by rw [hfc]; unfold foundC; rw [if_neg hfb]
    rw [e1]
    clear e1 hcd hC hbx hF hfc hfb
    go_enter Try.func7, Try.ntmps7
    go_wp2_with (first
      | (go_at_call 19; (with_reducible refine h.mono ?_); clear h; rintro e w2 ⟨p, rfl, hb2, HP⟩; obtain ⟨G, B, s, bs, rfl, hG⟩ := HP.out.2 HZ.out; have hfa := hFA w2 _ G B s bs hG; clear hFA hG HP; have HB2 : Hid (Below w.heap.size w w2) := HBX.out.trans (hb2.mono HBX.out.size); have HX2 := keepb HX.out hb2; clear hb2)
      | (go_at_call 20; (with_reducible refine hfa.mono ?_); clear hfa; rintro e w3 ⟨va, k, vc, rfl, hb3, HFO⟩; have HB3 : Hid (Below w.heap.size w w3) := HB2.out.trans (hb3.mono HB2.out.size); have HX3 := keepb HX2.out hb3; obtain ⟨x0, x1, f0, f1, _⟩ := res_cells HX3.out (Below.refl w3.heap.size _) (lt_of_block HX3.out); clear hb3))
    obtain ⟨_, s1, s2⟩ := two_set HX3.out (.int .i64 4) (.int .i64 0)
    exact bodyPost_ret (v := .agg #[.int .i64 4, .int .i64 0]) (by simp [results, Try.results7, go_sem, s1, s2]) rfl ⟨rfl, two_end HB3.out (Nat.le_refl _) _ _⟩
  obtain rfl : fc = 0 := by rw [hfc]; unfold foundC; rw [if_pos hfb]
  have hxy : 0 ≤ nAt ms x ∧ 0 ≤ nAt ms y := by simp [foundB] at hfb; exact ⟨hfb.1, hfb.2⟩
  have HXY : Hid (0 ≤ nAt ms x ∧ 0 ≤ nAt ms y) := hxy
  have HFB : Hid (foundB ms [x, y] = true) := hfb
  obtain ⟨r, hr⟩ : ∃ z, z = forkF ms y (ms.length + 1) x := ⟨_, rfl⟩
  have e1 : forkR ms x y = (0, r) := by unfold forkR; rw [← hcd, if_neg (by simp), if_neg (by omega), hr]
  have HRI : Hid (r = 0 ∨ 0 ≤ nAt ms r) := by rw [hr]; exact fork_in HZ.out y _ x (.inr hxy.1)
  have HR : Hid (r = forkF ms y (ms.length + 1) x) := hr
  rw [e1]
  clear e1 hcd hC hbx hF hfc hfb hr hxy
  go_enter Try.func7, Try.ntmps7
  go_wp2_with (first
    | (go_at_call 19; (with_reducible refine h.mono ?_); clear h; rintro e w2 ⟨p, rfl, hb2, HP⟩; obtain ⟨G, B, s, bs, rfl, hG⟩ := HP.out.2 HZ.out; have hfa := hFA w2 _ G B s bs hG; have HGV : Hid (Gv w2 (w.alloc (.cells #[.int .i64 0, .int .i64 0] 28)).heap.size G B s ms bs) := hG; clear hFA hG HP; have HB2 : Hid (Below w.heap.size w w2) := HBX.out.trans (hb2.mono HBX.out.size); have HX2 := keepb HX.out hb2; clear hb2)
    | (go_at_call 20; (with_reducible refine hfa.mono ?_); clear hfa; rintro e w3 ⟨va, k, vc, rfl, hb3, HFO⟩; obtain ⟨rfl, hrow⟩ := HFO.out HFB.out; clear HFO; have HB3 : Hid (Below w.heap.size w w3) := HB2.out.trans (hb3.mono HB2.out.size); have HX3 := keepb HX2.out hb3; have HG3 := HGV.out.below hb3; obtain ⟨x0, x1, f0, f1, _⟩ := res_cells HX3.out (Below.refl w3.heap.size _) (lt_of_block HX3.out); have hgl := HB2.out.size; clear hb3))
  obtain ⟨g, cap, e⟩ := ownsRow_succ (k := 1) hrow
  cases e
  have hgb := (hrow.lt g rfl).1
  have hs1 := lt_of_block HX2.out
  obtain ⟨X, hX⟩ : ∃ X, X = blkOf ms bs x := ⟨_, rfl⟩
  obtain ⟨Y, hY⟩ : ∃ Y, Y = blkOf ms bs y := ⟨_, rfl⟩
  have g0 : w3.cell? ⟨g, 0, none⟩ = some (.pointer (some ⟨X, 0, none⟩)) := (hrow.cellAt 0 (by omega)).trans (by rw [hX]; rfl)
  have g1 : w3.cell? ⟨g, 1, none⟩ = some (.pointer (some ⟨Y, 0, none⟩)) := (hrow.cellAt 1 (by omega)).trans (by rw [hY]; rfl)
  have hgne : g ≠ w.heap.size := by omega
  have hfw := forkWith_any _ G B s ms bs x y (some ⟨X, 0, none⟩) (some ⟨Y, 0, none⟩) w3.drew HZ.out HG3.drew (by rw [hX]; exact ptr_blk HXY.out.1) (by rw [hY]; exact ptr_blk HXY.out.2) (.inr HXY.out.1)
  rw [← HR.out] at hfw
  have HG4 : Hid (Gv w3.drew (w.alloc (.cells #[.int .i64 0, .int .i64 0] 28)).heap.size G B s ms bs) := HG3.drew
  clear HG3 hX hY hrow hgb hs1 hgl
  go_region_held3 (fun w' => w'.cell? ⟨g, 0, none⟩ = some (.pointer (some ⟨X, 0, none⟩)) ∧ w'.cell? ⟨g, 1, none⟩ = some (.pointer (some ⟨Y, 0, none⟩))) (first | exact ⟨kept_two g0 hgne, kept_two g1 hgne⟩ | exact ⟨kept_twoS g0 hgne, kept_twoS g1 hgne⟩ | go_keep)
    (first | (go_at_call 21; (with_reducible refine hfw.mono ?_); rintro e w' ⟨pq, rfl, hw, HQ⟩; have hw2 := hw.symm; subst hw2; have hnum := number_ptr HG4.out HQ.out HRI.out) | (go_at_call 22; (with_reducible refine hnum.mono ?_); rintro e w' ⟨rfl, hw⟩; have hw2 := hw.symm; subst hw2))
  obtain ⟨_, s1, s2⟩ := two_set HX3.out (.int .i64 0) (.int .i64 r)
  have t1 : (((w3.setCell ⟨w.heap.size, 0, none⟩ (.int .i64 0)).setCell ⟨w.heap.size, 1, none⟩ (.int .i64 r)).drew).cell? ⟨w.heap.size, 1, none⟩ = some (.int .i64 r) := s1
  have t0 : (((w3.setCell ⟨w.heap.size, 0, none⟩ (.int .i64 0)).setCell ⟨w.heap.size, 1, none⟩ (.int .i64 r)).drew).cell? ⟨w.heap.size, 0, none⟩ = some (.int .i64 0) := s2
  clear s1 s2
  go_wp2
  exact bodyPost_ret (v := .agg #[.int .i64 0, .int .i64 r]) (by simp [results, Try.results7, go_sem, t0, t1]) rfl ⟨rfl, (two_end HB3.out (Nat.le_refl _) _ _).drew⟩

end Go.Proofs.Ytinlhghlmfcbfaa
