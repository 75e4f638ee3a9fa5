/- MeetOf: the specification's and the program's. -/
import Derived.Test.YtolpbichkmeaaaaRu
import Derived.Test.YtolpbichkmeaaaaLOwnedBy
namespace Go.Proofs.Ytolpbichkmeaaaa
open Go.RowKit Go.Maps Go.WideMaps

/-- Those of the first k of l that are in t. -/
def selM (l t : List Int) (k : Nat) : List Int := (l.take k).filter (hasK t)
theorem selM_le (l t : List Int) (k : Nat) : (selM l t k).length ≤ k := Nat.le_trans (List.length_filter_le _ _) (by rw [List.length_take]; omega)
theorem selM_hit {l t : List Int} {n k : Nat} {s : Int} (hn : l.length = n) (hlt : k < n) (hs : s = l.getD k 0) (h : hasK t s = true) : selM l t (k + 1) = selM l t k ++ [s] := by
  unfold selM; rw [take_next hn hlt hs, List.filter_append]; simp [h]
theorem selM_miss {l t : List Int} {n k : Nat} {s : Int} (hn : l.length = n) (hlt : k < n) (hs : s = l.getD k 0) (h : hasK t s = false) : selM l t (k + 1) = selM l t k := by
  unfold selM; rw [take_next hn hlt hs, List.filter_append]; simp [h]
def meetR (l t : List Int) : Int × List Int := if 20 < l.length ∨ 20 < t.length then (2, []) else (0, selM l t l.length)

set_option maxRecDepth 20000 in
set_option maxHeartbeats 1000000 in
theorem iMeetOf_any (n c m d : Nat) (a b : Option Addr) (l t : List Int) (w : World) (hn : n ≤ maxLen) (hm : m ≤ maxLen) (hI : IAt w a n l) (hJ : IAt w b m t) :
    Calls Try.prog 21 #[.slice a n c, .slice b m d] w fun e w' => OutI w w' e (meetR l t).1 (meetR l t).2 := by
  have HN : Hid (l.length = n) := hI.1
  have HM : Hid (t.length = m) := hJ.1
  have HM0 : Hid (m ≤ maxLen) := hm
  unfold maxLen at hn hm
  obtain ⟨s0, s1⟩ := cells2 (heap_alloc_new w (.cells #[.int .i64 2, .slice none 0 0] 44))
  by_cases h1 : 20 < n
  · have e : meetR l t = (2, []) := by unfold meetR; rw [if_pos (.inl (by rw [HN.out]; exact h1))]
    rw [e]
    have h1i : (20 : Int) < (n : Int) := by omega
    clear e hI hJ
    go_enter Try.func21, Try.ntmps21
    go_wp2
    exact bodyPost_ret (v := .agg #[.int .i64 2, .slice none 0 0]) (by simp [results, Try.results21, go_sem, s0, s1]) rfl (OutI.empty (below_box _))
  by_cases h2 : 20 < m
  · have e : meetR l t = (2, []) := by unfold meetR; rw [if_pos (.inr (by rw [HM.out]; exact h2))]
    rw [e]
    have h1i : ¬ (20 : Int) < (n : Int) := by omega
    have h2i : (20 : Int) < (m : Int) := by omega
    clear e hI hJ
    go_enter Try.func21, Try.ntmps21
    go_wp2
    exact bodyPost_ret (v := .agg #[.int .i64 2, .slice none 0 0]) (by simp [results, Try.results21, go_sem, s0, s1]) rfl (OutI.empty (below_box _))
  have e : meetR l t = (0, selM l t n) := by unfold meetR; rw [if_neg (by rw [HN.out, HM.out]; omega), HN.out]
  rw [e]
  obtain ⟨W, hW⟩ : ∃ W, W = w.alloc (.cells #[.int .i64 0, .slice none 0 0] 44) := ⟨_, rfl⟩
  have hbx : Below w.heap.size w W := by rw [hW]; exact below_box _
  have HX0 : Hid (W.heap[w.heap.size]? = some (.cells #[.int .i64 0, .slice none 0 0] 44 (0, 0))) := by show _ = _; rw [hW]; exact heap_alloc_new _ _
  have HSI : Hid (IAt W a n l) := hI.below hbx (Nat.le_refl _)
  have HSJ : Hid (IAt W b m t) := hJ.below hbx (Nat.le_refl _)
  have HBX : Hid (Below w.heap.size w W) := hbx
  have HW : Hid (W = w.alloc (.cells #[.int .i64 0, .slice none 0 0] 44)) := hW
  have HWS : Hid (W.heap.size = w.heap.size + 1) := by show _ = _; rw [hW]; simp
  have h1i : ¬ (20 : Int) < (n : Int) := by omega
  have h2i : ¬ (20 : Int) < (m : Int) := by omega
  obtain ⟨i0, hi0, hz0, hz1, hz2⟩ := info_parts Try.infoI64
  clear e hI hJ hbx hW s0 s1
  go_enter Try.func21, Try.ntmps21
  go_wp2
  rw [← HW.out]
  go_loopw [5, 19] (fun v i wr => ∃ k : Nat, k ≤ n ∧ i = .int .i64 k ∧ Hid (Below W.heap.size W wr) ∧ ∃ a cap, v = .slice a (selM l t k).length cap ∧ Hid (wr.ownsRow W.heap.size 2 1 (.slice a (selM l t k).length cap) (selM l t k).length (ints (selM l t k)))) (fun _ i _ => n - (intOf i).toNat)
  case atStart => exact ⟨0, Nat.zero_le _, rfl, Below.refl _ _, none, 0, rfl, World.ownsRow_nil _ _ _ _⟩
  case round =>
    obtain ⟨k, hk, rfl, hbel, ra, rc, rfl, HO⟩ := hrel
    by_cases hlt : k < n
    · rcases HSI.out.2 with h0 | ⟨b0, o0, e0, l0, d0⟩
      · omega
      subst e0
      obtain ⟨s, hs⟩ : ∃ s, s = l.getD k 0 := ⟨_, rfl⟩
      have x0 := (hbel.out.cell (p := ⟨b0, o0 + k, none⟩) l0).trans (d0 k hlt)
      rw [← hs] at x0
      have HS : Hid (s = l.getD k 0) := hs
      obtain ⟨ks, hks⟩ : ∃ z, z = hasK t s := ⟨_, rfl⟩
      have hA := iContains_any b m d t s wr HM0.out (HSJ.out.below hbel.out (Nat.le_refl _))
      rw [← hks] at hA
      have HKS : Hid (ks = hasK t s) := hks
      have hki : (k : Int) < (n : Int) := by omega
      have hsl := selM_le l t k
      have hbsz := hbel.out.size
      clear hs d0 hks
      cases ks
      · have R2 := selM_miss HN.out hlt HS.out HKS.out.symm
        have R3 : Hid (wr.ownsRow W.heap.size 2 1 (.slice ra (selM l t (k + 1)).length rc) (selM l t (k + 1)).length (ints (selM l t (k + 1)))) := by rw [R2]; exact HO.out
        have HR2 : Hid (selM l t (k + 1) = selM l t k) := R2
        clear R2 HO
        go_wp2_with (go_at_call 51; (with_reducible refine hA.mono ?_); clear hA; rintro e w' ⟨rfl, hw⟩; have hw2 := hw.symm; subst hw2)
        go_roundw
        case rel => exact ⟨k + 1, by omega, by go_num, hbel, ra, rc, by rw [HR2.out], R3⟩
        case measure => simp [intOf]; omega
      · go_wp2_with (first
          | (go_at_call 51; (with_reducible refine hA.mono ?_); clear hA; rintro e w' ⟨rfl, hw⟩; have hw2 := hw.symm; subst hw2)
          | (at_builtin; go_must (refine wpList_append_lies _ (by rfl) _ _ 24 (by rfl) W.heap.size 2 i0 (.int .i64 0) 1 8 Try.underlying24 hi0 hz0 hz1 hz2 rfl (by omega) (.slice ra (selM l t k).length rc) (selM l t k).length (ints (selM l t k)) (by rfl) (HO.out.alloc _) ⟨wr.heap.size, 0, none⟩ 1 1 [.int .i64 s] (by rfl) (by rfl) (news1 (by first | exact heap_alloc_at _ _ _ (by simp) | simp)) one1 (by omega) (by unfold maxLen; omega) (by omega) (by simp; omega) (wr.heap.size + 1) (by simp) ?_)))
        intro g cap' w3 ho3 hg3 hat hlt3
        have R1 : Hid (Below W.heap.size W w3) := (hbel.out.alloc (by omega) _).grown hg3 (by simp; omega) (fun j hj => (HO.out.lt j hj).1)
        have R2 := selM_hit HN.out hlt HS.out HKS.out.symm
        have R3 : Hid (w3.ownsRow W.heap.size 2 1 (.slice (some ⟨g, 0, none⟩) (selM l t (k + 1)).length cap') (selM l t (k + 1)).length (ints (selM l t (k + 1)))) := by
          have e1 : (selM l t (k + 1)).length = (selM l t k).length + 1 := by rw [R2]; simp
          have e2 : ints (selM l t (k + 1)) = ints (selM l t k) ++ [.int .i64 s] := by rw [R2]; simp [ints]
          rw [e1, e2]
          exact ho3
        have HR4 : Hid ((selM l t k).length + 1 = (selM l t (k + 1)).length) := by show _ = _; rw [R2]; simp
        clear ho3 hg3 hat HO R2
        go_wp2
        go_roundw
        case rel => exact ⟨k + 1, by omega, by go_num, R1, some ⟨g, 0, none⟩, cap', by rw [← HR4.out], R3⟩
        case measure => simp [intOf]; omega
    · have hkm : k = n := by omega
      subst hkm
      obtain ⟨x0, x1, x2, x3, HX⟩ := res_cells HX0.out hbel.out (by rw [HWS.out]; omega)
      have hki : ¬ (k : Int) < (k : Int) := by omega
      go_wp2
      obtain ⟨s0, s1, s2⟩ := two_set HX.out (.int .i64 0) (.slice ra (selM l t k).length rc)
      have hbw : Below w.heap.size w wr := HBX.out.trans (hbel.out.mono HBX.out.size)
      refine bodyPost_ret (v := .agg #[.int .i64 0, .slice ra (selM l t k).length rc]) (by simp [results, Try.results21, go_sem, s0, s1]) rfl ⟨(hbw.setCell (p := ⟨w.heap.size, 0, none⟩) (Nat.le_refl _) _).setCell (p := ⟨w.heap.size, 1, none⟩) (Nat.le_refl _) _, ra, rc, rfl, ?_⟩
      refine Joins.ownsRow_le (base := W.heap.size) ?_ (by have := HBX.out.size; omega)
      exact ownsRow_setCell_below (ownsRow_setCell_below HO.out (a := ⟨w.heap.size, 0, none⟩) (show w.heap.size < _ by rw [HWS.out]; omega) _) (a := ⟨w.heap.size, 1, none⟩) (show w.heap.size < _ by rw [HWS.out]; omega) _

end Go.Proofs.Ytolpbichkmeaaaa
