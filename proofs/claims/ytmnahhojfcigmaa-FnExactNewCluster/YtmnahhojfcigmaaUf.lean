/- The program's copy of a cluster that is just begun. -/
import Derived.Test.YtmnahhojfcigmaaUe
namespace Go.Proofs.Ytmnahhojfcigmaa
open Go.RowKit Go.Maps Go.WideMaps

/-- A cluster that is told, all it leads to in new memory. -/
def OutC (ap : Bool) (w w' : World) (e : Ending) (l : List Int) (x : Int) (t gs : List Int) (h : Nat) : Prop :=
  ∃ ka kc ba bc va vc ha hc, e = .returned (.agg #[.slice ka l.length kc, .int .i64 x, .slice ba t.length bc, .slice none 0 0, .slice va gs.length vc, .slice none 0 0, .slice ha h hc]) ∧ ClR ap w.heap.size w' l t gs h ka kc ba bc va vc ha hc ∧ Below w.heap.size w w'

set_option maxRecDepth 20000 in
set_option maxHeartbeats 8000000 in
theorem copyC_any (kb ko kc bb bo bc H h : Nat) (l t : List Int) (x : Int) (w : World) (hl : l.length ≤ 8) (ht : t.length ≤ 20) (hh : h ≤ 4) (hI : IAt w (some ⟨kb, ko, none⟩) l.length l) (hJ : IAt w (some ⟨bb, bo, none⟩) t.length t) (hH : ∀ j, j < h → w.cell? ⟨H, j, none⟩ = some (.slice none 0 0)) (hHl : H < w.heap.size) :
    Calls Try.prog 23 #[.agg #[.slice (some ⟨kb, ko, none⟩) l.length kc, .int .i64 x, .slice (some ⟨bb, bo, none⟩) t.length bc, .slice none 0 0, .slice none 0 0, .slice none 0 0, .slice (some ⟨H, 0, none⟩) h h]] w fun e w' => OutC true w w' e l x t [] h := by
  obtain ⟨w1, hw1⟩ : ∃ W, W = (w.alloc (.cells #[.slice (some ⟨kb, ko, none⟩) l.length kc, .int .i64 x, .slice (some ⟨bb, bo, none⟩) t.length bc, .slice none 0 0, .slice none 0 0, .slice none 0 0, .slice (some ⟨H, 0, none⟩) h h] 32)).alloc (.cells #[.slice none 0 0, .int .i64 0, .slice none 0 0, .slice none 0 0, .slice none 0 0, .slice none 0 0, .slice none 0 0] 32) := ⟨_, rfl⟩
  have HW1 : Hid (w1 = (w.alloc (.cells #[.slice (some ⟨kb, ko, none⟩) l.length kc, .int .i64 x, .slice (some ⟨bb, bo, none⟩) t.length bc, .slice none 0 0, .slice none 0 0, .slice none 0 0, .slice (some ⟨H, 0, none⟩) h h] 32)).alloc (.cells #[.slice none 0 0, .int .i64 0, .slice none 0 0, .slice none 0 0, .slice none 0 0, .slice none 0 0, .slice none 0 0] 32)) := hw1
  have HBL : Hid (Below w.heap.size w w1) := by rw [hw1]; exact below_box2 _ _
  have HXB : Hid (w1.heap[w.heap.size]? = some (.cells #[.slice (some ⟨kb, ko, none⟩) l.length kc, .int .i64 x, .slice (some ⟨bb, bo, none⟩) t.length bc, .slice none 0 0, .slice none 0 0, .slice none 0 0, .slice (some ⟨H, 0, none⟩) h h] 32 (0, 0))) := by rw [hw1]; exact block_at2
  have HXR : Hid (w1.heap[w.heap.size + 1]? = some (.cells #[.slice none 0 0, .int .i64 0, .slice none 0 0, .slice none 0 0, .slice none 0 0, .slice none 0 0, .slice none 0 0] 32 (0, 0))) := by rw [hw1]; exact heap_alloc_at _ _ _ (by simp)
  have HSZ : Hid (w1.heap.size = w.heap.size + 1 + 1) := by show _ = _; rw [hw1]; simp
  have HI : Hid (IAt w1 (some ⟨kb, ko, none⟩) l.length l) := hI.below HBL.out (Nat.le_refl _)
  have HJ : Hid (IAt w1 (some ⟨bb, bo, none⟩) t.length t) := hJ.below HBL.out (Nat.le_refl _)
  have HHC : Hid (∀ j, j < h → w1.cell? ⟨H, j, none⟩ = some (.slice none 0 0)) := fun j hj => (HBL.out.cell (p := ⟨H, j, none⟩) hHl).trans (hH j hj)
  have hHl1 : H < w1.heap.size := Nat.lt_of_lt_of_le hHl HBL.out.size
  have hC1 : ∀ V, Below w1.heap.size w1 V → Calls Try.prog 37 #[.slice (some ⟨kb, ko, none⟩) l.length kc] V fun e w' => ∃ g c, e = .returned (.slice (some ⟨g, 0, none⟩) l.length c) ∧ Hid (OwnR w' w1.heap.size w'.heap.size 2 1 (.slice (some ⟨g, 0, none⟩) l.length c) l.length (ints l)) ∧ Hid (Below V.heap.size V w') ∧ Hid (Below w1.heap.size w1 w') := fun V hV =>
    (clone_any kb ko l.length kc l V (by omega) (HI.out.below hV (Nat.le_refl _))).mono fun _ _ ⟨g, c, e, h1, h2⟩ => ⟨g, c, e, OwnR.of (Joins.ownsRow_le h1 hV.size), h2, hV.trans (h2.mono hV.size)⟩
  have hC2 : ∀ V, Below w1.heap.size w1 V → ∀ s, s ≤ V.heap.size → Calls Try.prog 37 #[.slice (some ⟨bb, bo, none⟩) t.length bc] V fun e w' => ∃ g c, e = .returned (.slice (some ⟨g, 0, none⟩) t.length c) ∧ Hid (w'.ownsRow s 2 1 (.slice (some ⟨g, 0, none⟩) t.length c) t.length (ints t)) ∧ Hid (Below V.heap.size V w') ∧ Hid (Below w1.heap.size w1 w') := fun V hV s hs =>
    (clone_any bb bo t.length bc t V (by omega) (HJ.out.below hV (Nat.le_refl _))).mono fun _ _ ⟨g, c, e, h1, h2⟩ => ⟨g, c, e, Joins.ownsRow_le h1 hs, h2, hV.trans (h2.mono hV.size)⟩
  have hC3 : ∀ V, Below w1.heap.size w1 V → Calls Try.prog 38 #[.slice none 0 0] V fun e w' => e = .returned (.slice none 0 0) ∧ Hid (Below V.heap.size V w') ∧ Hid (Below w1.heap.size w1 w') := fun V hV =>
    (nClone_nil V).mono fun _ _ ⟨e, h1⟩ => ⟨e, by subst h1; exact Below.refl _ _, by subst h1; exact hV⟩
  have hC4 : ∀ V, Below w1.heap.size w1 V → Calls Try.prog 39 #[.slice none 0 0] V fun e w' => e = .returned (.slice none 0 0) ∧ Hid (Below V.heap.size V w') ∧ Hid (Below w1.heap.size w1 w') := fun V hV =>
    (voClone_nil V).mono fun _ _ ⟨e, h1⟩ => ⟨e, by subst h1; exact Below.refl _ _, by subst h1; exact hV⟩
  have d0 : Below w1.heap.size w1 w1.drew := (Below.refl _ _).drew
  have d1 : Below w1.heap.size w1 (w1.alloc (.cells #[.slice none 0 0, .int .i64 0, .slice none 0 0, .slice none 0 0, .slice none 0 0, .slice none 0 0, .slice none 0 0] 32)).drew := (below_box (.cells #[.slice none 0 0, .int .i64 0, .slice none 0 0, .slice none 0 0, .slice none 0 0, .slice none 0 0, .slice none 0 0] 32)).trans ((Below.refl _ _).drew)
  have HZ00 : Hid ((w1.alloc (.cells #[.slice none 0 0, .int .i64 0, .slice none 0 0, .slice none 0 0, .slice none 0 0, .slice none 0 0, .slice none 0 0] 32)).drew.heap[w1.heap.size]? = some (.cells #[.slice none 0 0, .int .i64 0, .slice none 0 0, .slice none 0 0, .slice none 0 0, .slice none 0 0, .slice none 0 0] 32 (0, 0))) := heap_alloc_new _ _
  obtain ⟨bx0, bx1, bx2, bx3, bxv, bx4, bxh⟩ := cells7V HXB.out
  have hbl := lt_of_block HXB.out
  have far0 : ∀ (V : World) (i j : Nat) (u : Value), (V.setCell ⟨w1.heap.size, i, none⟩ u).cell? ⟨w.heap.size, j, none⟩ = V.cell? ⟨w.heap.size, j, none⟩ := fun V i j u => World.cell?_setCell_far V _ _ u (show w1.heap.size ≠ w.heap.size by omega)
  have dx0 : w1.drew.cell? ⟨w.heap.size, 0, none⟩ = some (.slice (some ⟨kb, ko, none⟩) l.length kc) := bx0
  have ax0 : (w1.alloc (.cells #[.slice none 0 0, .int .i64 0, .slice none 0 0, .slice none 0 0, .slice none 0 0, .slice none 0 0, .slice none 0 0] 32)).drew.cell? ⟨w.heap.size, 0, none⟩ = some (.slice (some ⟨kb, ko, none⟩) l.length kc) := cell_newV bx0
  have dx1 : w1.drew.cell? ⟨w.heap.size, 1, none⟩ = some (.int .i64 x) := bx1
  have ax1 : (w1.alloc (.cells #[.slice none 0 0, .int .i64 0, .slice none 0 0, .slice none 0 0, .slice none 0 0, .slice none 0 0, .slice none 0 0] 32)).drew.cell? ⟨w.heap.size, 1, none⟩ = some (.int .i64 x) := cell_newV bx1
  have dx2 : w1.drew.cell? ⟨w.heap.size, 2, none⟩ = some (.slice (some ⟨bb, bo, none⟩) t.length bc) := bx2
  have ax2 : (w1.alloc (.cells #[.slice none 0 0, .int .i64 0, .slice none 0 0, .slice none 0 0, .slice none 0 0, .slice none 0 0, .slice none 0 0] 32)).drew.cell? ⟨w.heap.size, 2, none⟩ = some (.slice (some ⟨bb, bo, none⟩) t.length bc) := cell_newV bx2
  have dx3 : w1.drew.cell? ⟨w.heap.size, 3, none⟩ = some (.slice none 0 0) := bx3
  have ax3 : (w1.alloc (.cells #[.slice none 0 0, .int .i64 0, .slice none 0 0, .slice none 0 0, .slice none 0 0, .slice none 0 0, .slice none 0 0] 32)).drew.cell? ⟨w.heap.size, 3, none⟩ = some (.slice none 0 0) := cell_newV bx3
  have dx4 : w1.drew.cell? ⟨w.heap.size, 5, none⟩ = some (.slice none 0 0) := bx4
  have ax4 : (w1.alloc (.cells #[.slice none 0 0, .int .i64 0, .slice none 0 0, .slice none 0 0, .slice none 0 0, .slice none 0 0, .slice none 0 0] 32)).drew.cell? ⟨w.heap.size, 5, none⟩ = some (.slice none 0 0) := cell_newV bx4
  clear hI hJ hH hw1 bxv bxh
  go_enter Try.func23, Try.ntmps23
  go_wp2
  rw [← HW1.out]
  go_cut [3] (fun s wc => ∃ R, s = .pointer (some ⟨R, 0, none⟩) ∧ Hid (CuB true w1 wc R l x t [] 0))
  case first =>
    go_region_held3 (fun w' => w'.cell? ⟨w.heap.size, 0, none⟩ = some (.slice (some ⟨kb, ko, none⟩) l.length kc) ∧ w'.cell? ⟨w.heap.size, 1, none⟩ = some (.int .i64 x) ∧ w'.cell? ⟨w.heap.size, 2, none⟩ = some (.slice (some ⟨bb, bo, none⟩) t.length bc) ∧ w'.cell? ⟨w.heap.size, 3, none⟩ = some (.slice none 0 0) ∧ w'.cell? ⟨w.heap.size, 5, none⟩ = some (.slice none 0 0)) (first | (with_reducible exact ⟨dx0, dx1, dx2, dx3, dx4⟩) | (with_reducible exact ⟨ax0, ax1, ax2, ax3, ax4⟩) | (with_reducible exact ⟨s1_0, s1_1, s1_2, s1_3, s1_4⟩) | (with_reducible exact ⟨cell_newV s1_0, cell_newV s1_1, cell_newV s1_2, cell_newV s1_3, cell_newV s1_4⟩) | (with_reducible exact ⟨s2_0, s2_1, s2_2, s2_3, s2_4⟩) | (with_reducible exact ⟨cell_newV s2_0, cell_newV s2_1, cell_newV s2_2, cell_newV s2_3, cell_newV s2_4⟩) | (with_reducible exact ⟨s3_0, s3_1, s3_2, s3_3, s3_4⟩) | (with_reducible exact ⟨cell_newV s3_0, cell_newV s3_1, cell_newV s3_2, cell_newV s3_3, cell_newV s3_4⟩) | (with_reducible exact ⟨s4_0, s4_1, s4_2, s4_3, s4_4⟩) | (with_reducible exact ⟨cell_newV s4_0, cell_newV s4_1, cell_newV s4_2, cell_newV s4_3, cell_newV s4_4⟩) | (simp only [far0]; with_reducible exact ⟨s4_0, s4_1, s4_2, s4_3, s4_4⟩) | (simp only [far1]; with_reducible exact ⟨s4_0, s4_1, s4_2, s4_3, s4_4⟩) | (simp only [far2]; with_reducible exact ⟨s4_0, s4_1, s4_2, s4_3, s4_4⟩) | (simp only [far3]; with_reducible exact ⟨s4_0, s4_1, s4_2, s4_3, s4_4⟩) | go_keep)
      (first
        | (go_at_call 37; (first
          | ((with_reducible refine (hC1 w1.drew d0).mono ?_); rintro e u1 ⟨gk, ck, rfl, HK1, HB1, HBB1⟩; have s1_0 := (HBB1.out.cell (p := ⟨w.heap.size, 0, none⟩) hbl).trans bx0; have s1_1 := (HBB1.out.cell (p := ⟨w.heap.size, 1, none⟩) hbl).trans bx1; have s1_2 := (HBB1.out.cell (p := ⟨w.heap.size, 2, none⟩) hbl).trans bx2; have s1_3 := (HBB1.out.cell (p := ⟨w.heap.size, 3, none⟩) hbl).trans bx3; have s1_4 := (HBB1.out.cell (p := ⟨w.heap.size, 5, none⟩) hbl).trans bx4; have far1 : ∀ (V : World) (i j : Nat) (u : Value), (V.setCell ⟨u1.heap.size, i, none⟩ u).cell? ⟨w.heap.size, j, none⟩ = V.cell? ⟨w.heap.size, j, none⟩ := fun V i j u => World.cell?_setCell_far V _ _ u (show u1.heap.size ≠ w.heap.size by have := hbl; have := HBB1.out.size; omega))
          | ((with_reducible refine (hC1 (w1.alloc (.cells #[.slice none 0 0, .int .i64 0, .slice none 0 0, .slice none 0 0, .slice none 0 0, .slice none 0 0, .slice none 0 0] 32)).drew d1).mono ?_); rintro e u1 ⟨gk, ck, rfl, HK1, HB1, HBB1⟩; have HZ01 := keepb HZ00.out HB1.out; have s1_0 := (HBB1.out.cell (p := ⟨w.heap.size, 0, none⟩) hbl).trans bx0; have s1_1 := (HBB1.out.cell (p := ⟨w.heap.size, 1, none⟩) hbl).trans bx1; have s1_2 := (HBB1.out.cell (p := ⟨w.heap.size, 2, none⟩) hbl).trans bx2; have s1_3 := (HBB1.out.cell (p := ⟨w.heap.size, 3, none⟩) hbl).trans bx3; have s1_4 := (HBB1.out.cell (p := ⟨w.heap.size, 5, none⟩) hbl).trans bx4; have far1 : ∀ (V : World) (i j : Nat) (u : Value), (V.setCell ⟨u1.heap.size, i, none⟩ u).cell? ⟨w.heap.size, j, none⟩ = V.cell? ⟨w.heap.size, j, none⟩ := fun V i j u => World.cell?_setCell_far V _ _ u (show u1.heap.size ≠ w.heap.size by have := hbl; have := HBB1.out.size; omega))
          | ((with_reducible refine (hC2 u1 HBB1.out u1.heap.size (Nat.le_refl _)).mono ?_); rintro e u2 ⟨gb, cb, rfl, HR2, HB2, HBB2⟩; have HK2 := ownR_below HK1 HB2.out; (first | (have hz := HZ01; have HZ02 := keepb hz.out HB2.out) | skip); have s2_0 := (HBB2.out.cell (p := ⟨w.heap.size, 0, none⟩) hbl).trans bx0; have s2_1 := (HBB2.out.cell (p := ⟨w.heap.size, 1, none⟩) hbl).trans bx1; have s2_2 := (HBB2.out.cell (p := ⟨w.heap.size, 2, none⟩) hbl).trans bx2; have s2_3 := (HBB2.out.cell (p := ⟨w.heap.size, 3, none⟩) hbl).trans bx3; have s2_4 := (HBB2.out.cell (p := ⟨w.heap.size, 5, none⟩) hbl).trans bx4; have far2 : ∀ (V : World) (i j : Nat) (u : Value), (V.setCell ⟨u2.heap.size, i, none⟩ u).cell? ⟨w.heap.size, j, none⟩ = V.cell? ⟨w.heap.size, j, none⟩ := fun V i j u => World.cell?_setCell_far V _ _ u (show u2.heap.size ≠ w.heap.size by have := hbl; have := HBB2.out.size; omega))
          | ((with_reducible refine (hC2 (u1.alloc (.cells #[.slice none 0 0, .int .i64 0, .slice none 0 0, .slice none 0 0, .slice none 0 0, .slice none 0 0, .slice none 0 0] 32)) (HBB1.out.trans ((below_box (.cells #[.slice none 0 0, .int .i64 0, .slice none 0 0, .slice none 0 0, .slice none 0 0, .slice none 0 0, .slice none 0 0] 32)).mono HBB1.out.size)) u1.heap.size (by simp)).mono ?_); rintro e u2 ⟨gb, cb, rfl, HR2, HB2, HBB2⟩; have HK2 := ownR_below (ownR_below HK1 (below_box (.cells #[.slice none 0 0, .int .i64 0, .slice none 0 0, .slice none 0 0, .slice none 0 0, .slice none 0 0, .slice none 0 0] 32))) HB2.out; have HZ12 := keepb (heap_alloc_new u1 (.cells #[.slice none 0 0, .int .i64 0, .slice none 0 0, .slice none 0 0, .slice none 0 0, .slice none 0 0, .slice none 0 0] 32)) HB2.out; have s2_0 := (HBB2.out.cell (p := ⟨w.heap.size, 0, none⟩) hbl).trans bx0; have s2_1 := (HBB2.out.cell (p := ⟨w.heap.size, 1, none⟩) hbl).trans bx1; have s2_2 := (HBB2.out.cell (p := ⟨w.heap.size, 2, none⟩) hbl).trans bx2; have s2_3 := (HBB2.out.cell (p := ⟨w.heap.size, 3, none⟩) hbl).trans bx3; have s2_4 := (HBB2.out.cell (p := ⟨w.heap.size, 5, none⟩) hbl).trans bx4; have far2 : ∀ (V : World) (i j : Nat) (u : Value), (V.setCell ⟨u2.heap.size, i, none⟩ u).cell? ⟨w.heap.size, j, none⟩ = V.cell? ⟨w.heap.size, j, none⟩ := fun V i j u => World.cell?_setCell_far V _ _ u (show u2.heap.size ≠ w.heap.size by have := hbl; have := HBB2.out.size; omega))))
        | (go_at_call 38; (first
          | ((with_reducible refine (hC3 u2 HBB2.out).mono ?_); rintro e u3 ⟨rfl, HB3, HBB3⟩; have HK3 := ownR_below HK2 HB3.out; have HR3 := row_belowH HR2 HB3.out; (first | (have hz := HZ02; have HZ03 := keepb hz.out HB3.out) | (have hz := HZ12; have HZ13 := keepb hz.out HB3.out) | skip); have s3_0 := (HBB3.out.cell (p := ⟨w.heap.size, 0, none⟩) hbl).trans bx0; have s3_1 := (HBB3.out.cell (p := ⟨w.heap.size, 1, none⟩) hbl).trans bx1; have s3_2 := (HBB3.out.cell (p := ⟨w.heap.size, 2, none⟩) hbl).trans bx2; have s3_3 := (HBB3.out.cell (p := ⟨w.heap.size, 3, none⟩) hbl).trans bx3; have s3_4 := (HBB3.out.cell (p := ⟨w.heap.size, 5, none⟩) hbl).trans bx4; have far3 : ∀ (V : World) (i j : Nat) (u : Value), (V.setCell ⟨u3.heap.size, i, none⟩ u).cell? ⟨w.heap.size, j, none⟩ = V.cell? ⟨w.heap.size, j, none⟩ := fun V i j u => World.cell?_setCell_far V _ _ u (show u3.heap.size ≠ w.heap.size by have := hbl; have := HBB3.out.size; omega))
          | ((with_reducible refine (hC3 (u2.alloc (.cells #[.slice none 0 0, .int .i64 0, .slice none 0 0, .slice none 0 0, .slice none 0 0, .slice none 0 0, .slice none 0 0] 32)) (HBB2.out.trans ((below_box (.cells #[.slice none 0 0, .int .i64 0, .slice none 0 0, .slice none 0 0, .slice none 0 0, .slice none 0 0, .slice none 0 0] 32)).mono HBB2.out.size))).mono ?_); rintro e u3 ⟨rfl, HB3, HBB3⟩; have HK3 := ownR_below (ownR_below HK2 (below_box (.cells #[.slice none 0 0, .int .i64 0, .slice none 0 0, .slice none 0 0, .slice none 0 0, .slice none 0 0, .slice none 0 0] 32))) HB3.out; have HR3 := row_belowH (row_belowH HR2 (below_box (.cells #[.slice none 0 0, .int .i64 0, .slice none 0 0, .slice none 0 0, .slice none 0 0, .slice none 0 0, .slice none 0 0] 32))) HB3.out; have HZ23 := keepb (heap_alloc_new u2 (.cells #[.slice none 0 0, .int .i64 0, .slice none 0 0, .slice none 0 0, .slice none 0 0, .slice none 0 0, .slice none 0 0] 32)) HB3.out; have s3_0 := (HBB3.out.cell (p := ⟨w.heap.size, 0, none⟩) hbl).trans bx0; have s3_1 := (HBB3.out.cell (p := ⟨w.heap.size, 1, none⟩) hbl).trans bx1; have s3_2 := (HBB3.out.cell (p := ⟨w.heap.size, 2, none⟩) hbl).trans bx2; have s3_3 := (HBB3.out.cell (p := ⟨w.heap.size, 3, none⟩) hbl).trans bx3; have s3_4 := (HBB3.out.cell (p := ⟨w.heap.size, 5, none⟩) hbl).trans bx4; have far3 : ∀ (V : World) (i j : Nat) (u : Value), (V.setCell ⟨u3.heap.size, i, none⟩ u).cell? ⟨w.heap.size, j, none⟩ = V.cell? ⟨w.heap.size, j, none⟩ := fun V i j u => World.cell?_setCell_far V _ _ u (show u3.heap.size ≠ w.heap.size by have := hbl; have := HBB3.out.size; omega))))
        | (go_at_call 39; (first
          | ((with_reducible refine (hC4 u3 HBB3.out).mono ?_); rintro e u4 ⟨rfl, HB4, HBB4⟩; have HK4 := ownR_below HK3 HB4.out; have HR4 := row_belowH HR3 HB4.out; (first | (have hz := HZ03; have HZ04 := keepb hz.out HB4.out; have HZ := HZ04; obtain ⟨y0, y1, y2, y3, y4, y5, y6⟩ := cells7V HZ.out; have f0 := Joins.unfrozen_of_block HZ.out 0; have f1 := Joins.unfrozen_of_block HZ.out 1; have f2 := Joins.unfrozen_of_block HZ.out 2; have f3 := Joins.unfrozen_of_block HZ.out 3; have f4 := Joins.unfrozen_of_block HZ.out 4; have f5 := Joins.unfrozen_of_block HZ.out 5; have f6 := Joins.unfrozen_of_block HZ.out 6) | (have hz := HZ13; have HZ14 := keepb hz.out HB4.out; have HZ := HZ14; obtain ⟨y0, y1, y2, y3, y4, y5, y6⟩ := cells7V HZ.out; have f0 := Joins.unfrozen_of_block HZ.out 0; have f1 := Joins.unfrozen_of_block HZ.out 1; have f2 := Joins.unfrozen_of_block HZ.out 2; have f3 := Joins.unfrozen_of_block HZ.out 3; have f4 := Joins.unfrozen_of_block HZ.out 4; have f5 := Joins.unfrozen_of_block HZ.out 5; have f6 := Joins.unfrozen_of_block HZ.out 6) | (have hz := HZ23; have HZ24 := keepb hz.out HB4.out; have HZ := HZ24; obtain ⟨y0, y1, y2, y3, y4, y5, y6⟩ := cells7V HZ.out; have f0 := Joins.unfrozen_of_block HZ.out 0; have f1 := Joins.unfrozen_of_block HZ.out 1; have f2 := Joins.unfrozen_of_block HZ.out 2; have f3 := Joins.unfrozen_of_block HZ.out 3; have f4 := Joins.unfrozen_of_block HZ.out 4; have f5 := Joins.unfrozen_of_block HZ.out 5; have f6 := Joins.unfrozen_of_block HZ.out 6) | skip); have s4_0 := (HBB4.out.cell (p := ⟨w.heap.size, 0, none⟩) hbl).trans bx0; have s4_1 := (HBB4.out.cell (p := ⟨w.heap.size, 1, none⟩) hbl).trans bx1; have s4_2 := (HBB4.out.cell (p := ⟨w.heap.size, 2, none⟩) hbl).trans bx2; have s4_3 := (HBB4.out.cell (p := ⟨w.heap.size, 3, none⟩) hbl).trans bx3; have s4_4 := (HBB4.out.cell (p := ⟨w.heap.size, 5, none⟩) hbl).trans bx4; have far4 : ∀ (V : World) (i j : Nat) (u : Value), (V.setCell ⟨u4.heap.size, i, none⟩ u).cell? ⟨w.heap.size, j, none⟩ = V.cell? ⟨w.heap.size, j, none⟩ := fun V i j u => World.cell?_setCell_far V _ _ u (show u4.heap.size ≠ w.heap.size by have := hbl; have := HBB4.out.size; omega))
          | ((with_reducible refine (hC4 (u3.alloc (.cells #[.slice none 0 0, .int .i64 0, .slice none 0 0, .slice none 0 0, .slice none 0 0, .slice none 0 0, .slice none 0 0] 32)) (HBB3.out.trans ((below_box (.cells #[.slice none 0 0, .int .i64 0, .slice none 0 0, .slice none 0 0, .slice none 0 0, .slice none 0 0, .slice none 0 0] 32)).mono HBB3.out.size))).mono ?_); rintro e u4 ⟨rfl, HB4, HBB4⟩; have HK4 := ownR_below (ownR_below HK3 (below_box (.cells #[.slice none 0 0, .int .i64 0, .slice none 0 0, .slice none 0 0, .slice none 0 0, .slice none 0 0, .slice none 0 0] 32))) HB4.out; have HR4 := row_belowH (row_belowH HR3 (below_box (.cells #[.slice none 0 0, .int .i64 0, .slice none 0 0, .slice none 0 0, .slice none 0 0, .slice none 0 0, .slice none 0 0] 32))) HB4.out; have HZ34 := keepb (heap_alloc_new u3 (.cells #[.slice none 0 0, .int .i64 0, .slice none 0 0, .slice none 0 0, .slice none 0 0, .slice none 0 0, .slice none 0 0] 32)) HB4.out; have HZ := HZ34; obtain ⟨y0, y1, y2, y3, y4, y5, y6⟩ := cells7V HZ.out; have f0 := Joins.unfrozen_of_block HZ.out 0; have f1 := Joins.unfrozen_of_block HZ.out 1; have f2 := Joins.unfrozen_of_block HZ.out 2; have f3 := Joins.unfrozen_of_block HZ.out 3; have f4 := Joins.unfrozen_of_block HZ.out 4; have f5 := Joins.unfrozen_of_block HZ.out 5; have f6 := Joins.unfrozen_of_block HZ.out 6; have s4_0 := (HBB4.out.cell (p := ⟨w.heap.size, 0, none⟩) hbl).trans bx0; have s4_1 := (HBB4.out.cell (p := ⟨w.heap.size, 1, none⟩) hbl).trans bx1; have s4_2 := (HBB4.out.cell (p := ⟨w.heap.size, 2, none⟩) hbl).trans bx2; have s4_3 := (HBB4.out.cell (p := ⟨w.heap.size, 3, none⟩) hbl).trans bx3; have s4_4 := (HBB4.out.cell (p := ⟨w.heap.size, 5, none⟩) hbl).trans bx4; have far4 : ∀ (V : World) (i j : Nat) (u : Value), (V.setCell ⟨u4.heap.size, i, none⟩ u).cell? ⟨w.heap.size, j, none⟩ = V.cell? ⟨w.heap.size, j, none⟩ := fun V i j u => World.cell?_setCell_far V _ _ u (show u4.heap.size ≠ w.heap.size by have := hbl; have := HBB4.out.size; omega)))))
    all_goals
      go_wp2
      go_meet
      first
        | (have hz := HZ04; refine ⟨_, rfl, ?_⟩; with_reducible exact cu_set HK4 HR4 (Nat.le_refl _) HBB1.out.size HBB4 hz (Nat.le_refl _))
        | (have hz := HZ14; refine ⟨_, rfl, ?_⟩; with_reducible exact cu_set HK4 HR4 (Nat.le_refl _) HBB1.out.size HBB4 hz HBB1.out.size)
        | (have hz := HZ24; refine ⟨_, rfl, ?_⟩; with_reducible exact cu_set HK4 HR4 (Nat.le_refl _) HBB1.out.size HBB4 hz HBB2.out.size)
        | (have hz := HZ34; refine ⟨_, rfl, ?_⟩; with_reducible exact cu_set HK4 HR4 (Nat.le_refl _) HBB1.out.size HBB4 hz HBB3.out.size)
        | (refine ⟨_, rfl, ?_⟩; with_reducible exact cu_new HK4 HR4 (Nat.le_refl _) HBB1.out.size HBB4)
  case rest =>
    obtain ⟨R, hs, HS⟩ := hcut
    subst hs
    have hbc := HS.out.2.1
    obtain ⟨q0, q1, q2, q3, q4, q5, q6⟩ := cells7V ((hbc.block _ hbl).trans HXB.out)
    clear hbc bx0 bx1 bx2 bx3 bx4 dx0 dx1 dx2 dx3 dx4 ax0 ax1 ax2 ax3 ax4 far0 HZ00 d0 d1 hC1 hC2 hC3 hC4
    go_wp2
    refine wp_loop_rounds 1 ?_
    rw [rounds_succ]
    go_wp2
    clear q0 q1 q2 q3 q4 q5 q6
    go_loopw [50] (fun i wr => ∃ j : Nat, j ≤ h ∧ i = .int .i64 j ∧ Hid (CuB true w1 wr R l x t [] j)) (fun i _ => h - (intOf i).toNat)
    case atStart => exact ⟨0, Nat.zero_le _, rfl, HS⟩
    case round =>
      obtain ⟨j, hj, rfl, HC⟩ := hrel
      obtain ⟨h1, h2, ka, kc, ba, bc, va, vc, ha, hc, h3, h4⟩ := HC.out
      by_cases hlt : j < h
      · replace h3 : wr.heap[R]? = some (.cells #[.slice ka l.length kc, .int .i64 x, .slice ba t.length bc, .slice none 0 0, .slice va 0 vc, .slice none 0 0, .slice ha j hc] 32 (0, 0)) := h3
        have x0 := (h2.cell (p := ⟨H, j, none⟩) hHl1).trans (HHC.out j hlt)
        obtain ⟨p0, p1, p2, p3, p4, p5, p6⟩ := cells7V h3
        have hki : (j : Int) < (h : Int) := by omega
        have HcI : Hid (Calls Try.prog 37 #[.slice none 0 0] wr.drew fun e w' => e = .returned (.slice none 0 0) ∧ Below wr.heap.size wr w') := (iClone_nil wr.drew).mono fun _ _ ⟨e, h1⟩ => ⟨e, by subst h1; exact (Below.refl _ _).drew⟩
        have hcI := HcI.out
        have H3 : Hid (wr.heap[R]? = some (.cells #[.slice ka l.length kc, .int .i64 x, .slice ba t.length bc, .slice none 0 0, .slice va 0 vc, .slice none 0 0, .slice ha j hc] 32 (0, 0))) := h3
        have H4 : Hid (ClR true w1.heap.size wr l t [] j ka kc ba bc va vc ha hc) := h4
        have H2 : Hid (Below w1.heap.size w1 wr) := h2
        clear h3 h4 h2 HC HcI p0 p1 p2 p3 p4 p5
        go_wp2
        go_region_law (first
          | (refine step_append_runZ (by rfl) (.tmp 55) (.tmp 58) 30 (by rfl) (v := .slice ha j hc) (u := .slice (some ⟨u1.heap.size, 0, none⟩) 1 1) (v' := .slice (some ⟨g, 0, none⟩) (j + 1) cap) (w' := w5) (by rfl) (by rfl) ?_ ?_; (with_reducible exact hrun))
          | (go_simp; go_at_call 37; (with_reducible refine hcI.mono ?_); rintro e u1 ⟨rfl, hb1⟩; have HU3 := keepb H3.out hb1; obtain ⟨g, cap, w5, hrun, HB5, HC5⟩ := CuB.heard h1 (H2.out.trans (hb1.mono H2.out.size)) HU3.out (H4.out.below hb1) (by omega); obtain ⟨e0, e1, e2, e3, e4, e5, t6⟩ := cells7V HU3.out; have tb := cell_newV (o := .cells #[.slice none 0 0] 22) t6; obtain ⟨l0, l1, l2, l3, l4, l5, l6⟩ := cells7V HB5.out; have gz := Joins.unfrozen_of_block HB5.out 6; clear e0 e1 e2 e3 e4 e5 l0 l1 l2 l3 l4 l5 hb1))
        all_goals
          go_wp2
          go_roundw
          case rel => exact ⟨j + 1, by omega, by go_num, HC5⟩
          case measure => simp [intOf]; omega
      · obtain rfl : j = h := by omega
        replace h3 : wr.heap[R]? = some (.cells #[.slice ka l.length kc, .int .i64 x, .slice ba t.length bc, .slice none 0 0, .slice va 0 vc, .slice none 0 0, .slice ha j hc] 32 (0, 0)) := h3
        obtain ⟨p0, p1, p2, p3, p4, p5, p6⟩ := cells7V h3
        have HR0 := (h2.block _ (lt_of_block HXR.out)).trans HXR.out
        obtain ⟨y0, y1, y2, y3, y4, y5, y6⟩ := cells7V HR0
        have f0 := Joins.unfrozen_of_block HR0 0
        have f1 := Joins.unfrozen_of_block HR0 1
        have f2 := Joins.unfrozen_of_block HR0 2
        have f3 := Joins.unfrozen_of_block HR0 3
        have f4 := Joins.unfrozen_of_block HR0 4
        have f5 := Joins.unfrozen_of_block HR0 5
        have f6 := Joins.unfrozen_of_block HR0 6
        have hki : ¬ (j : Int) < (j : Int) := by omega
        have HR1 : Hid (wr.heap[w.heap.size + 1]? = some (.cells #[.slice none 0 0, .int .i64 0, .slice none 0 0, .slice none 0 0, .slice none 0 0, .slice none 0 0, .slice none 0 0] 32 (0, 0))) := HR0
        have H4 : Hid (ClR true w1.heap.size wr l t [] j ka kc ba bc va vc ha hc) := h4
        have H2 : Hid (Below w1.heap.size w1 wr) := h2
        clear HR0 h3 h4 h2 HC
        go_wp2
        obtain ⟨s0, s1, s2, s3, s4, s5, s6⟩ := cells7V (set7V7 HR1.out (.slice ka l.length kc) (.int .i64 x) (.slice ba t.length bc) (.slice none 0 0) (.slice va 0 vc) (.slice none 0 0) (.slice ha j hc))
        refine bodyPost_ret (v := .agg #[.slice ka l.length kc, .int .i64 x, .slice ba t.length bc, .slice none 0 0, .slice va 0 vc, .slice none 0 0, .slice ha j hc]) (by simp [results, Try.results23, go_sem, s0, s1, s2, s3, s4, s5, s6]) rfl ⟨ka, kc, ba, bc, va, vc, ha, hc, rfl, ?_, ?_⟩
        · exact (H4.out.set7 HR1.out neC1 neC2 neC3 _ _ _ _ _ _ _).low HBL.out.size
        · exact below_set7V (HBL.out.trans (H2.out.mono HBL.out.size)) (by omega) _ _ _ _ _ _ _

end Go.Proofs.Ytmnahhojfcigmaa
