/- Blocks that are drawn and bent: whatever the bytes, some block, its numbers in memory of its own. -/
import Derived.Test.YtlacmcedpphphaaDoorJa
import Derived.Test.YtlacmcedpphphaaDoorTtX
namespace Go.Proofs.YtlacmcedpphphaaDoor
open Go.RowKit Go.Shelf Go.Maps Go.WideMaps

theorem iat2 (V : World) (a b : Int) : IAt (V.alloc (.cells #[.int .i64 a, .int .i64 b] 2)) (some ⟨V.heap.size, 0, none⟩) 2 [a, b] :=
  ⟨rfl, .inr ⟨V.heap.size, 0, rfl, by simp, fun j hj => by
    have h := heap_alloc_new V (.cells #[.int .i64 a, .int .i64 b] 2)
    match j, hj with
    | 0, _ => unfold World.cell?; rw [h]; rfl
    | 1, _ => unfold World.cell?; rw [h]; rfl⟩⟩
theorem iat3 (V : World) (a b c : Int) : IAt (V.alloc (.cells #[.int .i64 a, .int .i64 b, .int .i64 c] 2)) (some ⟨V.heap.size, 0, none⟩) 3 [a, b, c] :=
  ⟨rfl, .inr ⟨V.heap.size, 0, rfl, by simp, fun j hj => by
    have h := heap_alloc_new V (.cells #[.int .i64 a, .int .i64 b, .int .i64 c] 2)
    match j, hj with
    | 0, _ => unfold World.cell?; rw [h]; rfl
    | 1, _ => unfold World.cell?; rw [h]; rfl
    | 2, _ => unfold World.cell?; rw [h]; rfl⟩⟩
theorem iat4 (V : World) (a b c d : Int) : IAt (V.alloc (.cells #[.int .i64 a, .int .i64 b, .int .i64 c, .int .i64 d] 2)) (some ⟨V.heap.size, 0, none⟩) 4 [a, b, c, d] :=
  ⟨rfl, .inr ⟨V.heap.size, 0, rfl, by simp, fun j hj => by
    have h := heap_alloc_new V (.cells #[.int .i64 a, .int .i64 b, .int .i64 c, .int .i64 d] 2)
    match j, hj with
    | 0, _ => unfold World.cell?; rw [h]; rfl
    | 1, _ => unfold World.cell?; rw [h]; rfl
    | 2, _ => unfold World.cell?; rw [h]; rfl
    | 3, _ => unfold World.cell?; rw [h]; rfl⟩⟩
theorem made7 : (madeCells (Value.int .i64 0).cells (7 * 1)).toList = ints [0, 0, 0, 0, 0, 0, 0] := by kernel_rfl
theorem Db.took {w v V : World} {SB : Nat} {ca : Option Addr} {cn cc t : Nat} {p h m : Int} {va : Option Addr} {vc : Nat} {l : List Int} (hr : V.ownsRow (v.alloc (.cells #[.int .i64 0, .int .i64 0, .int .i64 0, .slice none 0 0] 27)).heap.size 2 1 (.slice va l.length vc) l.length (ints l)) (hS : Src w V SB ca cn cc t) (hc : Chg (v.alloc (.cells #[.int .i64 0, .int .i64 0, .int .i64 0, .slice none 0 0] 27)) V SB (SB + 1)) (hl : SB < v.heap.size) :
    Db w v (V.alloc (.cells #[.int .i64 p, .int .i64 h, .int .i64 m, .slice va l.length vc] 27)) SB ca cn cc t V.heap.size p h m va vc l := by
  have hz : (v.alloc (.cells #[.int .i64 0, .int .i64 0, .int .i64 0, .slice none 0 0] 27)).heap.size = v.heap.size + 1 := by simp
  rw [hz] at hr
  have h1 : V.heap[v.heap.size]? = some (.cells #[.int .i64 0, .int .i64 0, .int .i64 0, .slice none 0 0] 27 (0, 0)) := hc.keep1 (heap_alloc_new _ _) (by omega)
  exact ⟨heap_alloc_new _ _, (keepb h1 (below_box _)).out, hS.step (below_box _), ((Chg.of_below (below_box _) _ _).trans hc).trans (Chg.of_below (below_box _) _ _), hr.alloc _, hl, lt_of_block h1⟩
/-- The block's numbers are others, in new memory. -/
theorem Db.other {w v V V' : World} {SB : Nat} {ca : Option Addr} {cn cc t LB : Nat} {p h m : Int} {va : Option Addr} {vc : Nat} {l l' : List Int} {a' : Option Addr} {c' : Nat} (H : Db w v V SB ca cn cc t LB p h m va vc l) (hb : Below V.heap.size V V') (hr : V'.ownsRow V.heap.size 2 1 (.slice a' l'.length c') l'.length (ints l')) :
    Db w v (V'.setCell ⟨LB, 3, none⟩ (.slice a' l'.length c')) SB ca cn cc t LB p h m a' c' l' := by
  have H1 := H.step hb
  have ho := H.ord
  have hlt := H.lt
  have hvs := H.chg.size
  refine ⟨?_, (Below.heap_setCell _ ⟨LB, 3, none⟩ _ v.heap.size (show v.heap.size ≠ LB by omega)).trans H1.res, ?_, ?_, ?_, ho⟩
  · have := Joins.block_setCell (i := 3) H1.box (.slice a' l'.length c')
    simpa using this
  · exact ⟨(Below.heap_setCell _ ⟨LB, 3, none⟩ _ SB (show SB ≠ LB by omega)).trans H1.src.box, H1.src.bel.setCell (p := ⟨LB, 3, none⟩) (show w.heap.size ≤ LB by have := H.src.sb; omega) _, H1.src.sb⟩
  · exact ⟨H1.chg.os, H1.chg.tape, H1.chg.output, by simpa using H1.chg.size, fun b hb hd => (Below.heap_setCell _ ⟨LB, 3, none⟩ _ b (show b ≠ LB by omega)).trans (H1.chg.block b hb hd)⟩
  · exact ownsRow_setCell_other (Joins.ownsRow_le hr (by omega)) (a := ⟨LB, 3, none⟩) (fun e => by have := (hr.lt _ e).1; simp at this; omega) _

set_option maxRecDepth 20000 in
set_option maxHeartbeats 8000000 in
theorem l7Bent_any (SB cn cc t : Nat) (ca : Option Addr) (l0 : List Int) (w v : World) (ht : t ≤ 800) (hcn : cn ≤ 1048576) (hB : BAt w ca cn l0) (h : Src w v SB ca cn cc t) :
    Calls Tryd.prog 26 #[.pointer (some ⟨SB, 0, none⟩)] v fun e v' => OutDb w v SB ca cn cc (t + 9) e v' KB := by
  have HBA : Hid (BAt w ca cn l0) := hB
  have hlt := h.lt
  have h1 := l7Draw_any SB cn cc t ca l0 w (v.alloc (.cells #[.int .i64 0, .int .i64 0, .int .i64 0, .slice none 0 0] 27)) (by omega) hcn hB (h.step (below_box _))
  obtain ⟨i0, hi, hz0, hz1, hz2⟩ := info_parts Tryd.infoI64
  clear hB h
  go_enter Tryd.func26, Tryd.ntmps26
  go_wp2_with (first
    | (go_at_call 17; (with_reducible refine h1.mono ?_); clear h1; rintro e v7 ⟨p, h, m, l, va, vc, t7, rfl, HO7, HK7, ht7, HS7, HC7⟩; have HD7 : Hid (Db w v (v7.alloc (.cells #[.int .i64 p, .int .i64 h, .int .i64 m, .slice va l.length vc] 27)) SB ca cn cc t7 v7.heap.size p h m va vc l) := Db.took HO7.out HS7.out HC7.out hlt; have hl3 : l.length ≤ 3 := HK7.out.2; have h2 := l1Next_any SB cn cc t7 ca l0 12 w (v7.alloc (.cells #[.int .i64 p, .int .i64 h, .int .i64 m, .slice va l.length vc] 27)) (by omega) (by omega) hcn HBA.out HD7.out.src)
    | (go_at_call 19; (with_reducible refine h2.mono ?_); clear h2; rintro e v8 ⟨r, rfl, ⟨a8, b8⟩, hS8, hc8⟩; have HD8 : Hid (Db w v v8 SB ca cn cc (t7 + 1) v7.heap.size p h m va vc l) := HD7.out.draw hS8 hc8; clear hS8 hc8 b8; have hs8 := HD8.out.src.lt; obtain ⟨c0, c1, c2, c3, f0, f1, f2, f3⟩ := HD8.out.cells; obtain ⟨d0, d1, d2, d3, d4, d5, d6, d7⟩ := cells4 HD8.out.res)
    | (go_at_call 20; first
      | (have hD9 := HD8.out.step (below_box (.cells #[.int .i64 (-1), .int .i64 61, .int .i64 0] 2)); (with_reducible refine (l1Pick_any SB cn cc (t7 + 1) 3 3 ca (some ⟨v8.heap.size, 0, none⟩) l0 [(-1), 61, 0] w (v8.alloc (.cells #[.int .i64 (-1), .int .i64 61, .int .i64 0] 2)) (by omega) (by omega) (by omega) hcn HBA.out hD9.src (iat3 v8 ((-1)) (61) (0)) (fun b off e => (by cases e; omega))).mono ?_); rintro e v9 ⟨z, rfl, hz, hS9, hc9⟩; have HD9 : Hid (Db w v v9 SB ca cn cc (t7 + 1 + 1) v7.heap.size p h m va vc l) := hD9.draw hS9 hc9; clear hS9 hc9 hD9 c0 c1 c2 c3 f0 f1 f2 f3 d0 d1 d2 d3 d4 d5 d6 d7; obtain ⟨c0, c1, c2, c3, f0, f1, f2, f3⟩ := HD9.out.cells; have HP0 : Hid (Db w v (v9.setCell ⟨v7.heap.size, 0, none⟩ (.int .i64 z)) SB ca cn cc (t7 + 1 + 1) v7.heap.size z h m va vc l) := HD9.out.setk (i := 0) rfl; obtain ⟨x0, x1, x2, x3, _⟩ := HP0.out.cells; obtain ⟨d0, d1, d2, d3, d4, d5, d6, d7⟩ := cells4 HP0.out.res)
      | (have hD9 := HD8.out.step (below_box (.cells #[.int .i64 0, .int .i64 41, .int .i64 1] 2)); (with_reducible refine (l1Pick_any SB cn cc (t7 + 1) 3 3 ca (some ⟨v8.heap.size, 0, none⟩) l0 [0, 41, 1] w (v8.alloc (.cells #[.int .i64 0, .int .i64 41, .int .i64 1] 2)) (by omega) (by omega) (by omega) hcn HBA.out hD9.src (iat3 v8 (0) (41) (1)) (fun b off e => (by cases e; omega))).mono ?_); rintro e v9 ⟨z, rfl, hz, hS9, hc9⟩; have HD9 : Hid (Db w v v9 SB ca cn cc (t7 + 1 + 1) v7.heap.size p h m va vc l) := hD9.draw hS9 hc9; clear hS9 hc9 hD9 c0 c1 c2 c3 f0 f1 f2 f3 d0 d1 d2 d3 d4 d5 d6 d7; obtain ⟨c0, c1, c2, c3, f0, f1, f2, f3⟩ := HD9.out.cells; have HP1 : Hid (Db w v (v9.setCell ⟨v7.heap.size, 1, none⟩ (.int .i64 z)) SB ca cn cc (t7 + 1 + 1) v7.heap.size p z m va vc l) := HD9.out.setk (i := 1) rfl; obtain ⟨x0, x1, x2, x3, _⟩ := HP1.out.cells; obtain ⟨d0, d1, d2, d3, d4, d5, d6, d7⟩ := cells4 HP1.out.res)
      | (have hD9 := HD8.out.step (below_box (.cells #[.int .i64 0, .int .i64 1000] 2)); (with_reducible refine (l1Pick_any SB cn cc (t7 + 1) 2 2 ca (some ⟨v8.heap.size, 0, none⟩) l0 [0, 1000] w (v8.alloc (.cells #[.int .i64 0, .int .i64 1000] 2)) (by omega) (by omega) (by omega) hcn HBA.out hD9.src (iat2 v8 (0) (1000)) (fun b off e => (by cases e; omega))).mono ?_); rintro e v9 ⟨z, rfl, hz, hS9, hc9⟩; have HD9 : Hid (Db w v v9 SB ca cn cc (t7 + 1 + 1) v7.heap.size p h m va vc l) := hD9.draw hS9 hc9; clear hS9 hc9 hD9 c0 c1 c2 c3 f0 f1 f2 f3 d0 d1 d2 d3 d4 d5 d6 d7; obtain ⟨c0, c1, c2, c3, f0, f1, f2, f3⟩ := HD9.out.cells; have HP2 : Hid (Db w v (v9.setCell ⟨v7.heap.size, 2, none⟩ (.int .i64 z)) SB ca cn cc (t7 + 1 + 1) v7.heap.size p h z va vc l) := HD9.out.setk (i := 2) rfl; obtain ⟨x0, x1, x2, x3, _⟩ := HP2.out.cells; obtain ⟨d0, d1, d2, d3, d4, d5, d6, d7⟩ := cells4 HP2.out.res))
    | (at_make; refine wpList_make_full _ rfl _ _ 25 rfl v8.heap.size 2 i0 (.int .i64 0) 1 Tryd.underlying25 hi hz0 hz1 _ _ _ _ 7 rfl rfl (by omega) (by omega) (by rw [hz2]; omega) (by unfold maxLen; omega) (Nat.le_refl _) ?_; intro v9 ho9 hg9; have hb9 : Below v8.heap.size v8 v9 := (Below.refl _ _).grown hg9 (Nat.le_refl _) (fun k h => (by cases h)); have hD9 := HD8.out.step hb9; rw [made7] at ho9; clear c0 c1 c2 c3 f0 f1 f2 f3 d0 d1 d2 d3 d4 d5 d6 d7; obtain ⟨_, _, _, c3, _, _, _, f3⟩ := hD9.cells; have HM : Hid (Db w v (v9.setCell ⟨v7.heap.size, 3, none⟩ (.slice (some ⟨v8.heap.size, 0, none⟩) 7 7)) SB ca cn cc (t7 + 1) v7.heap.size p h m (some ⟨v8.heap.size, 0, none⟩) 7 [0, 0, 0, 0, 0, 0, 0]) := HD8.out.other hb9 ho9; obtain ⟨x0, x1, x2, x3, _⟩ := HM.out.cells; obtain ⟨d0, d1, d2, d3, d4, d5, d6, d7⟩ := cells4 HM.out.res; clear hD9 ho9 hg9))
  all_goals first
    | (obtain ⟨j0, j1, j2, j3⟩ := four_set HP0.out.res (.int .i64 z) (.int .i64 h) (.int .i64 m) (.slice va l.length vc); exact bodyPost_ret (v := .agg #[.int .i64 z, .int .i64 h, .int .i64 m, .slice va l.length vc]) (by simp [results, Tryd.results26, go_sem, j0, j1, j2, j3]) rfl (HP0.out.ret (by omega) (show l.length ≤ 7 by omega) rfl _ _ _ _))
    | (obtain ⟨j0, j1, j2, j3⟩ := four_set HP1.out.res (.int .i64 p) (.int .i64 z) (.int .i64 m) (.slice va l.length vc); exact bodyPost_ret (v := .agg #[.int .i64 p, .int .i64 z, .int .i64 m, .slice va l.length vc]) (by simp [results, Tryd.results26, go_sem, j0, j1, j2, j3]) rfl (HP1.out.ret (by omega) (show l.length ≤ 7 by omega) rfl _ _ _ _))
    | (obtain ⟨j0, j1, j2, j3⟩ := four_set HP2.out.res (.int .i64 p) (.int .i64 h) (.int .i64 z) (.slice va l.length vc); exact bodyPost_ret (v := .agg #[.int .i64 p, .int .i64 h, .int .i64 z, .slice va l.length vc]) (by simp [results, Tryd.results26, go_sem, j0, j1, j2, j3]) rfl (HP2.out.ret (by omega) (show l.length ≤ 7 by omega) rfl _ _ _ _))
    | (obtain ⟨j0, j1, j2, j3⟩ := four_set HM.out.res (.int .i64 p) (.int .i64 h) (.int .i64 m) (.slice (some ⟨v8.heap.size, 0, none⟩) 7 7); exact bodyPost_ret (v := .agg #[.int .i64 p, .int .i64 h, .int .i64 m, .slice (some ⟨v8.heap.size, 0, none⟩) 7 7]) (by simp [results, Tryd.results26, go_sem, j0, j1, j2, j3]) rfl (HM.out.ret (by omega) (show ([0, 0, 0, 0, 0, 0, 0] : List Int).length ≤ 7 by decide) rfl _ _ _ _))
    | (obtain ⟨j0, j1, j2, j3⟩ := four_set HD8.out.res (.int .i64 p) (.int .i64 h) (.int .i64 m) (.slice va l.length vc); exact bodyPost_ret (v := .agg #[.int .i64 p, .int .i64 h, .int .i64 m, .slice va l.length vc]) (by simp [results, Tryd.results26, go_sem, j0, j1, j2, j3]) rfl (HD8.out.ret (by omega) (show l.length ≤ 7 by omega) rfl _ _ _ _))
    | skip
  all_goals
    have hcall := l1Pick_any SB cn cc (t7 + 1) 3 3 ca (some ⟨v8.heap.size, 0, none⟩) l0 [0, 61, 5] w (v8.alloc (.cells #[.int .i64 0, .int .i64 61, .int .i64 5] 2)).drew (by omega) (by omega) (by omega) hcn HBA.out ((HD8.out.src.step (below_box _)).step (Below.refl _ _).drew) ((iat3 v8 0 61 5).below (Below.refl _ _).drew (Nat.le_refl _)) (fun b off e => by cases e; omega)
    have HD8d : Hid (Db w v (v8.alloc (.cells #[.int .i64 0, .int .i64 61, .int .i64 5] 2)).drew SB ca cn cc (t7 + 1) v7.heap.size p h m va vc l) := (HD8.out.step (below_box _)).step (Below.refl _ _).drew
    have q3 := (HD8.out.step (below_box (.cells #[.int .i64 0, .int .i64 61, .int .i64 5] 2))).cells.2.2.2.1
    have q4 := HD8d.out.cells.2.2.2.1
    go_region_law (first
      | (refine step_append_run (by rfl) _ _ _ (by rfl) (by rfl) (by rfl) hrun ?_)
      | (rw [if_pos (by rfl)]; go_simp; go_at_call 20; (with_reducible refine hcall.mono ?_); clear hcall; rintro e v9 ⟨z, rfl, hz, hS9, hc9⟩; have HD9 : Hid (Db w v v9 SB ca cn cc (t7 + 1 + 1) v7.heap.size p h m va vc l) := HD8d.out.draw hS9 hc9; have k3 := HD9.out.cells.2.2.2.1; have k4 := (HD9.out.step (below_box (.cells #[.int .i64 z] 2))).cells.2.2.2.1; obtain ⟨g, cap, w5, hrun, ⟨c3', f3'⟩, HD10⟩ := HD9.out.more (k := z) (by omega); obtain ⟨x0, x1, x2, x3, _⟩ := HD10.out.cells; obtain ⟨y0, y1, y2, y3, y4, y5, y6, y7⟩ := cells4 HD10.out.res; clear hS9 hc9))
    all_goals
      go_wp2
      (obtain ⟨j0, j1, j2, j3⟩ := four_set HD10.out.res (.int .i64 p) (.int .i64 h) (.int .i64 m) (.slice (some ⟨g, 0, none⟩) (l.length + 1) cap); exact bodyPost_ret (v := .agg #[.int .i64 p, .int .i64 h, .int .i64 m, .slice (some ⟨g, 0, none⟩) (l.length + 1) cap]) (by simp [results, Tryd.results26, go_sem, j0, j1, j2, j3]) rfl (HD10.out.ret (by omega) (show (l ++ [z]).length ≤ 7 by simp; omega) (by simp) _ _ _ _))

end Go.Proofs.YtlacmcedpphphaaDoor
