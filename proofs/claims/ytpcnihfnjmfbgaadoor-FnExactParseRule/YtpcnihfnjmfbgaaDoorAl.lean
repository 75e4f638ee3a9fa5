/- The specification's ParseRule. -/
import Derived.Test.YtpcnihfnjmfbgaaDoorAk
namespace Go.Proofs.YtpcnihfnjmfbgaaDoor
open Go.RowKit Go.Shelf Go.Maps Go.WideMaps

set_option maxRecDepth 20000 in
set_option maxHeartbeats 4000000 in
theorem sParseRule_any (t : List UInt8) (w : World) (ht : t.length ≤ 1048576) :
    Calls Tryd.prog 4 #[.string (str t)] w fun e w' => OutPr w w' e t := by
  have HB1 : Hid (Below w.heap.size w (w.alloc (.cells #[.int .i64 0, .slice none 0 0, .int .i64 0, .int .i64 0] 26))) := below_box _
  have HR1 : Hid ((w.alloc (.cells #[.int .i64 0, .slice none 0 0, .int .i64 0, .int .i64 0] 26)).heap[w.heap.size]? = some (.cells #[.int .i64 0, .slice none 0 0, .int .i64 0, .int .i64 0] 26 (0, 0))) := heap_alloc_new _ _
  have hP := l2Parse_any t (w.alloc (.cells #[.int .i64 0, .slice none 0 0, .int .i64 0, .int .i64 0] 26)) ht
  have hsz1 : (w.alloc (.cells #[.int .i64 0, .slice none 0 0, .int .i64 0, .int .i64 0] 26)).heap.size = w.heap.size + 1 := by simp
  obtain ⟨ok, hok⟩ : ∃ b, b = (parU t).2 := ⟨_, rfl⟩
  have hP' : Calls Tryd.prog 9 #[.string (str t)] (w.alloc (.cells #[.int .i64 0, .slice none 0 0, .int .i64 0, .int .i64 0] 26)) fun e w' => ∃ (l : List Int) (x y : Int) (va : Option Addr) (vc : Nat), e = .returned (.tuple #[.agg #[.slice va l.length vc, .int .i64 x, .int .i64 y], .bool ok]) ∧ Hid (w'.ownsRow (w.heap.size + 1) 2 1 (.slice va l.length vc) l.length (ints l)) ∧ Hid ((parU t).2 = true → (parU t).1 = (l, x, y)) ∧ Hid (Below (w.heap.size + 1) (w.alloc (.cells #[.int .i64 0, .slice none 0 0, .int .i64 0, .int .i64 0] 26)) w') := by
    refine hP.mono fun e w' ⟨hb, l, x, y, va, vc, e1, hO, hq⟩ => ⟨l, x, y, va, vc, by rw [e1, hok], ?_, hq, ?_⟩
    · rw [hsz1] at hO; exact hO
    · rw [hsz1] at hb; exact hb
  have HOK : Hid (ok = (parU t).2) := hok
  clear hP hsz1 hok
  cases ok
  · have HPR : Hid (prR t = (5, ([], 0, 0))) := by
      show _ = _
      unfold prR
      rw [← HOK.out, if_neg (by simp)]
    go_enter Tryd.func4, Tryd.ntmps4
    go_wp2_with (first
      | (go_at_call 9; (with_reducible refine hP'.mono ?_); clear hP'; rintro e u2 ⟨l, x, y, va, vc, rfl, HO2, HQ, HB2⟩; have hbx := below_box (w := u2) (.cells #[.slice va l.length vc, .int .i64 x, .int .i64 y] 24); have HR3 := keepb ((HB2.out.block w.heap.size (by omega)).trans HR1.out) hbx; have HB3 : Hid (Below w.heap.size w (u2.alloc (.cells #[.slice va l.length vc, .int .i64 x, .int .i64 y] 24))) := (HB1.out.trans (HB2.out.mono (by omega))).trans (hbx.mono (by have := HB2.out.size; simp at this; omega)); obtain ⟨q0, q1, q2, q3, q4, q5, q6, q7⟩ := cells4 HR3.out; clear hbx))
    obtain ⟨j0, j1, j2, j3⟩ := four_set HR3.out (.int .i64 5) (.slice none 0 0) (.int .i64 0) (.int .i64 0)
    refine bodyPost_ret (v := .agg #[.int .i64 5, .slice none 0 0, .int .i64 0, .int .i64 0]) (by simp [results, Tryd.results4, go_sem, j0, j1, j2, j3]) rfl ?_
    refine ⟨four_belowR HB3.out (Nat.le_refl _) _ _ _ _, none, 0, by rw [HPR.out]; rfl, ?_⟩
    rw [HPR.out]
    exact World.ownsRow_nil _ _ _ _
  · go_enter Tryd.func4, Tryd.ntmps4
    go_wp2_with (first
      | (go_at_call 9; (with_reducible refine hP'.mono ?_); clear hP'; rintro e u2 ⟨l, x, y, va, vc, rfl, HO2, HQ, HB2⟩; have hbx := below_box (w := u2) (.cells #[.slice va l.length vc, .int .i64 x, .int .i64 y] 24); have HR3 := keepb ((HB2.out.block w.heap.size (by omega)).trans HR1.out) hbx; have HB3 : Hid (Below w.heap.size w (u2.alloc (.cells #[.slice va l.length vc, .int .i64 x, .int .i64 y] 24))) := (HB1.out.trans (HB2.out.mono (by omega))).trans (hbx.mono (by have := HB2.out.size; simp at this; omega)); have HX3 : Hid ((u2.alloc (.cells #[.slice va l.length vc, .int .i64 x, .int .i64 y] 24)).heap[u2.heap.size]? = some (.cells #[.slice va l.length vc, .int .i64 x, .int .i64 y] 24 (0, 0))) := heap_alloc_new _ _; obtain ⟨q0, q1, q2, q3, q4, q5, q6, q7⟩ := cells4 HR3.out; obtain ⟨x0, x1, x2⟩ := cells3 HX3.out; clear hbx))
    have HPR : Hid (prR t = (0, (l, x, y))) := by
      show _ = _
      unfold prR
      rw [← HOK.out, if_pos rfl, HQ.out HOK.out.symm]
    obtain ⟨j0, j1, j2, j3⟩ := four_set HR3.out (.int .i64 0) (.slice va l.length vc) (.int .i64 x) (.int .i64 y)
    refine bodyPost_ret (v := .agg #[.int .i64 0, .slice va l.length vc, .int .i64 x, .int .i64 y]) (by simp [results, Tryd.results4, go_sem, j0, j1, j2, j3]) rfl ?_
    refine ⟨four_belowR HB3.out (Nat.le_refl _) _ _ _ _, va, vc, by rw [HPR.out], ?_⟩
    rw [HPR.out]
    exact four_rowR (HO2.out.alloc _) (by omega) (by omega) _ _ _ _

end Go.Proofs.YtpcnihfnjmfbgaaDoor
