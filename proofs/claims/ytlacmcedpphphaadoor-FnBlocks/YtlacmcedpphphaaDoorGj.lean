/- The program's ParseBlock keeps its contract. -/
import Derived.Test.YtlacmcedpphphaaDoorGi
import Derived.Test.YtlacmcedpphphaaDoorFh
namespace Go.Proofs.YtlacmcedpphphaaDoor
open Go.RowKit Go.Shelf Go.Maps Go.WideMaps

set_option maxRecDepth 20000 in
set_option maxHeartbeats 4000000 in
theorem iParseBlock_any (t : List UInt8) (w : World) (ht : t.length ≤ 1048576) (hTb : Tb w) :
    Calls Tryd.prog 6 #[.string (str t)] w fun e w' => OutB w w' e t := by
  have HB1 : Hid (Below w.heap.size w (w.alloc (.cells #[.int .i64 0, .int .i64 0, .int .i64 0, .int .i64 0, .slice none 0 0] 29))) := below_box _
  have HR1 : Hid ((w.alloc (.cells #[.int .i64 0, .int .i64 0, .int .i64 0, .int .i64 0, .slice none 0 0] 29)).heap[w.heap.size]? = some (.cells #[.int .i64 0, .int .i64 0, .int .i64 0, .int .i64 0, .slice none 0 0] 29 (0, 0))) := heap_alloc_new _ _
  have HTB : Hid (Tb w) := hTb
  clear hTb
  cases hr : rbR t with
  | none =>
    have HPB : Hid (pbR t = (5, (0, 0, 0, []))) := pbR_not (fun p h m l e _ _ => by rw [hr] at e; cases e)
    have hP : Calls Tryd.prog 21 #[.string (str t)] (w.alloc (.cells #[.int .i64 0, .int .i64 0, .int .i64 0, .int .i64 0, .slice none 0 0] 29)) fun e w' => ∃ (p h m : Int) (l : List Int) (va : Option Addr) (vc : Nat), e = .returned (.tuple #[.agg #[.int .i64 p, .int .i64 h, .int .i64 m, .slice va l.length vc], .bool false]) ∧ Hid (Below (w.heap.size + 1) (w.alloc (.cells #[.int .i64 0, .int .i64 0, .int .i64 0, .int .i64 0, .slice none 0 0] 29)) w') := by
      refine (readBlock_any t _ ht).mono fun e w' ⟨hb, p, h, m, l, va, vc, e1, _⟩ => ⟨p, h, m, l, va, vc, by rw [e1, hr]; rfl, ?_⟩
      have := hb; simp at this; exact this
    clear hr
    go_enter Tryd.func6, Tryd.ntmps6
    go_wp2_with (first
      | (go_at_call 21; (with_reducible refine hP.mono ?_); clear hP; rintro e u2 ⟨p, h, m, l, va, vc, rfl, HB2⟩; have hbx := below_box (w := u2) (.cells #[.int .i64 p, .int .i64 h, .int .i64 m, .slice va l.length vc] 27); have HB3 : Hid (Below w.heap.size w (u2.alloc (.cells #[.int .i64 p, .int .i64 h, .int .i64 m, .slice va l.length vc] 27))) := (HB1.out.trans (HB2.out.mono (by omega))).trans (hbx.mono (by have := HB2.out.size; simp at this; omega)); have HR3 : Hid ((u2.alloc (.cells #[.int .i64 p, .int .i64 h, .int .i64 m, .slice va l.length vc] 27)).heap[w.heap.size]? = some (.cells #[.int .i64 0, .int .i64 0, .int .i64 0, .int .i64 0, .slice none 0 0] 29 (0, 0))) := (keepb ((HB2.out.block w.heap.size (by omega)).trans HR1.out) hbx).out; obtain ⟨⟨r0, r1, r2, r3, r4⟩, f0, f1, f2, f3, f4⟩ := cells5 HR3.out; clear hbx))
    obtain ⟨j0, j1, j2, j3, j4⟩ := five_set HR3.out (.int .i64 5) (.int .i64 0) (.int .i64 0) (.int .i64 0) (.slice none 0 0)
    refine bodyPost_ret (v := .agg #[.int .i64 5, .int .i64 0, .int .i64 0, .int .i64 0, .slice none 0 0]) (by simp [results, Tryd.results6, go_sem, j0, j1, j2, j3, j4]) rfl ?_
    refine ⟨five_below HB3.out (Nat.le_refl _) _ _ _ _ _, none, 0, by rw [HPB.out]; rfl, ?_⟩
    rw [HPB.out]
    exact World.ownsRow_nil _ _ _ _
  | some r =>
    obtain ⟨p, h, m, l⟩ := r
    have HRR : Hid (rbR t = some (p, h, m, l)) := hr
    have hP : Calls Tryd.prog 21 #[.string (str t)] (w.alloc (.cells #[.int .i64 0, .int .i64 0, .int .i64 0, .int .i64 0, .slice none 0 0] 29)) fun e w' => ∃ (va : Option Addr) (vc : Nat), e = .returned (.tuple #[.agg #[.int .i64 p, .int .i64 h, .int .i64 m, .slice va l.length vc], .bool true]) ∧ Hid (w'.ownsRow (w.heap.size + 1) 2 1 (.slice va l.length vc) l.length (ints l)) ∧ Hid (l.length ≤ 1048576) ∧ Hid (Below (w.heap.size + 1) (w.alloc (.cells #[.int .i64 0, .int .i64 0, .int .i64 0, .int .i64 0, .slice none 0 0] 29)) w') := by
      refine (readBlock_any t _ ht).mono fun e w' ⟨hb, p', h', m', l', va, vc, e1, hO, hl, hq⟩ => ?_
      cases hq _ hr
      refine ⟨va, vc, by rw [e1, hr]; rfl, ?_, hl, ?_⟩
      · have := hO; simp at this; exact this
      · have := hb; simp at this; exact this
    obtain ⟨cd, hcd⟩ : ∃ c, c = (btR p h m l).1 := ⟨_, rfl⟩
    obtain ⟨tx, htx⟩ : ∃ c, c = str (btR p h m l).2 := ⟨_, rfl⟩
    have HBT : Hid (∀ (u2 : World) (va : Option Addr) (vc : Nat), u2.ownsRow (w.heap.size + 1) 2 1 (.slice va l.length vc) l.length (ints l) → l.length ≤ 1048576 → Below (w.heap.size + 1) (w.alloc (.cells #[.int .i64 0, .int .i64 0, .int .i64 0, .int .i64 0, .slice none 0 0] 29)) u2 → Calls Tryd.prog 7 #[.agg #[.int .i64 p, .int .i64 h, .int .i64 m, .slice va l.length vc]] (u2.alloc (.cells #[.int .i64 p, .int .i64 h, .int .i64 m, .slice va l.length vc] 27)) fun e w' => e = .returned (.agg #[.int .i64 cd, .string tx]) ∧ Hid (Below (u2.heap.size + 1) (u2.alloc (.cells #[.int .i64 p, .int .i64 h, .int .i64 m, .slice va l.length vc] 27)) w')) := fun u2 va vc hO hl hb => by
      have hc := row_caps hO
      have hbx := below_box (w := u2) (.cells #[.int .i64 p, .int .i64 h, .int .i64 m, .slice va l.length vc] 27)
      have hbu : Below w.heap.size w (u2.alloc (.cells #[.int .i64 p, .int .i64 h, .int .i64 m, .slice va l.length vc] 27)) := (HB1.out.trans (hb.mono (by omega))).trans (hbx.mono (by have := hb.size; simp at this; omega))
      rw [hcd, htx]
      refine (iBlockText_any l.length vc va p h m l (u2.alloc (.cells #[.int .i64 p, .int .i64 h, .int .i64 m, .slice va l.length vc] 27)) hl hc.1 hc.2 ((iat_row hO rfl).below hbx (Nat.le_refl _)) (HTB.out.below hbu (Nat.le_refl _))).mono fun e w' ⟨h1, h2⟩ => ⟨h1, ?_⟩
      have := h2; simp at this; exact this
    have HCD : Hid (cd = blR p h m l ∧ (cd = 0 → tx = str (blT p h m l))) := by
      show _ ∧ _
      rw [hcd, htx]
      unfold btR
      by_cases hz : blR p h m l ≠ 0
      · rw [if_pos hz]; exact ⟨rfl, fun e => absurd e hz⟩
      · rw [if_neg hz]; exact ⟨by simp at hz; exact hz.symm, fun _ => rfl⟩
    clear hcd htx hr
    by_cases hz : cd = 0
    · subst hz
      by_cases he : blT p h m l = t
      · have HPB : Hid (pbR t = (0, (p, h, m, l))) := pbR_read HCD.out.1.symm he
        have hE : (tx.toList == (str t).toList) = true := str_yes (by rw [HCD.out.2 rfl, he])
        clear he
        go_enter Tryd.func6, Tryd.ntmps6
        go_wp2_with (first
          | (go_at_call 21; (with_reducible refine hP.mono ?_); clear hP; rintro e u2 ⟨va, vc, rfl, HO2, HL, HB2⟩; have hBT := HBT.out u2 va vc HO2.out HL.out HB2.out)
          | (go_at_call 7; (with_reducible refine hBT.mono ?_); clear hBT; rintro e u4 ⟨rfl, HB4⟩; have HX4 : Hid (u4.heap[u2.heap.size]? = some (.cells #[.int .i64 p, .int .i64 h, .int .i64 m, .slice va l.length vc] 27 (0, 0))) := (HB4.out.block u2.heap.size (by omega)).trans (heap_alloc_new _ _); have HR4 : Hid (u4.heap[w.heap.size]? = some (.cells #[.int .i64 0, .int .i64 0, .int .i64 0, .int .i64 0, .slice none 0 0] 29 (0, 0))) := (HB4.out.block w.heap.size (by have := HB2.out.size; simp at this; omega)).trans (keepb ((HB2.out.block w.heap.size (by omega)).trans HR1.out) (below_box (w := u2) (.cells #[.int .i64 p, .int .i64 h, .int .i64 m, .slice va l.length vc] 27))).out; have hbt := below_box (w := u4) (.cells #[.int .i64 0, .string tx] 32); have HX5 := keepb HX4.out hbt; have HR5 := keepb HR4.out hbt; have HB5 : Hid (Below w.heap.size w (u4.alloc (.cells #[.int .i64 0, .string tx] 32))) := (((HB1.out.trans (HB2.out.mono (by omega))).trans ((below_box (w := u2) (.cells #[.int .i64 p, .int .i64 h, .int .i64 m, .slice va l.length vc] 27)).mono (by have := HB2.out.size; simp at this; omega))).trans (HB4.out.mono (by have := HB2.out.size; simp at this; omega))).trans (hbt.mono (by have h1 := HB4.out.size; have h2 := HB2.out.size; simp at h1 h2; omega)); obtain ⟨⟨r0, r1, r2, r3, r4⟩, f0, f1, f2, f3, f4⟩ := cells5 HR5.out; obtain ⟨x0, x1, x2, x3, x4, x5, x6, x7⟩ := cells4 HX5.out; clear hbt))
        obtain ⟨j0, j1, j2, j3, j4⟩ := five_set HR5.out (.int .i64 0) (.int .i64 p) (.int .i64 h) (.int .i64 m) (.slice va l.length vc)
        refine bodyPost_ret (v := .agg #[.int .i64 0, .int .i64 p, .int .i64 h, .int .i64 m, .slice va l.length vc]) (by simp [results, Tryd.results6, go_sem, j0, j1, j2, j3, j4]) rfl ?_
        refine ⟨five_below HB5.out (Nat.le_refl _) _ _ _ _ _, va, vc, by rw [HPB.out], ?_⟩
        rw [HPB.out]
        have HO4 := (HO2.out.alloc (.cells #[.int .i64 p, .int .i64 h, .int .i64 m, .slice va l.length vc] 27)).kept (grown_of_below (w' := u4) (by have := HB4.out; simpa using this)) (by cases Value.ownBlock (.slice va l.length vc) <;> simp)
        exact five_row (HO4.alloc _) (by omega) (by omega) _ _ _ _ _
      · have HPB : Hid (pbR t = (5, (0, 0, 0, []))) := pbR_not (fun p' h' m' l' e _ h2 => by rw [HRR.out] at e; cases e; exact he h2)
        have hE : (tx.toList == (str t).toList) = false := str_no (by
          rw [HCD.out.2 rfl]
          intro e
          apply he
          have h2 := congrArg (fun s : ByteArray => s.data.toList) e
          simpa [str] using h2)
        clear he
        go_enter Tryd.func6, Tryd.ntmps6
        go_wp2_with (first
          | (go_at_call 21; (with_reducible refine hP.mono ?_); clear hP; rintro e u2 ⟨va, vc, rfl, HO2, HL, HB2⟩; have hBT := HBT.out u2 va vc HO2.out HL.out HB2.out)
          | (go_at_call 7; (with_reducible refine hBT.mono ?_); clear hBT; rintro e u4 ⟨rfl, HB4⟩; have HX4 : Hid (u4.heap[u2.heap.size]? = some (.cells #[.int .i64 p, .int .i64 h, .int .i64 m, .slice va l.length vc] 27 (0, 0))) := (HB4.out.block u2.heap.size (by omega)).trans (heap_alloc_new _ _); have HR4 : Hid (u4.heap[w.heap.size]? = some (.cells #[.int .i64 0, .int .i64 0, .int .i64 0, .int .i64 0, .slice none 0 0] 29 (0, 0))) := (HB4.out.block w.heap.size (by have := HB2.out.size; simp at this; omega)).trans (keepb ((HB2.out.block w.heap.size (by omega)).trans HR1.out) (below_box (w := u2) (.cells #[.int .i64 p, .int .i64 h, .int .i64 m, .slice va l.length vc] 27))).out; have hbt := below_box (w := u4) (.cells #[.int .i64 0, .string tx] 32); have HX5 := keepb HX4.out hbt; have HR5 := keepb HR4.out hbt; have HB5 : Hid (Below w.heap.size w (u4.alloc (.cells #[.int .i64 0, .string tx] 32))) := (((HB1.out.trans (HB2.out.mono (by omega))).trans ((below_box (w := u2) (.cells #[.int .i64 p, .int .i64 h, .int .i64 m, .slice va l.length vc] 27)).mono (by have := HB2.out.size; simp at this; omega))).trans (HB4.out.mono (by have := HB2.out.size; simp at this; omega))).trans (hbt.mono (by have h1 := HB4.out.size; have h2 := HB2.out.size; simp at h1 h2; omega)); obtain ⟨⟨r0, r1, r2, r3, r4⟩, f0, f1, f2, f3, f4⟩ := cells5 HR5.out; obtain ⟨x0, x1, x2, x3, x4, x5, x6, x7⟩ := cells4 HX5.out; clear hbt))
        obtain ⟨j0, j1, j2, j3, j4⟩ := five_set HR5.out (.int .i64 5) (.int .i64 0) (.int .i64 0) (.int .i64 0) (.slice none 0 0)
        refine bodyPost_ret (v := .agg #[.int .i64 5, .int .i64 0, .int .i64 0, .int .i64 0, .slice none 0 0]) (by simp [results, Tryd.results6, go_sem, j0, j1, j2, j3, j4]) rfl ?_
        refine ⟨five_below HB5.out (Nat.le_refl _) _ _ _ _ _, none, 0, by rw [HPB.out]; rfl, ?_⟩
        rw [HPB.out]
        exact World.ownsRow_nil _ _ _ _
    · have HPB : Hid (pbR t = (5, (0, 0, 0, []))) := pbR_not (fun p' h' m' l' e h1 _ => by rw [HRR.out] at e; cases e; exact hz (HCD.out.1.trans h1))
      go_enter Tryd.func6, Tryd.ntmps6
      go_wp2_with (first
        | (go_at_call 21; (with_reducible refine hP.mono ?_); clear hP; rintro e u2 ⟨va, vc, rfl, HO2, HL, HB2⟩; have hBT := HBT.out u2 va vc HO2.out HL.out HB2.out)
        | (go_at_call 7; (with_reducible refine hBT.mono ?_); clear hBT; rintro e u4 ⟨rfl, HB4⟩; have HX4 : Hid (u4.heap[u2.heap.size]? = some (.cells #[.int .i64 p, .int .i64 h, .int .i64 m, .slice va l.length vc] 27 (0, 0))) := (HB4.out.block u2.heap.size (by omega)).trans (heap_alloc_new _ _); have HR4 : Hid (u4.heap[w.heap.size]? = some (.cells #[.int .i64 0, .int .i64 0, .int .i64 0, .int .i64 0, .slice none 0 0] 29 (0, 0))) := (HB4.out.block w.heap.size (by have := HB2.out.size; simp at this; omega)).trans (keepb ((HB2.out.block w.heap.size (by omega)).trans HR1.out) (below_box (w := u2) (.cells #[.int .i64 p, .int .i64 h, .int .i64 m, .slice va l.length vc] 27))).out; have hbt := below_box (w := u4) (.cells #[.int .i64 cd, .string tx] 32); have HX5 := keepb HX4.out hbt; have HR5 := keepb HR4.out hbt; have HB5 : Hid (Below w.heap.size w (u4.alloc (.cells #[.int .i64 cd, .string tx] 32))) := (((HB1.out.trans (HB2.out.mono (by omega))).trans ((below_box (w := u2) (.cells #[.int .i64 p, .int .i64 h, .int .i64 m, .slice va l.length vc] 27)).mono (by have := HB2.out.size; simp at this; omega))).trans (HB4.out.mono (by have := HB2.out.size; simp at this; omega))).trans (hbt.mono (by have h1 := HB4.out.size; have h2 := HB2.out.size; simp at h1 h2; omega)); obtain ⟨⟨r0, r1, r2, r3, r4⟩, f0, f1, f2, f3, f4⟩ := cells5 HR5.out; obtain ⟨x0, x1, x2, x3, x4, x5, x6, x7⟩ := cells4 HX5.out; clear hbt))
      obtain ⟨j0, j1, j2, j3, j4⟩ := five_set HR5.out (.int .i64 5) (.int .i64 0) (.int .i64 0) (.int .i64 0) (.slice none 0 0)
      refine bodyPost_ret (v := .agg #[.int .i64 5, .int .i64 0, .int .i64 0, .int .i64 0, .slice none 0 0]) (by simp [results, Tryd.results6, go_sem, j0, j1, j2, j3, j4]) rfl ?_
      refine ⟨five_below HB5.out (Nat.le_refl _) _ _ _ _ _, none, 0, by rw [HPB.out]; rfl, ?_⟩
      rw [HPB.out]
      exact World.ownsRow_nil _ _ _ _

end Go.Proofs.YtlacmcedpphphaaDoor
