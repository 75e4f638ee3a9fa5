/- The specification's l3Parse and ParseTx keep their contract, whatever text comes in. -/
import Derived.Test.YtppfhepipadepaaGreatDoorBj0
import Derived.Test.YtppfhepipadepaaGreatDoorBj1
import Derived.Test.YtppfhepipadepaaGreatDoorBj2
namespace Go.Proofs.YtppfhepipadepaaGreatDoor
open Go.RowKit Go.Shelf Go.Maps Go.WideMaps

set_option maxHeartbeats 2000000 in
theorem l3Parse_no (t : List UInt8) (w : World) (ht : t.length ≤ 1048576) (h0 : ¬ (cutL 32 t).getD 0 [] = [112, 97, 121]) (h1 : ¬ (cutL 32 t).getD 0 [] = [106, 111, 105, 110]) (h2 : ¬ (cutL 32 t).getD 0 [] = [108, 101, 97, 118, 101]) : Calls Tryz.prog 30 #[.string (str t)] w fun e w' => OutSp w w' e t := by
  obtain ⟨ws, hws⟩ : ∃ l, l = cutL 32 t := ⟨_, rfl⟩
  obtain ⟨N, hN⟩ : ∃ N, N = ws.length := ⟨_, rfl⟩
  obtain ⟨w0, hw0⟩ : ∃ x, x = ws.getD 0 [] := ⟨_, rfl⟩
  rw [← hws, ← hw0] at h0 h1 h2
  have hcut := cut_start t w ht
  rw [← hws, ← hN] at hcut
  have hN0 : 0 < N := by rw [hN, hws]; exact List.length_pos_iff.2 (cutL_ne 32 t)
  have hN0i : (0 : Int) < ((N : Nat) : Int) := by omega
  have HN : Hid (ws.length = N) := hN.symm
  have HI : Hid (∀ (u : World) (g vc : Nat), u.ownsRow (w.heap.size + 1) 9 1 (.slice (some ⟨g, 0, none⟩) N vc) N (texts ws) → Below (w.heap.size + 1) (w.alloc (.cells #[.int .i64 0, .int .i64 0, .slice none 0 0, .slice none 0 0] 30)) u → Sl w (u.alloc (.cells #[.int .i64 0, .int .i64 0, .slice none 0 0, .slice none 0 0] 30)) g ws u.heap.size (u.heap.size + 1) 0 0 none 0 0 [] none 0 0 none 0 0 [] (fun _ => .slice none 0 0)) := fun u g vc q1 q2 => sl_start 0 0 HN.out q1 q2
  have HW0 : Hid (w0 = ws.getD 0 []) := hw0
  have HNO : Hid (parT t = none) := by
    show kept (sread t) t = none
    have e : sread t = none := by
      unfold sread
      rw [← hws]
      cases hq : ws with
      | nil => rfl
      | cons a r =>
        have : w0 = a := by rw [hw0, hq]; rfl
        rw [this] at h0 h1 h2
        simp only [if_neg h0, if_neg h1, if_neg h2]
    rw [e]; rfl
  have ej : ((str w0).toList == [106, 111, 105, 110]) = false := by rw [str_is, decide_eq_false h1]
  have el : ((str w0).toList == [108, 101, 97, 118, 101]) = false := by rw [str_is, decide_eq_false h2]
  have ep : ((str w0).toList == [112, 97, 121]) = false := by rw [str_is, decide_eq_false h0]
  clear hws hN hw0 h0 h1 h2
  go_enter Tryz.func30, Tryz.ntmps30
  go_wp2_with (first | (go_at_call 49; have hq := hcut; clear hcut; (with_reducible refine hq.mono ?_); clear hq; rintro e u2 ⟨g, vc, rfl, HO2, HB2⟩; have HS0 : Hid (Sl w (u2.alloc (.cells #[.int .i64 0, .int .i64 0, .slice none 0 0, .slice none 0 0] 30)) g ws u2.heap.size (u2.heap.size + 1) 0 0 none 0 0 [] none 0 0 none 0 0 [] (fun _ => .slice none 0 0)) := HI.out u2 g vc HO2.out HB2.out; obtain ⟨p0, p1, p2, p3, p4, p5, p6, p7⟩ := cells4 HS0.out.box; obtain ⟨r0, r1, r2, r3, r4, r5, r6, r7⟩ := cells4 HS0.out.res; have s0 := HS0.out.wd 0 (by rw [HN.out]; exact hN0); rw [← HW0.out] at s0))
  obtain ⟨j0, j1, j2, j3⟩ := four_set HS0.out.res (.int .i64 0) (.int .i64 0) (.slice none 0 0) (.slice none 0 0)
  refine bodyPost_ret (v := .tuple #[.agg #[.int .i64 0, .int .i64 0, .slice none 0 0, .slice none 0 0], .bool false]) (by simp [results, Tryz.results30, go_sem, j0, j1, j2, j3]) rfl ?_
  exact ⟨four_belowR HS0.out.bel (Nat.le_refl _) _ _ _ _, .inr ⟨HNO.out, _, _, _, _, _, _, _, _, rfl⟩⟩
theorem l3Parse_any (t : List UInt8) (w : World) (ht : t.length ≤ 1048576) : Calls Tryz.prog 30 #[.string (str t)] w fun e w' => OutSp w w' e t := by
  by_cases h0 : (cutL 32 t).getD 0 [] = [112, 97, 121]
  · exact l3Parse_0 t w ht h0
  · by_cases h1 : (cutL 32 t).getD 0 [] = [106, 111, 105, 110]
    · exact l3Parse_1 t w ht h1
    · by_cases h2 : (cutL 32 t).getD 0 [] = [108, 101, 97, 118, 101]
      · exact l3Parse_2 t w ht h2
      · exact l3Parse_no t w ht h0 h1 h2

end Go.Proofs.YtppfhepipadepaaGreatDoor
