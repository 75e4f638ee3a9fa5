/- IsRipe: the program's, the specification's, and the law's walk. -/
import Derived.Test.YtagokfoimokniaaGreatDoorJn2
namespace Go.Proofs.YtagokfoimokniaaGreatDoor
open Go.RowKit Go.Maps Go.WideMaps

def ripeB (h : Int) (m : Bool) (t : Int) : Bool := inB h 0 999 && inB t 0 999 && (!m || decide (h + 2 ≤ t))

theorem inB_bounds {v a b : Int} (h : inB v a b = true) : a ≤ v ∧ v ≤ b := by simpa [inB] using h

set_option maxRecDepth 20000 in
set_option maxHeartbeats 2000000 in
theorem iIsRipe_any (p q v : Int) (a : Option Addr) (n cap : Nat) (x y h t : Int) (m : Bool) (w : World) :
    Calls Tryz.prog 11 #[.agg #[.int .i64 p, .int .i64 q, .int .i64 v, .slice a n cap, .int .i64 x, .int .i64 y, .int .i64 h, .bool m], .int .i64 t] w fun e w' => e = .returned (.bool (ripeB h m t)) ∧ Below w.heap.size w w' := by
  have hbx : Below w.heap.size w (w.alloc (.cells #[.int .i64 p, .int .i64 q, .int .i64 v, .slice a n cap, .int .i64 x, .int .i64 y, .int .i64 h, .bool m] 54)) := below_box _
  have hX := heap_alloc_new w (.cells #[.int .i64 p, .int .i64 q, .int .i64 v, .slice a n cap, .int .i64 x, .int .i64 y, .int .i64 h, .bool m] 54)
  obtain ⟨⟨s0, s1, s2, s3, s4, s5, s6, s7⟩, _⟩ := cells8 hX
  obtain ⟨kt, hkt⟩ : ∃ k, k = inB t 0 999 := ⟨_, rfl⟩
  obtain ⟨kh, hkh⟩ : ∃ k, k = inB h 0 999 := ⟨_, rfl⟩
  have h1 : ∀ u, Calls Tryz.prog 39 #[.int .i64 t] u fun e w' => e = .returned (.bool kt) ∧ w' = u := fun u => by rw [hkt]; exact isHeight_any _ u
  have h2 : ∀ u, Calls Tryz.prog 39 #[.int .i64 h] u fun e w' => e = .returned (.bool kh) ∧ w' = u := fun u => by rw [hkh]; exact isHeight_any _ u
  have hr : ripeB h m t = (kh && kt && (!m || decide (h + 2 ≤ t))) := by unfold ripeB; rw [hkt, hkh]
  rw [hr]
  have HBX : Hid (Below w.heap.size w (w.alloc (.cells #[.int .i64 p, .int .i64 q, .int .i64 v, .slice a n cap, .int .i64 x, .int .i64 y, .int .i64 h, .bool m] 54))) := hbx
  have HKH : Hid (inB h 0 999 = kh) := hkh.symm
  clear hr hbx hX hkt hkh
  cases kh with
  | false =>
    go_enter Tryz.func11, Tryz.ntmps11
    go_wp2_with (go_at_call 39; (with_reducible refine (h2 _).mono ?_); clear h2; rintro e w' ⟨rfl, hw⟩; have hw2 := hw.symm; subst hw2)
    go_ret
    exact ⟨by simp, HBX.out⟩
  | true =>
    have hb : 0 ≤ h ∧ h ≤ 999 := inB_bounds HKH.out
    have hw : IntKind.i64.wrap (h + 2) = h + 2 := IntWalk.i64_in _ (by omega)
    cases kt with
    | false =>
      go_enter Tryz.func11, Tryz.ntmps11
      go_wp2_with (go_at_call 39; (first | ((with_reducible refine (h2 _).mono ?_); clear h2) | ((with_reducible refine (h1 _).mono ?_); clear h1)); rintro e w' ⟨rfl, hw⟩; have hw2 := hw.symm; subst hw2)
      go_ret
      exact ⟨by simp, HBX.out⟩
    | true =>
      cases m with
      | false =>
        go_enter Tryz.func11, Tryz.ntmps11
        go_wp2_with (go_at_call 39; (first | ((with_reducible refine (h2 _).mono ?_); clear h2) | ((with_reducible refine (h1 _).mono ?_); clear h1)); rintro e w' ⟨rfl, hw⟩; have hw2 := hw.symm; subst hw2)
        go_ret
        exact ⟨by simp, HBX.out⟩
      | true =>
        go_enter Tryz.func11, Tryz.ntmps11
        go_wp2_with (go_at_call 39; (first | ((with_reducible refine (h2 _).mono ?_); clear h2) | ((with_reducible refine (h1 _).mono ?_); clear h1)); rintro e w' ⟨rfl, hw⟩; have hw2 := hw.symm; subst hw2)
        go_ret
        exact ⟨by simp, HBX.out⟩

end Go.Proofs.YtagokfoimokniaaGreatDoor
