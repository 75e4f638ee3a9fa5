/- IsRipe: the program's, the specification's, and the law's walk. -/
import Derived.Test.YtkdkecbjjbkabaaCnB
namespace Go.Proofs.Ytkdkecbjjbkabaa
open Go.RowKit Go.Maps Go.WideMaps

def ripeB (h : Int) (m : Bool) (t : Int) : Bool := inB h 0 999 && inB t 0 999 && (!m || decide (h + 2 ≤ t))

theorem inB_bounds {v a b : Int} (h : inB v a b = true) : a ≤ v ∧ v ≤ b := by simpa [inB] using h

set_option maxHeartbeats 1000000 in
theorem l5Ripe_any (B : Nat) (h t : Int) (m : Bool) (w : World) (h6 : w.cell? ⟨B, 6, none⟩ = some (.int .i64 h)) (h7 : w.cell? ⟨B, 7, none⟩ = some (.bool m)) (hh : 0 ≤ h ∧ h ≤ 999) :
    Calls Try.prog 23 #[.pointer (some ⟨B, 0, none⟩), .int .i64 t] w fun e w' => e = .returned (.bool (!m || decide (h + 2 ≤ t))) ∧ w' = w := by
  have hw : IntKind.i64.wrap (h + 2) = h + 2 := IntWalk.i64_in _ (by omega)
  cases m with
  | false =>
    go_enter Try.func23, Try.ntmps23
    go_wp2
    go_ret
    exact ⟨by simp, rfl⟩
  | true =>
    go_enter Try.func23, Try.ntmps23
    go_wp2
    go_ret
    exact ⟨by simp, rfl⟩

set_option maxRecDepth 20000 in
set_option maxHeartbeats 2000000 in
theorem sIsRipe_any (p q v : Int) (a : Option Addr) (n cap : Nat) (x y h t : Int) (m : Bool) (w : World) :
    Calls Try.prog 7 #[.agg #[.int .i64 p, .int .i64 q, .int .i64 v, .slice a n cap, .int .i64 x, .int .i64 y, .int .i64 h, .bool m], .int .i64 t] w fun e w' => e = .returned (.bool (ripeB h m t)) ∧ Below w.heap.size w w' := by
  have hbx : Below w.heap.size w (w.alloc (.cells #[.int .i64 p, .int .i64 q, .int .i64 v, .slice a n cap, .int .i64 x, .int .i64 y, .int .i64 h, .bool m] 38)) := below_box _
  have hX := heap_alloc_new w (.cells #[.int .i64 p, .int .i64 q, .int .i64 v, .slice a n cap, .int .i64 x, .int .i64 y, .int .i64 h, .bool m] 38)
  obtain ⟨⟨s0, s1, s2, s3, s4, s5, s6, s7⟩, _⟩ := cells8 hX
  obtain ⟨kt, hkt⟩ : ∃ k, k = inB t 0 999 := ⟨_, rfl⟩
  obtain ⟨kh, hkh⟩ : ∃ k, k = inB h 0 999 := ⟨_, rfl⟩
  have h1 : ∀ u, Calls Try.prog 22 #[.int .i64 t] u fun e w' => e = .returned (.bool kt) ∧ w' = u := fun u => by rw [hkt]; exact l2Height_any _ u
  have h2 : ∀ u, Calls Try.prog 22 #[.int .i64 h] u fun e w' => e = .returned (.bool kh) ∧ w' = u := fun u => by rw [hkh]; exact l2Height_any _ u
  have hr : ripeB h m t = (kh && kt && (!m || decide (h + 2 ≤ t))) := by unfold ripeB; rw [hkt, hkh]
  rw [hr]
  have HBX : Hid (Below w.heap.size w (w.alloc (.cells #[.int .i64 p, .int .i64 q, .int .i64 v, .slice a n cap, .int .i64 x, .int .i64 y, .int .i64 h, .bool m] 38))) := hbx
  have HKH : Hid (inB h 0 999 = kh) := hkh.symm
  clear hr hbx hX hkt hkh
  cases kt with
  | false =>
    go_enter Try.func7, Try.ntmps7
    go_wp2_with (go_at_call 22; (with_reducible refine (h1 _).mono ?_); clear h1; rintro e w' ⟨rfl, hw⟩; have hw2 := hw.symm; subst hw2)
    go_ret
    exact ⟨by simp, HBX.out⟩
  | true =>
    cases kh with
    | false =>
      go_enter Try.func7, Try.ntmps7
      go_wp2_with (go_at_call 22; (first | ((with_reducible refine (h1 _).mono ?_); clear h1) | ((with_reducible refine (h2 _).mono ?_); clear h2)); rintro e w' ⟨rfl, hw⟩; have hw2 := hw.symm; subst hw2)
      go_ret
      exact ⟨by simp, HBX.out⟩
    | true =>
      have hb : 0 ≤ h ∧ h ≤ 999 := inB_bounds HKH.out
      have h3 := l5Ripe_any w.heap.size h t m (w.alloc (.cells #[.int .i64 p, .int .i64 q, .int .i64 v, .slice a n cap, .int .i64 x, .int .i64 y, .int .i64 h, .bool m] 38)) s6 s7 hb
      obtain ⟨kr, hkr⟩ : ∃ k, k = (!m || decide (h + 2 ≤ t)) := ⟨_, rfl⟩
      rw [← hkr] at h3 ⊢
      clear hkr
      go_enter Try.func7, Try.ntmps7
      go_wp2_with (first
        | (go_at_call 22; (first | ((with_reducible refine (h1 _).mono ?_); clear h1) | ((with_reducible refine (h2 _).mono ?_); clear h2)); rintro e w' ⟨rfl, hw⟩; have hw2 := hw.symm; subst hw2)
        | (go_at_call 23; (with_reducible refine h3.mono ?_); clear h3; rintro e w' ⟨rfl, hw⟩; have hw2 := hw.symm; subst hw2))
      go_ret
      exact ⟨by simp, HBX.out⟩

set_option maxRecDepth 20000 in
set_option maxHeartbeats 2000000 in
theorem iIsRipe_any (p q v : Int) (a : Option Addr) (n cap : Nat) (x y h t : Int) (m : Bool) (w : World) :
    Calls Try.prog 9 #[.agg #[.int .i64 p, .int .i64 q, .int .i64 v, .slice a n cap, .int .i64 x, .int .i64 y, .int .i64 h, .bool m], .int .i64 t] w fun e w' => e = .returned (.bool (ripeB h m t)) ∧ Below w.heap.size w w' := by
  have hbx : Below w.heap.size w (w.alloc (.cells #[.int .i64 p, .int .i64 q, .int .i64 v, .slice a n cap, .int .i64 x, .int .i64 y, .int .i64 h, .bool m] 38)) := below_box _
  have hX := heap_alloc_new w (.cells #[.int .i64 p, .int .i64 q, .int .i64 v, .slice a n cap, .int .i64 x, .int .i64 y, .int .i64 h, .bool m] 38)
  obtain ⟨⟨s0, s1, s2, s3, s4, s5, s6, s7⟩, _⟩ := cells8 hX
  obtain ⟨kt, hkt⟩ : ∃ k, k = inB t 0 999 := ⟨_, rfl⟩
  obtain ⟨kh, hkh⟩ : ∃ k, k = inB h 0 999 := ⟨_, rfl⟩
  have h1 : ∀ u, Calls Try.prog 26 #[.int .i64 t] u fun e w' => e = .returned (.bool kt) ∧ w' = u := fun u => by rw [hkt]; exact isHeight_any _ u
  have h2 : ∀ u, Calls Try.prog 26 #[.int .i64 h] u fun e w' => e = .returned (.bool kh) ∧ w' = u := fun u => by rw [hkh]; exact isHeight_any _ u
  have hr : ripeB h m t = (kh && kt && (!m || decide (h + 2 ≤ t))) := by unfold ripeB; rw [hkt, hkh]
  rw [hr]
  have HBX : Hid (Below w.heap.size w (w.alloc (.cells #[.int .i64 p, .int .i64 q, .int .i64 v, .slice a n cap, .int .i64 x, .int .i64 y, .int .i64 h, .bool m] 38))) := hbx
  have HKH : Hid (inB h 0 999 = kh) := hkh.symm
  clear hr hbx hX hkt hkh
  cases kh with
  | false =>
    go_enter Try.func9, Try.ntmps9
    go_wp2_with (go_at_call 26; (with_reducible refine (h2 _).mono ?_); clear h2; rintro e w' ⟨rfl, hw⟩; have hw2 := hw.symm; subst hw2)
    go_ret
    exact ⟨by simp, HBX.out⟩
  | true =>
    have hb : 0 ≤ h ∧ h ≤ 999 := inB_bounds HKH.out
    have hw : IntKind.i64.wrap (h + 2) = h + 2 := IntWalk.i64_in _ (by omega)
    cases kt with
    | false =>
      go_enter Try.func9, Try.ntmps9
      go_wp2_with (go_at_call 26; (first | ((with_reducible refine (h2 _).mono ?_); clear h2) | ((with_reducible refine (h1 _).mono ?_); clear h1)); rintro e w' ⟨rfl, hw⟩; have hw2 := hw.symm; subst hw2)
      go_ret
      exact ⟨by simp, HBX.out⟩
    | true =>
      cases m with
      | false =>
        go_enter Try.func9, Try.ntmps9
        go_wp2_with (go_at_call 26; (first | ((with_reducible refine (h2 _).mono ?_); clear h2) | ((with_reducible refine (h1 _).mono ?_); clear h1)); rintro e w' ⟨rfl, hw⟩; have hw2 := hw.symm; subst hw2)
        go_ret
        exact ⟨by simp, HBX.out⟩
      | true =>
        go_enter Try.func9, Try.ntmps9
        go_wp2_with (go_at_call 26; (first | ((with_reducible refine (h2 _).mono ?_); clear h2) | ((with_reducible refine (h1 _).mono ?_); clear h1)); rintro e w' ⟨rfl, hw⟩; have hw2 := hw.symm; subst hw2)
        go_ret
        exact ⟨by simp, HBX.out⟩

end Go.Proofs.Ytkdkecbjjbkabaa
