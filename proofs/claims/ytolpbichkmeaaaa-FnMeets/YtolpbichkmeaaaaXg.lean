/- IsSafe and CanLock: the specification's and the program's. -/
import Derived.Test.YtolpbichkmeaaaaXe
namespace Go.Proofs.Ytolpbichkmeaaaa
open Go.RowKit Go.Maps Go.WideMaps Go.Sort

set_option maxRecDepth 20000 in
set_option maxHeartbeats 4000000 in
theorem l10Safe_any (P n c m d : Nat) (a b : Option Addr) (l t : List Int) (x : Int) (w : World) (hl : n ≤ 8) (hx0 : 1 ≤ x) (hx1 : x ≤ 8) (hm : m ≤ maxLen) (hI : IAt w a n l) (hJ : IAt w b m t)
    (hP : w.heap[P]? = some (.cells #[.slice a n c, .int .i64 x] 28 (0, 0))) :
    Calls Try.prog 49 #[.pointer (some ⟨P, 0, none⟩), .slice b m d] w fun e w' => e = .returned (.bool (decide ((badN l t : Int) < 2 * x - n))) ∧ Below w.heap.size w w' := by
  obtain ⟨p0, p1⟩ := cells2 hP
  have hmix : Try.prog.follows .mixedOrders = true := by kernel_rfl
  obtain ⟨q, hq⟩ : ∃ q : Int, q = badN l t := ⟨_, rfl⟩
  have cB : ∀ dd os, Calls Try.prog 50 #[.slice a n c, .slice b m d] (grow (redrawn w dd) os) fun e w'' => e = .returned (.int .i64 q) ∧ ∃ p : Regrown, w'' = grow (redrawn w p.d) p.os := fun dd os => Calls.regrown_of (by
    have hb := below_regrown w dd os
    have := l10Bad_any n c m d a b l t (grow (redrawn w dd) os) (by omega) hm (hI.below hb (Nat.le_refl _)) (hJ.below hb (Nat.le_refl _))
    rw [← hq] at this
    exact this.mono fun _ _ ⟨h1, h2⟩ => ⟨h1, by rw [h2]; exact Below.refl _ _⟩)
  rw [← hq]
  have a0 := cell_regrown p0
  have a1 := cell_regrown p1
  have m1 : IntKind.i64.wrap (2 * x) = 2 * x := IntWalk.i64_in _ (by omega)
  have m2 : IntKind.i64.wrap (2 * x - n) = 2 * x - n := IntWalk.i64_in _ (by omega)
  clear hq hI hJ hP p0 p1
  go_enter Try.func49, Try.ntmps49
  go_wp2
  refine wp_region_quiet_below hmix (by kernel_rfl) ?_
  repeat (go_big_quiet_step (first | exact cB _ _))
  refine wpQuiet_nil ?_
  intro _ hw'
  obtain ⟨⟨dq, osq⟩, hw''⟩ := hw'
  subst hw''
  go_wp2
  go_ret
  exact ⟨rfl, below_regrown w dq osq⟩

set_option maxRecDepth 20000 in
set_option maxHeartbeats 4000000 in
theorem sIsSafe_any (n c m d : Nat) (a b : Option Addr) (l t : List Int) (x : Int) (w : World) (hl : n ≤ 1048576) (hm : m ≤ maxLen) (hI : IAt w a n l) (hJ : IAt w b m t) :
    Calls Try.prog 16 #[.agg #[.slice a n c, .int .i64 x], .slice b m d] w fun e w' => e = .returned (.bool (safeR l x t)) ∧ Below w.heap.size w w' := by
  have B0 : QBx w (w.alloc (.cells #[.slice a n c, .int .i64 x] 28)) a n c x 28 := QBx.start
  have HB0 : Hid (QBx w (w.alloc (.cells #[.slice a n c, .int .i64 x] 28)) a n c x 28) := B0
  have hF := l10Fault_any w.heap.size n c a l x _ hl (B0.ints hI) B0.box
  obtain ⟨cd, hcd⟩ : ∃ r, r = quoR l x := ⟨_, rfl⟩
  rw [← hcd] at hF
  by_cases h0 : cd = 0
  · have hz := quoR_zero (hcd.symm.trans h0)
    have hn := hI.1
    have hr : safeR l x t = decide ((badN l t : Int) < 2 * x - n) := by unfold safeR; rw [if_pos (hcd.symm.trans h0), hn]
    rw [hr]
    have HS : Hid (∀ v, QBx w v a n c x 28 → Calls Try.prog 49 #[.pointer (some ⟨w.heap.size, 0, none⟩), .slice b m d] v fun e w' => e = .returned (.bool (decide ((badN l t : Int) < 2 * x - n))) ∧ Below v.heap.size v w') := fun v hv =>
      l10Safe_any w.heap.size n c m d a b l t x v (by omega) hz.2.1 (by omega) hm (hv.ints hI) (hJ.below hv.bel (Nat.le_refl _)) hv.box
    obtain ⟨rr, hrr⟩ : ∃ r, r = decide ((badN l t : Int) < 2 * x - n) := ⟨_, rfl⟩
    rw [← hrr] at HS ⊢
    subst h0
    clear hcd hI hJ hz hn hr hrr B0
    go_enter Try.func16, Try.ntmps16
    go_wp2_with (first
      | (go_at_call 48; (with_reducible refine hF.mono ?_); clear hF; rintro e w2 ⟨rfl, hb2⟩; have HB2 : Hid (QBx w w2 a n c x 28) := HB0.out.step hb2; have hs2 := HS.out _ HB2.out; clear hb2)
      | (go_at_call 49; (with_reducible refine hs2.mono ?_); clear hs2; rintro e w3 ⟨rfl, hb3⟩))
    go_ret
    exact ⟨rfl, (HB2.out.step hb3).bel⟩
  · have hr : safeR l x t = false := by unfold safeR; rw [if_neg (by rw [← hcd]; exact h0)]
    rw [hr]
    have hne : (cd == 0) = false := by simpa using h0
    clear hcd hI hJ hr B0 h0
    go_enter Try.func16, Try.ntmps16
    go_wp2_with (go_at_call 48; (with_reducible refine hF.mono ?_); clear hF; rintro e w2 ⟨rfl, hb2⟩; have HB2 : Hid (QBx w w2 a n c x 28) := HB0.out.step hb2)
    go_ret
    exact ⟨rfl, HB2.out.bel⟩

set_option maxRecDepth 20000 in
set_option maxHeartbeats 4000000 in
theorem sCanLock_any (n c m d : Nat) (a b : Option Addr) (l t : List Int) (x : Int) (w : World) (hl : n ≤ 1048576) (hm : m ≤ maxLen) (hI : IAt w a n l) (hJ : IAt w b m t) :
    Calls Try.prog 18 #[.agg #[.slice a n c, .int .i64 x], .slice b m d] w fun e w' => e = .returned (.bool (canR l x t)) ∧ Below w.heap.size w w' := by
  obtain ⟨W, hW⟩ : ∃ W, W = w.alloc (.cells #[.slice a n c, .int .i64 x] 28) := ⟨_, rfl⟩
  have B0 : QBx w W a n c x 28 := by rw [hW]; exact QBx.start
  have hmix : Try.prog.follows .mixedOrders = true := by kernel_rfl
  obtain ⟨cd, hcd⟩ : ∃ r, r = quoR l x := ⟨_, rfl⟩
  have cF : ∀ dd os, Calls Try.prog 48 #[.pointer (some ⟨w.heap.size, 0, none⟩)] (grow (redrawn W dd) os) fun e w'' => e = .returned (.int .i64 cd) ∧ ∃ p : Regrown, w'' = grow (redrawn W p.d) p.os := fun dd os => Calls.regrown_of (by
    have hb := B0.step (below_regrown W dd os)
    have := l10Fault_any w.heap.size n c a l x _ hl (hb.ints hI) hb.box
    rw [← hcd] at this
    exact this)
  obtain ⟨q, hq⟩ : ∃ q : Int, q = badN l t := ⟨_, rfl⟩
  have cB : ∀ dd os, Calls Try.prog 50 #[.slice a n c, .slice b m d] (grow (redrawn W dd) os) fun e w'' => e = .returned (.int .i64 q) ∧ ∃ p : Regrown, w'' = grow (redrawn W p.d) p.os := fun dd os => Calls.regrown_of (by
    have hb := B0.step (below_regrown W dd os)
    have := l10Bad_any n c m d a b l t (grow (redrawn W dd) os) (by omega) hm (hb.ints hI) (hJ.below hb.bel (Nat.le_refl _))
    rw [← hq] at this
    exact this.mono fun _ _ ⟨h1, h2⟩ => ⟨h1, by rw [h2]; exact Below.refl _ _⟩)
  obtain ⟨p0, p1⟩ := cells2 B0.box
  have a0 := cell_regrown p0
  have a1 := cell_regrown p1
  have HB0 : Hid (QBx w W a n c x 28) := B0
  have HW : Hid (W = w.alloc (.cells #[.slice a n c, .int .i64 x] 28)) := hW
  clear hW
  by_cases h0 : cd = 0
  · have hz := quoR_zero (hcd.symm.trans h0)
    have hn := hI.1
    have hr : canR l x t = decide (x ≤ (n : Int) - q) := by unfold canR; rw [if_pos (hcd.symm.trans h0), hn, hq]
    rw [hr]
    have hq2 := badN_le l t
    have m2 : IntKind.i64.wrap ((n : Int) - q) = (n : Int) - q := IntWalk.i64_in _ (by omega)
    have he : (cd == 0) = true := by simp [h0]
    clear hcd hI hJ hz hn hr B0 h0 hq hq2 p0 p1
    go_enter Try.func18, Try.ntmps18
    go_wp2
    rw [← HW.out]
    refine wp_region_quiet_below hmix (by kernel_rfl) ?_
    repeat (go_big_quiet_step (first | exact cF _ _ | exact cB _ _))
    refine wpQuiet_nil ?_
    intro _ hw'
    obtain ⟨⟨dq, osq⟩, hw''⟩ := hw'
    subst hw''
    go_wp2
    go_ret
    exact ⟨rfl, (HB0.out.step (below_regrown W dq osq)).bel⟩
  · have hr : canR l x t = false := by unfold canR; rw [if_neg (by rw [← hcd]; exact h0)]
    rw [hr]
    have hne : (cd == 0) = false := by simpa using h0
    clear hcd hI hJ hr B0 h0 hq p0 p1
    go_enter Try.func18, Try.ntmps18
    go_wp2
    rw [← HW.out]
    refine wp_region_quiet_below hmix (by kernel_rfl) ?_
    repeat (go_big_quiet_step (first | exact cF _ _ | exact cB _ _))
    refine wpQuiet_nil ?_
    intro _ hw'
    obtain ⟨⟨dq, osq⟩, hw''⟩ := hw'
    subst hw''
    go_wp2
    go_ret
    exact ⟨rfl, (HB0.out.step (below_regrown W dq osq)).bel⟩

set_option maxRecDepth 20000 in
set_option maxHeartbeats 4000000 in
theorem iIsSafe_any (n c m d : Nat) (a b : Option Addr) (l t : List Int) (x : Int) (w : World) (hl : n ≤ 1048576) (hm : m ≤ maxLen) (hI : IAt w a n l) (hJ : IAt w b m t) :
    Calls Try.prog 15 #[.agg #[.slice a n c, .int .i64 x], .slice b m d] w fun e w' => e = .returned (.bool (safeR l x t)) ∧ Below w.heap.size w w' := by
  obtain ⟨W, hW⟩ : ∃ W, W = w.alloc (.cells #[.slice a n c, .int .i64 x] 28) := ⟨_, rfl⟩
  have B0 : QBx w W a n c x 28 := by rw [hW]; exact QBx.start
  have hmix : Try.prog.follows .mixedOrders = true := by kernel_rfl
  obtain ⟨cd, hcd⟩ : ∃ r, r = quoR l x := ⟨_, rfl⟩
  have cF : ∀ dd os, Calls Try.prog 11 #[.agg #[.slice a n c, .int .i64 x]] (grow (redrawn W dd) os) fun e w'' => e = .returned (.int .i64 cd) ∧ ∃ p : Regrown, w'' = grow (redrawn W p.d) p.os := fun dd os => Calls.regrown_of (by
    have hb := B0.step (below_regrown W dd os)
    have := iQuorumFault_any n c a l x _ hl (hb.ints hI)
    rw [← hcd] at this
    exact this)
  have cS : ∀ dd os, Calls Try.prog 41 #[.agg #[.slice a n c, .int .i64 x]] (grow (redrawn W dd) os) fun e w'' => e = .returned (.int .i64 n) ∧ ∃ p : Regrown, w'' = grow (redrawn W p.d) p.os := fun dd os => Calls.regrown_of
    ((quSize_any a n c x _).mono fun _ _ ⟨h1, h2⟩ => ⟨h1, by rw [h2]; exact below_box _⟩)
  obtain ⟨q, hq⟩ : ∃ q : Int, q = badN l t := ⟨_, rfl⟩
  have cB : ∀ dd os, Calls Try.prog 47 #[.agg #[.slice a n c, .int .i64 x], .slice b m d] (grow (redrawn W dd) os) fun e w'' => e = .returned (.int .i64 q) ∧ ∃ p : Regrown, w'' = grow (redrawn W p.d) p.os := fun dd os => Calls.regrown_of (by
    have hb := B0.step (below_regrown W dd os)
    have := countBad_any n c m d a b l t x (grow (redrawn W dd) os) hl hm (hb.ints hI) (hJ.below hb.bel (Nat.le_refl _))
    rw [← hq] at this
    exact this)
  obtain ⟨p0, p1⟩ := cells2 B0.box
  have a0 := cell_regrown p0
  have a1 := cell_regrown p1
  have HB0 : Hid (QBx w W a n c x 28) := B0
  have HW : Hid (W = w.alloc (.cells #[.slice a n c, .int .i64 x] 28)) := hW
  clear hW
  by_cases h0 : cd = 0
  · have hz := quoR_zero (hcd.symm.trans h0)
    have hn := hI.1
    have hr : safeR l x t = decide (q < 2 * x - (n : Int)) := by unfold safeR; rw [if_pos (hcd.symm.trans h0), hn, hq]
    rw [hr]
    have m1 : IntKind.i64.wrap (2 * x) = 2 * x := IntWalk.i64_in _ (by omega)
    have m2 : IntKind.i64.wrap (2 * x - (n : Int)) = 2 * x - (n : Int) := IntWalk.i64_in _ (by omega)
    have he : (cd == 0) = true := by simp [h0]
    clear hcd hI hJ hz hn hr B0 h0 hq p0 p1
    go_enter Try.func15, Try.ntmps15
    go_wp2
    rw [← HW.out]
    refine wp_region_quiet_below hmix (by kernel_rfl) ?_
    repeat (go_big_quiet_step (first | exact cF _ _ | exact cS _ _ | exact cB _ _))
    refine wpQuiet_nil ?_
    intro _ hw'
    obtain ⟨⟨dq, osq⟩, hw''⟩ := hw'
    subst hw''
    go_wp2
    go_ret
    exact ⟨rfl, (HB0.out.step (below_regrown W dq osq)).bel⟩
  · have hr : safeR l x t = false := by unfold safeR; rw [if_neg (by rw [← hcd]; exact h0)]
    rw [hr]
    have hne : (cd == 0) = false := by simpa using h0
    clear hcd hI hJ hr B0 h0 hq p0 p1
    go_enter Try.func15, Try.ntmps15
    go_wp2
    rw [← HW.out]
    refine wp_region_quiet_below hmix (by kernel_rfl) ?_
    repeat (go_big_quiet_step (first | exact cF _ _ | exact cS _ _ | exact cB _ _))
    refine wpQuiet_nil ?_
    intro _ hw'
    obtain ⟨⟨dq, osq⟩, hw''⟩ := hw'
    subst hw''
    go_wp2
    go_ret
    exact ⟨rfl, (HB0.out.step (below_regrown W dq osq)).bel⟩

set_option maxRecDepth 20000 in
set_option maxHeartbeats 4000000 in
theorem iCanLock_any (n c m d : Nat) (a b : Option Addr) (l t : List Int) (x : Int) (w : World) (hl : n ≤ 1048576) (hm : m ≤ maxLen) (hI : IAt w a n l) (hJ : IAt w b m t) :
    Calls Try.prog 17 #[.agg #[.slice a n c, .int .i64 x], .slice b m d] w fun e w' => e = .returned (.bool (canR l x t)) ∧ Below w.heap.size w w' := by
  obtain ⟨W, hW⟩ : ∃ W, W = w.alloc (.cells #[.slice a n c, .int .i64 x] 28) := ⟨_, rfl⟩
  have B0 : QBx w W a n c x 28 := by rw [hW]; exact QBx.start
  have hmix : Try.prog.follows .mixedOrders = true := by kernel_rfl
  obtain ⟨cd, hcd⟩ : ∃ r, r = quoR l x := ⟨_, rfl⟩
  have cF : ∀ dd os, Calls Try.prog 11 #[.agg #[.slice a n c, .int .i64 x]] (grow (redrawn W dd) os) fun e w'' => e = .returned (.int .i64 cd) ∧ ∃ p : Regrown, w'' = grow (redrawn W p.d) p.os := fun dd os => Calls.regrown_of (by
    have hb := B0.step (below_regrown W dd os)
    have := iQuorumFault_any n c a l x _ hl (hb.ints hI)
    rw [← hcd] at this
    exact this)
  have cS : ∀ dd os, Calls Try.prog 41 #[.agg #[.slice a n c, .int .i64 x]] (grow (redrawn W dd) os) fun e w'' => e = .returned (.int .i64 n) ∧ ∃ p : Regrown, w'' = grow (redrawn W p.d) p.os := fun dd os => Calls.regrown_of
    ((quSize_any a n c x _).mono fun _ _ ⟨h1, h2⟩ => ⟨h1, by rw [h2]; exact below_box _⟩)
  obtain ⟨q, hq⟩ : ∃ q : Int, q = badN l t := ⟨_, rfl⟩
  have cB : ∀ dd os, Calls Try.prog 47 #[.agg #[.slice a n c, .int .i64 x], .slice b m d] (grow (redrawn W dd) os) fun e w'' => e = .returned (.int .i64 q) ∧ ∃ p : Regrown, w'' = grow (redrawn W p.d) p.os := fun dd os => Calls.regrown_of (by
    have hb := B0.step (below_regrown W dd os)
    have := countBad_any n c m d a b l t x (grow (redrawn W dd) os) hl hm (hb.ints hI) (hJ.below hb.bel (Nat.le_refl _))
    rw [← hq] at this
    exact this)
  obtain ⟨p0, p1⟩ := cells2 B0.box
  have a0 := cell_regrown p0
  have a1 := cell_regrown p1
  have HB0 : Hid (QBx w W a n c x 28) := B0
  have HW : Hid (W = w.alloc (.cells #[.slice a n c, .int .i64 x] 28)) := hW
  clear hW
  by_cases h0 : cd = 0
  · have hz := quoR_zero (hcd.symm.trans h0)
    have hn := hI.1
    have hr : canR l x t = decide (x ≤ (n : Int) - q) := by unfold canR; rw [if_pos (hcd.symm.trans h0), hn, hq]
    rw [hr]
    have hq2 := badN_le l t
    have m2 : IntKind.i64.wrap ((n : Int) - q) = (n : Int) - q := IntWalk.i64_in _ (by omega)
    have he : (cd == 0) = true := by simp [h0]
    clear hcd hI hJ hz hn hr B0 h0 hq hq2 p0 p1
    go_enter Try.func17, Try.ntmps17
    go_wp2
    rw [← HW.out]
    refine wp_region_quiet_below hmix (by kernel_rfl) ?_
    repeat (go_big_quiet_step (first | exact cF _ _ | exact cS _ _ | exact cB _ _))
    refine wpQuiet_nil ?_
    intro _ hw'
    obtain ⟨⟨dq, osq⟩, hw''⟩ := hw'
    subst hw''
    go_wp2
    go_ret
    exact ⟨rfl, (HB0.out.step (below_regrown W dq osq)).bel⟩
  · have hr : canR l x t = false := by unfold canR; rw [if_neg (by rw [← hcd]; exact h0)]
    rw [hr]
    have hne : (cd == 0) = false := by simpa using h0
    clear hcd hI hJ hr B0 h0 hq p0 p1
    go_enter Try.func17, Try.ntmps17
    go_wp2
    rw [← HW.out]
    refine wp_region_quiet_below hmix (by kernel_rfl) ?_
    repeat (go_big_quiet_step (first | exact cF _ _ | exact cS _ _ | exact cB _ _))
    refine wpQuiet_nil ?_
    intro _ hw'
    obtain ⟨⟨dq, osq⟩, hw''⟩ := hw'
    subst hw''
    go_wp2
    go_ret
    exact ⟨rfl, (HB0.out.step (below_regrown W dq osq)).bel⟩

end Go.Proofs.Ytolpbichkmeaaaa
