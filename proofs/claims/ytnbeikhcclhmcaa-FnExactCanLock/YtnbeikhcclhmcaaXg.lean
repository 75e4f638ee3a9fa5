/- IsSafe and CanLock: the specification's and the program's. -/
import Derived.Test.YtnbeikhcclhmcaaXe
namespace Go.Proofs.Ytnbeikhcclhmcaa
open Go.RowKit Go.Maps Go.WideMaps Go.Sort

set_option maxRecDepth 20000 in
set_option maxHeartbeats 4000000 in
theorem sCanLock_any (n c m d : Nat) (a b : Option Addr) (l t : List Int) (x : Int) (w : World) (hl : n ≤ 1048576) (hm : m ≤ maxLen) (hI : IAt w a n l) (hJ : IAt w b m t) :
    Calls Try.prog 23 #[.agg #[.slice a n c, .int .i64 x], .slice b m d] w fun e w' => e = .returned (.bool (canR l x t)) ∧ Below w.heap.size w w' := by
  obtain ⟨W, hW⟩ : ∃ W, W = w.alloc (.cells #[.slice a n c, .int .i64 x] 27) := ⟨_, rfl⟩
  have B0 : QBx w W a n c x 27 := by rw [hW]; exact QBx.start
  have hmix : Try.prog.follows .mixedOrders = true := by kernel_rfl
  obtain ⟨cd, hcd⟩ : ∃ r, r = quoR l x := ⟨_, rfl⟩
  have cF : ∀ dd os, Calls Try.prog 32 #[.pointer (some ⟨w.heap.size, 0, none⟩)] (grow (redrawn W dd) os) fun e w'' => e = .returned (.int .i64 cd) ∧ ∃ p : Regrown, w'' = grow (redrawn W p.d) p.os := fun dd os => Calls.regrown_of (by
    have hb := B0.step (below_regrown W dd os)
    have := l10Fault_any w.heap.size n c a l x _ hl (hb.ints hI) hb.box
    rw [← hcd] at this
    exact this)
  obtain ⟨q, hq⟩ : ∃ q : Int, q = badN l t := ⟨_, rfl⟩
  have cB : ∀ dd os, Calls Try.prog 46 #[.slice a n c, .slice b m d] (grow (redrawn W dd) os) fun e w'' => e = .returned (.int .i64 q) ∧ ∃ p : Regrown, w'' = grow (redrawn W p.d) p.os := fun dd os => Calls.regrown_of (by
    have hb := B0.step (below_regrown W dd os)
    have := l10Bad_any n c m d a b l t (grow (redrawn W dd) os) (by omega) hm (hb.ints hI) (hJ.below hb.bel (Nat.le_refl _))
    rw [← hq] at this
    exact this.mono fun _ _ ⟨h1, h2⟩ => ⟨h1, by rw [h2]; exact Below.refl _ _⟩)
  obtain ⟨p0, p1⟩ := cells2 B0.box
  have a0 := cell_regrown p0
  have a1 := cell_regrown p1
  have HB0 : Hid (QBx w W a n c x 27) := B0
  have HW : Hid (W = w.alloc (.cells #[.slice a n c, .int .i64 x] 27)) := hW
  clear hW
  by_cases h0 : cd = 0
  · have hz := quoR_zero (hcd.symm.trans h0)
    have hn := hI.1
    have hr : canR l x t = decide (x ≤ (n : Int) - q) := by unfold canR; rw [if_pos (hcd.symm.trans h0), hn, hq]
    rw [hr]
    have hq2 := badN_le l t
    have m2 : IntKind.i64.wrap ((n : Int) - q) = (n : Int) - q := IntWalk.i64_in _ (by omega)
    have he : (cd == 0) = true := by simp [h0]
    clear hcd hI hJ hz hn hr B0 h0 hq hq2 p0 p1
    go_enter Try.func23, Try.ntmps23
    go_wp2
    rw [← HW.out]
    refine wp_region_quiet_below hmix (by kernel_rfl) ?_
    repeat (go_big_quiet_step (first | exact cF _ _ | exact cB _ _))
    refine wpQuiet_nil ?_
    intro _ hw'
    obtain ⟨⟨dq, osq⟩, hw''⟩ := hw'
    subst hw''
    go_wp2
    go_ret
    exact ⟨rfl, (HB0.out.step (below_regrown W dq osq)).bel⟩
  · have hr : canR l x t = false := by unfold canR; rw [if_neg (by rw [← hcd]; exact h0)]
    rw [hr]
    have hne : (cd == 0) = false := by simpa using h0
    clear hcd hI hJ hr B0 h0 hq p0 p1
    go_enter Try.func23, Try.ntmps23
    go_wp2
    rw [← HW.out]
    refine wp_region_quiet_below hmix (by kernel_rfl) ?_
    repeat (go_big_quiet_step (first | exact cF _ _ | exact cB _ _))
    refine wpQuiet_nil ?_
    intro _ hw'
    obtain ⟨⟨dq, osq⟩, hw''⟩ := hw'
    subst hw''
    go_wp2
    go_ret
    exact ⟨rfl, (HB0.out.step (below_regrown W dq osq)).bel⟩

set_option maxRecDepth 20000 in
set_option maxHeartbeats 4000000 in
theorem iCanLock_any (n c m d : Nat) (a b : Option Addr) (l t : List Int) (x : Int) (w : World) (hl : n ≤ 1048576) (hm : m ≤ maxLen) (hI : IAt w a n l) (hJ : IAt w b m t) :
    Calls Try.prog 24 #[.agg #[.slice a n c, .int .i64 x], .slice b m d] w fun e w' => e = .returned (.bool (canR l x t)) ∧ Below w.heap.size w w' := by
  obtain ⟨W, hW⟩ : ∃ W, W = w.alloc (.cells #[.slice a n c, .int .i64 x] 27) := ⟨_, rfl⟩
  have B0 : QBx w W a n c x 27 := by rw [hW]; exact QBx.start
  have hmix : Try.prog.follows .mixedOrders = true := by kernel_rfl
  obtain ⟨cd, hcd⟩ : ∃ r, r = quoR l x := ⟨_, rfl⟩
  have cF : ∀ dd os, Calls Try.prog 12 #[.agg #[.slice a n c, .int .i64 x]] (grow (redrawn W dd) os) fun e w'' => e = .returned (.int .i64 cd) ∧ ∃ p : Regrown, w'' = grow (redrawn W p.d) p.os := fun dd os => Calls.regrown_of (by
    have hb := B0.step (below_regrown W dd os)
    have := iQuorumFault_any n c a l x _ hl (hb.ints hI)
    rw [← hcd] at this
    exact this)
  have cS : ∀ dd os, Calls Try.prog 34 #[.agg #[.slice a n c, .int .i64 x]] (grow (redrawn W dd) os) fun e w'' => e = .returned (.int .i64 n) ∧ ∃ p : Regrown, w'' = grow (redrawn W p.d) p.os := fun dd os => Calls.regrown_of
    ((quSize_any a n c x _).mono fun _ _ ⟨h1, h2⟩ => ⟨h1, by rw [h2]; exact below_box _⟩)
  obtain ⟨q, hq⟩ : ∃ q : Int, q = badN l t := ⟨_, rfl⟩
  have cB : ∀ dd os, Calls Try.prog 45 #[.agg #[.slice a n c, .int .i64 x], .slice b m d] (grow (redrawn W dd) os) fun e w'' => e = .returned (.int .i64 q) ∧ ∃ p : Regrown, w'' = grow (redrawn W p.d) p.os := fun dd os => Calls.regrown_of (by
    have hb := B0.step (below_regrown W dd os)
    have := countBad_any n c m d a b l t x (grow (redrawn W dd) os) hl hm (hb.ints hI) (hJ.below hb.bel (Nat.le_refl _))
    rw [← hq] at this
    exact this)
  obtain ⟨p0, p1⟩ := cells2 B0.box
  have a0 := cell_regrown p0
  have a1 := cell_regrown p1
  have HB0 : Hid (QBx w W a n c x 27) := B0
  have HW : Hid (W = w.alloc (.cells #[.slice a n c, .int .i64 x] 27)) := hW
  clear hW
  by_cases h0 : cd = 0
  · have hz := quoR_zero (hcd.symm.trans h0)
    have hn := hI.1
    have hr : canR l x t = decide (x ≤ (n : Int) - q) := by unfold canR; rw [if_pos (hcd.symm.trans h0), hn, hq]
    rw [hr]
    have hq2 := badN_le l t
    have m2 : IntKind.i64.wrap ((n : Int) - q) = (n : Int) - q := IntWalk.i64_in _ (by omega)
    have he : (cd == 0) = true := by simp [h0]
    clear hcd hI hJ hz hn hr B0 h0 hq hq2 p0 p1
    go_enter Try.func24, Try.ntmps24
    go_wp2
    rw [← HW.out]
    refine wp_region_quiet_below hmix (by kernel_rfl) ?_
    repeat (go_big_quiet_step (first | exact cF _ _ | exact cS _ _ | exact cB _ _))
    refine wpQuiet_nil ?_
    intro _ hw'
    obtain ⟨⟨dq, osq⟩, hw''⟩ := hw'
    subst hw''
    go_wp2
    go_ret
    exact ⟨rfl, (HB0.out.step (below_regrown W dq osq)).bel⟩
  · have hr : canR l x t = false := by unfold canR; rw [if_neg (by rw [← hcd]; exact h0)]
    rw [hr]
    have hne : (cd == 0) = false := by simpa using h0
    clear hcd hI hJ hr B0 h0 hq p0 p1
    go_enter Try.func24, Try.ntmps24
    go_wp2
    rw [← HW.out]
    refine wp_region_quiet_below hmix (by kernel_rfl) ?_
    repeat (go_big_quiet_step (first | exact cF _ _ | exact cS _ _ | exact cB _ _))
    refine wpQuiet_nil ?_
    intro _ hw'
    obtain ⟨⟨dq, osq⟩, hw''⟩ := hw'
    subst hw''
    go_wp2
    go_ret
    exact ⟨rfl, (HB0.out.step (below_regrown W dq osq)).bel⟩

end Go.Proofs.Ytnbeikhcclhmcaa
