/- The program's RuleFault. -/
import Derived.Test.YtaopblgnmmhjfaaRf
namespace Go.Proofs.Ytaopblgnmmhjfaa
open Go.RowKit Go.Shelf Go.Maps Go.WideMaps

/-- A rule in a block of its own, all old memory below as it was. -/
structure RBx (w v : World) (a : Option Addr) (n cap : Nat) (x y : Int) (t : TypeId) : Prop where
  box : v.heap[w.heap.size]? = some (.cells #[.slice a n cap, .int .i64 x, .int .i64 y] t (0, 0))
  bel : Below w.heap.size w v
section
variable {w v v' : World} {a : Option Addr} {n cap : Nat} {x y : Int} {t : TypeId} {l : List Int}
theorem RBx.start : RBx w (w.alloc (.cells #[.slice a n cap, .int .i64 x, .int .i64 y] t)) a n cap x y t := ⟨heap_alloc_new _ _, below_box _⟩
theorem RBx.step (h : RBx w v a n cap x y t) (hb : Below v.heap.size v v') : RBx w v' a n cap x y t := ⟨(keepb h.box hb).out, h.bel.trans (hb.mono h.bel.size)⟩
theorem RBx.ints (h : RBx w v a n cap x y t) (hI : IAt w a n l) : IAt v a n l := hI.below h.bel (Nat.le_refl _)
theorem RBx.lt (h : RBx w v a n cap x y t) : w.heap.size < v.heap.size := lt_of_block h.box
end

/-- The iterator over the rule's keys, and what ranges over it, whatever world it is. -/
theorem keys_go {w v : World} {a : Option Addr} {n cap : Nat} {x y : Int} {l : List Int} (h : RBx w v a n cap x y 70) (hl : n ≤ 1048576) (hI : IAt w a n l) :
    Hid (Calls Try.prog 109 #[.func (.func 146) #[] #[.pointer (some ⟨v.heap.size, 0, none⟩)]] (v.alloc (.cells #[.slice a n cap, .int .i64 x, .int .i64 y] 70)) fun e w' => e = .returned (.bool (allK l)) ∧ Hid (RBx w w' a n cap x y 70)) ∧
    Hid (Calls Try.prog 112 #[.func (.func 146) #[] #[.pointer (some ⟨v.heap.size, 0, none⟩)]] (v.alloc (.cells #[.slice a n cap, .int .i64 x, .int .i64 y] 70)) fun e w' => e = .returned (.bool (riseB 0 l)) ∧ Hid (RBx w w' a n cap x y 70)) := by
  have hb : Below v.heap.size v (v.alloc (.cells #[.slice a n cap, .int .i64 x, .int .i64 y] 70)) := below_box _
  have h2 := h.step hb
  have hc := (cells3 (heap_alloc_new v (.cells #[.slice a n cap, .int .i64 x, .int .i64 y] 70))).1
  exact ⟨(areKeys_any v.heap.size n cap a l w _ hl hI h2.bel (by simp) hc).mono fun e w' ⟨e1, e2⟩ => ⟨e1, h2.step e2⟩, (keysRise_any v.heap.size n cap a l w _ hl hI h2.bel (by simp) hc).mono fun e w' ⟨e1, e2⟩ => ⟨e1, h2.step e2⟩⟩

set_option maxRecDepth 20000 in
set_option maxHeartbeats 2000000 in
theorem iRuleFault_any (n cap : Nat) (a : Option Addr) (l : List Int) (x y : Int) (w : World) (hl : n ≤ 1048576) (hI : IAt w a n l) :
    Calls Try.prog 52 #[.agg #[.slice a n cap, .int .i64 x, .int .i64 y]] w fun e w' => e = .returned (.int .i64 (ruleR l x y)) ∧ Below w.heap.size w w' := by
  have HI : Hid (IAt w a n l) := hI
  have HN : Hid (l.length = n) := hI.1
  have B0 : RBx w (w.alloc (.cells #[.slice a n cap, .int .i64 x, .int .i64 y] 70)) a n cap x y 70 := RBx.start
  obtain ⟨HG, _⟩ := keys_go B0 hl hI
  have HB0 : Hid (Below w.heap.size w (w.alloc (.cells #[.slice a n cap, .int .i64 x, .int .i64 y] 70))) := B0.bel
  obtain ⟨b1, hb1⟩ : ∃ b, b = inB n 1 3 := ⟨_, rfl⟩
  obtain ⟨ka, hka⟩ : ∃ b, b = allK l := ⟨_, rfl⟩
  obtain ⟨kr, hkr⟩ : ∃ b, b = riseB 0 l := ⟨_, rfl⟩
  obtain ⟨kb, hkb⟩ : ∃ b, b = inB x 1 n := ⟨_, rfl⟩
  obtain ⟨kc, hkc⟩ : ∃ b, b = inB y 0 999 := ⟨_, rfl⟩
  have hW1 : ∀ v, Calls Try.prog 108 #[.int .i64 n, .int .i64 1, .int .i64 3] v fun e w' => e = .returned (.bool b1) ∧ w' = v := fun v => by rw [hb1]; exact isWithin_any _ _ _ v
  have hW2 : ∀ v, Calls Try.prog 108 #[.int .i64 x, .int .i64 1, .int .i64 n] v fun e w' => e = .returned (.bool kb) ∧ w' = v := fun v => by rw [hkb]; exact isWithin_any _ _ _ v
  have hW3 : ∀ v, Calls Try.prog 111 #[.int .i64 y] v fun e w' => e = .returned (.bool kc) ∧ w' = v := fun v => by rw [hkc]; exact isHeight_any _ v
  have hak := HG.out
  rw [World.size_alloc, ← hka] at hak
  have hrise : ∀ v, RBx w v a n cap x y 70 → Hid (Calls Try.prog 112 #[.func (.func 146) #[] #[.pointer (some ⟨v.heap.size, 0, none⟩)]] (v.alloc (.cells #[.slice a n cap, .int .i64 x, .int .i64 y] 70)) fun e w' => e = .returned (.bool kr) ∧ Hid (RBx w w' a n cap x y 70)) := fun v hv => by rw [hkr]; exact (keys_go hv hl HI.out).2
  have HRS : Hid (∀ v, RBx w v a n cap x y 70 → Hid (Calls Try.prog 112 #[.func (.func 146) #[] #[.pointer (some ⟨v.heap.size, 0, none⟩)]] (v.alloc (.cells #[.slice a n cap, .int .i64 x, .int .i64 y] 70)) fun e w' => e = .returned (.bool kr) ∧ Hid (RBx w w' a n cap x y 70))) := hrise
  have HB1 : Hid (b1 = inB n 1 3) := hb1
  have HKA : Hid (ka = allK l) := hka
  have HKR : Hid (kr = riseB 0 l) := hkr
  have HKB : Hid (kb = inB x 1 n) := hkb
  have HKC : Hid (kc = inB y 0 999) := hkc
  obtain ⟨r, hr⟩ : ∃ r, r = ruleR l x y := ⟨_, rfl⟩
  rw [← hr]
  have HR : Hid (r = ruleR l x y) := hr
  clear hI hb1 hka hkr hkb hkc hr hrise HG B0
  cases b1
  · obtain rfl : r = 2 := by rw [HR.out]; exact ruleR_many HN.out HB1.out.symm
    go_enter Try.func52, Try.ntmps52
    go_wp2_with (go_at_call 108; refine (hW1 _).mono ?_; rintro e w' ⟨rfl, hw⟩; have hw2 := hw.symm; subst hw2)
    go_ret
    exact ⟨rfl, HB0.out⟩
  cases ka
  · obtain rfl : r = 3 := by rw [HR.out]; exact ruleR_range HN.out HB1.out.symm (.inl HKA.out.symm)
    go_enter Try.func52, Try.ntmps52
    go_wp2_with (first
      | (go_at_call 108; refine (hW1 _).mono ?_; rintro e w' ⟨rfl, hw⟩; have hw2 := hw.symm; subst hw2)
      | (go_at_call 110; refine (eachKey_any _ _ _ _ _ _).mono ?_; rintro e w' ⟨rfl, hw⟩; subst hw)
      | (go_at_call 109; refine hak.mono ?_; rintro e w2 ⟨rfl, HB2⟩; obtain ⟨p0, p1, p2⟩ := cells3 HB2.out.box))
    go_ret
    exact ⟨rfl, HB2.out.bel⟩
  cases kb
  · obtain rfl : r = 3 := by rw [HR.out]; exact ruleR_range HN.out HB1.out.symm (.inr (.inl HKB.out.symm))
    go_enter Try.func52, Try.ntmps52
    go_wp2_with (first
      | (go_at_call 108; (first | (refine (hW1 _).mono ?_; clear hW1) | refine (hW2 _).mono ?_); rintro e w' ⟨rfl, hw⟩; have hw2 := hw.symm; subst hw2)
      | (go_at_call 110; refine (eachKey_any _ _ _ _ _ _).mono ?_; rintro e w' ⟨rfl, hw⟩; subst hw)
      | (go_at_call 109; refine hak.mono ?_; rintro e w2 ⟨rfl, HB2⟩; obtain ⟨p0, p1, p2⟩ := cells3 HB2.out.box))
    go_ret
    exact ⟨rfl, HB2.out.bel⟩
  cases kc
  · obtain rfl : r = 3 := by rw [HR.out]; exact ruleR_range HN.out HB1.out.symm (.inr (.inr HKC.out.symm))
    go_enter Try.func52, Try.ntmps52
    go_wp2_with (first
      | (go_at_call 108; (first | (refine (hW1 _).mono ?_; clear hW1) | refine (hW2 _).mono ?_); rintro e w' ⟨rfl, hw⟩; have hw2 := hw.symm; subst hw2)
      | (go_at_call 110; refine (eachKey_any _ _ _ _ _ _).mono ?_; rintro e w' ⟨rfl, hw⟩; subst hw)
      | (go_at_call 111; refine (hW3 _).mono ?_; rintro e w' ⟨rfl, hw⟩; have hw2 := hw.symm; subst hw2)
      | (go_at_call 109; refine hak.mono ?_; rintro e w2 ⟨rfl, HB2⟩; obtain ⟨p0, p1, p2⟩ := cells3 HB2.out.box))
    go_ret
    exact ⟨rfl, HB2.out.bel⟩
  cases kr
  · obtain rfl : r = 1 := by rw [HR.out]; exact ruleR_form HN.out HB1.out.symm HKA.out.symm HKB.out.symm HKC.out.symm HKR.out.symm
    go_enter Try.func52, Try.ntmps52
    go_wp2_with (first
      | (go_at_call 108; (first | (refine (hW1 _).mono ?_; clear hW1) | refine (hW2 _).mono ?_); rintro e w' ⟨rfl, hw⟩; have hw2 := hw.symm; subst hw2)
      | (go_at_call 110; refine (eachKey_any _ _ _ _ _ _).mono ?_; rintro e w' ⟨rfl, hw⟩; subst hw)
      | (go_at_call 111; refine (hW3 _).mono ?_; rintro e w' ⟨rfl, hw⟩; have hw2 := hw.symm; subst hw2)
      | (go_at_call 109; refine hak.mono ?_; rintro e w2 ⟨rfl, HB2⟩; obtain ⟨p0, p1, p2⟩ := cells3 HB2.out.box; have hri := HRS.out _ HB2.out)
      | (go_at_call 112; refine hri.out.mono ?_; rintro e w4 ⟨rfl, HB4⟩))
    go_ret
    exact ⟨rfl, HB4.out.bel⟩
  · obtain rfl : r = 0 := by rw [HR.out]; exact ruleR_ok HN.out HB1.out.symm HKA.out.symm HKB.out.symm HKC.out.symm HKR.out.symm
    go_enter Try.func52, Try.ntmps52
    go_wp2_with (first
      | (go_at_call 108; (first | (refine (hW1 _).mono ?_; clear hW1) | refine (hW2 _).mono ?_); rintro e w' ⟨rfl, hw⟩; have hw2 := hw.symm; subst hw2)
      | (go_at_call 110; refine (eachKey_any _ _ _ _ _ _).mono ?_; rintro e w' ⟨rfl, hw⟩; subst hw)
      | (go_at_call 111; refine (hW3 _).mono ?_; rintro e w' ⟨rfl, hw⟩; have hw2 := hw.symm; subst hw2)
      | (go_at_call 109; refine hak.mono ?_; rintro e w2 ⟨rfl, HB2⟩; obtain ⟨p0, p1, p2⟩ := cells3 HB2.out.box; have hri := HRS.out _ HB2.out)
      | (go_at_call 112; refine hri.out.mono ?_; rintro e w4 ⟨rfl, HB4⟩))
    go_ret
    exact ⟨rfl, HB4.out.bel⟩

end Go.Proofs.Ytaopblgnmmhjfaa
