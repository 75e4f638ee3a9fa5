/- What keeps a rule from being one: the specification's code and the program's. -/
import Derived.Test.YtaopblgnmmhjfaaItK
namespace Go.Proofs.Ytaopblgnmmhjfaa
open Go.RowKit Go.Shelf Go.Maps Go.WideMaps

def ruleR (l : List Int) (x y : Int) : Int :=
  if inB l.length 1 3 = false then 2 else if allK l = false ∨ inB x 1 l.length = false ∨ inB y 0 999 = false then 3 else if riseB 0 l = false then 1 else 0

section
variable {l : List Int} {x y : Int} {n : Nat}
theorem ruleR_many (hn : l.length = n) (h : inB n 1 3 = false) : ruleR l x y = 2 := by unfold ruleR; rw [hn, if_pos h]
theorem ruleR_range (hn : l.length = n) (h : inB n 1 3 = true) (h2 : allK l = false ∨ inB x 1 n = false ∨ inB y 0 999 = false) : ruleR l x y = 3 := by unfold ruleR; rw [hn, if_neg (by simp [h]), if_pos h2]
theorem ruleR_form (hn : l.length = n) (h : inB n 1 3 = true) (h1 : allK l = true) (h2 : inB x 1 n = true) (h3 : inB y 0 999 = true) (h4 : riseB 0 l = false) : ruleR l x y = 1 := by unfold ruleR; rw [hn, if_neg (by simp [h]), if_neg (by simp [h1, h2, h3]), if_pos h4]
theorem ruleR_ok (hn : l.length = n) (h : inB n 1 3 = true) (h1 : allK l = true) (h2 : inB x 1 n = true) (h3 : inB y 0 999 = true) (h4 : riseB 0 l = true) : ruleR l x y = 0 := by unfold ruleR; rw [hn, if_neg (by simp [h]), if_neg (by simp [h1, h2, h3]), if_neg (by simp [h4])]
end

theorem take_next {l : List Int} {n k : Nat} (hn : l.length = n) (hlt : k < n) {s : Int} (hs : s = l.getD k 0) : l.take (k + 1) = l.take k ++ [s] :=
  take_more (by rw [hs]; simp [List.getD, show k < l.length by omega])
theorem take_all {l : List Int} {n k : Nat} (hn : l.length = n) (h : ¬ k < n) : l.take k = l := List.take_of_length_le (by omega)
theorem lastK_take {l : List Int} {n k : Nat} (hn : l.length = n) (hk : k < n) {s : Int} (hs : s = l.getD k 0) : lastK 0 (l.take (k + 1)) = s := by rw [take_next hn hk hs, lastK_snoc]
theorem riseB_one {l : List Int} {n : Nat} (hn : l.length = n) (h : inB n 1 3 = true) (ha : allK l = true) : riseB 0 (l.take 1) = true := by
  have := inB_true.1 h
  match l, hn with
  | [], hn => simp at hn; omega
  | k :: t, _ =>
    simp [allK] at ha
    have := inB_true.1 ha.1
    simp [riseB]
    omega

theorem l2Height_any (v : Int) (w : World) : Calls Try.prog 113 #[.int .i64 v] w fun e w' => e = .returned (.bool (inB v 0 999)) ∧ w' = w := by
  go_enter Try.func113, Try.ntmps113
  go_wp2_with (go_at_call 140; refine (l1In_any _ _ _ _).mono ?_; rintro e w' ⟨rfl, hw⟩; have hw2 := hw.symm; subst hw2)
  go_ret
  exact ⟨rfl, rfl⟩
theorem isHeight_any (v : Int) (w : World) : Calls Try.prog 111 #[.int .i64 v] w fun e w' => e = .returned (.bool (inB v 0 999)) ∧ w' = w := by
  go_enter Try.func111, Try.ntmps111
  go_wp2_with (go_at_call 108; refine (isWithin_any _ _ _ _).mono ?_; rintro e w' ⟨rfl, hw⟩; have hw2 := hw.symm; subst hw2)
  go_ret
  exact ⟨rfl, rfl⟩

set_option maxRecDepth 20000 in
set_option maxHeartbeats 2000000 in
theorem l2Fault_any (P n cap : Nat) (a : Option Addr) (l : List Int) (x y : Int) (w : World) (hl : n ≤ 1048576) (hI : IAt w a n l) (hP : w.heap[P]? = some (.cells #[.slice a n cap, .int .i64 x, .int .i64 y] 70 (0, 0))) :
    Calls Try.prog 106 #[.pointer (some ⟨P, 0, none⟩)] w fun e w' => e = .returned (.int .i64 (ruleR l x y)) ∧ Below w.heap.size w w' := by
  have HI : Hid (IAt w a n l) := hI
  have HN : Hid (l.length = n) := hI.1
  obtain ⟨p0, p1, p2⟩ := cells3 hP
  have hPl := lt_of_block hP
  obtain ⟨b1, hb1⟩ : ∃ b, b = inB n 1 3 := ⟨_, rfl⟩
  obtain ⟨kb, hkb⟩ : ∃ b, b = inB x 1 n := ⟨_, rfl⟩
  obtain ⟨kc, hkc⟩ : ∃ b, b = inB y 0 999 := ⟨_, rfl⟩
  have hW1 : ∀ v, Calls Try.prog 140 #[.int .i64 n, .int .i64 1, .int .i64 3] v fun e w' => e = .returned (.bool b1) ∧ w' = v := fun v => by rw [hb1]; exact l1In_any _ _ _ v
  have hW2 : ∀ v, Calls Try.prog 140 #[.int .i64 x, .int .i64 1, .int .i64 n] v fun e w' => e = .returned (.bool kb) ∧ w' = v := fun v => by rw [hkb]; exact l1In_any _ _ _ v
  have hW3 : ∀ v, Calls Try.prog 113 #[.int .i64 y] v fun e w' => e = .returned (.bool kc) ∧ w' = v := fun v => by rw [hkc]; exact l2Height_any _ v
  have HB1 : Hid (b1 = inB n 1 3) := hb1
  have HKB : Hid (kb = inB x 1 n) := hkb
  have HKC : Hid (kc = inB y 0 999) := hkc
  obtain ⟨r, hr⟩ : ∃ r, r = ruleR l x y := ⟨_, rfl⟩
  rw [← hr]
  have HR : Hid (r = ruleR l x y) := hr
  clear hI hP hb1 hkb hkc hr
  cases b1
  · obtain rfl : r = 2 := by rw [HR.out]; exact ruleR_many HN.out HB1.out.symm
    go_enter Try.func106, Try.ntmps106
    go_wp2_with (go_at_call 140; refine (hW1 _).mono ?_; rintro e w' ⟨rfl, hw⟩; have hw2 := hw.symm; subst hw2)
    go_ret
    exact ⟨rfl, Below.refl _ _⟩
  · go_enter Try.func106, Try.ntmps106
    go_wp2_with (go_at_call 140; refine (hW1 _).mono ?_; rintro e w' ⟨rfl, hw⟩; have hw2 := hw.symm; subst hw2)
    go_loop [4] (fun i => ∃ k : Nat, k ≤ n ∧ i = .int .i64 k ∧ Hid (allK (l.take k) = true)) (fun i => n - (intOf i).toNat)
    case atStart => exact ⟨0, Nat.zero_le _, rfl, by show _ = _; simp [allK]⟩
    case round =>
      obtain ⟨k, hk, rfl, HT⟩ := hrel
      by_cases hlt : k < n
      · rcases HI.out.2 with h0 | ⟨b0, o0, e0, l0, d0⟩
        · omega
        subst e0
        obtain ⟨s, hs⟩ : ∃ s, s = l.getD k 0 := ⟨_, rfl⟩
        have x0 := d0 k hlt
        rw [← hs] at x0
        have HS : Hid (s = l.getD k 0) := hs
        obtain ⟨ks, hks⟩ : ∃ b, b = inB s 1 999 := ⟨_, rfl⟩
        have hkey : ∀ v, Calls Try.prog 89 #[.int .i64 s] v fun e w' => e = .returned (.bool ks) ∧ w' = v := fun v => by rw [hks]; exact l1Key_any s v
        have HKS : Hid (ks = inB s 1 999) := hks
        clear hs d0 hks
        have hki : (k : Int) < (n : Int) := by omega
        cases ks
        · obtain rfl : r = 3 := by
            rw [HR.out]
            refine ruleR_range HN.out HB1.out.symm (.inl (allK_pre (pre := l.take (k + 1)) (List.take_prefix _ _) ?_))
            rw [take_next HN.out hlt HS.out]; exact allK_bad HKS.out.symm
          go_wp2_with (go_at_call 89; refine (hkey _).mono ?_; rintro e w' ⟨rfl, hw⟩; have hw2 := hw.symm; subst hw2)
          go_ret
          exact ⟨rfl, Below.refl _ _⟩
        · go_wp2_with (go_at_call 89; refine (hkey _).mono ?_; rintro e w' ⟨rfl, hw⟩; have hw2 := hw.symm; subst hw2)
          go_round
          case rel => exact ⟨k + 1, by omega, by go_num, by show _ = _; rw [take_next HN.out hlt HS.out]; exact allK_snoc HT.out HKS.out.symm⟩
          case measure => simp [intOf]; omega
      · have HALL : Hid (allK l = true) := by have := HT.out; rw [take_all HN.out hlt] at this; exact this
        clear HT
        cases kb
        · obtain rfl : r = 3 := by rw [HR.out]; exact ruleR_range HN.out HB1.out.symm (.inr (.inl HKB.out.symm))
          go_wp2_with (go_at_call 140; refine (hW2 _).mono ?_; rintro e w' ⟨rfl, hw⟩; have hw2 := hw.symm; subst hw2)
          go_ret
          exact ⟨rfl, Below.refl _ _⟩
        · cases kc
          · obtain rfl : r = 3 := by rw [HR.out]; exact ruleR_range HN.out HB1.out.symm (.inr (.inr HKC.out.symm))
            go_wp2_with (first | (go_at_call 140; refine (hW2 _).mono ?_; rintro e w' ⟨rfl, hw⟩; have hw2 := hw.symm; subst hw2) | (go_at_call 113; refine (hW3 _).mono ?_; rintro e w' ⟨rfl, hw⟩; have hw2 := hw.symm; subst hw2))
            go_ret
            exact ⟨rfl, Below.refl _ _⟩
          · go_wp2_with (first | (go_at_call 140; refine (hW2 _).mono ?_; rintro e w' ⟨rfl, hw⟩; have hw2 := hw.symm; subst hw2) | (go_at_call 113; refine (hW3 _).mono ?_; rintro e w' ⟨rfl, hw⟩; have hw2 := hw.symm; subst hw2))
            go_loopw [5] (fun i wr => ∃ j : Nat, j + 1 ≤ n ∧ i = .int .i64 ((j : Int) + 1) ∧ Hid (riseB 0 (l.take (j + 1)) = true) ∧ Below w.heap.size w wr) (fun i _ => n - (intOf i).toNat)
            case atStart => exact ⟨0, by have := inB_true.1 HB1.out.symm; omega, by go_num, riseB_one HN.out HB1.out.symm HALL.out, Below.refl _ _⟩
            case round =>
              obtain ⟨j, hj, rfl, HT, hbel⟩ := hrel
              by_cases hlt2 : j + 1 < n
              · rcases HI.out.2 with h0 | ⟨b0, o0, e0, l0, d0⟩
                · omega
                subst e0
                obtain ⟨s, hs⟩ : ∃ s, s = l.getD (j + 1) 0 := ⟨_, rfl⟩
                obtain ⟨t, ht⟩ : ∃ t, t = l.getD j 0 := ⟨_, rfl⟩
                have x0 := (hbel.cell (p := ⟨b0, o0 + (j + 1), none⟩) l0).trans (d0 (j + 1) hlt2)
                have x1 := (hbel.cell (p := ⟨b0, o0 + j, none⟩) l0).trans (d0 j (by omega))
                rw [← hs] at x0
                rw [← ht] at x1
                have HS : Hid (s = l.getD (j + 1) 0) := hs
                have HTT : Hid (t = l.getD j 0) := ht
                clear hs ht d0
                have y0 := (hbel.cell (p := ⟨P, 0, none⟩) hPl).trans p0
                have hki : (j : Int) + 1 < (n : Int) := by omega
                have hkj : (j : Int) < (n : Int) := by omega
                by_cases hst : s ≤ t
                · obtain rfl : r = 1 := by
                    rw [HR.out]
                    refine ruleR_form HN.out HB1.out.symm HALL.out HKB.out.symm HKC.out.symm (riseB_pre (pre := l.take (j + 1 + 1)) (List.take_prefix _ _) ?_)
                    rw [take_next HN.out hlt2 HS.out, riseB_snoc, lastK_take HN.out (by omega) HTT.out, decide_eq_false (by omega), Bool.and_false]
                  go_wp2
                  go_quiet (fail)
                  go_wp2
                  go_ret
                  exact ⟨rfl, hbel.trans (Joins.below_draws _ _ _)⟩
                · go_wp2
                  go_quiet (fail)
                  go_wp2
                  go_roundw
                  case rel => exact ⟨j + 1, by omega, by go_num, by show _ = _; rw [take_next HN.out hlt2 HS.out, riseB_snoc, lastK_take HN.out (by omega) HTT.out, HT.out, decide_eq_true (by omega)]; rfl, hbel.trans (Joins.below_draws _ _ _)⟩
                  case measure => simp [intOf]; omega
              · have y0 := (hbel.cell (p := ⟨P, 0, none⟩) hPl).trans p0
                obtain rfl : r = 0 := by
                  have := HT.out
                  rw [take_all HN.out hlt2] at this
                  rw [HR.out]; exact ruleR_ok HN.out HB1.out.symm HALL.out HKB.out.symm HKC.out.symm this
                have hki : ¬ (j : Int) + 1 < (n : Int) := by omega
                go_wp2
                go_ret
                exact ⟨rfl, hbel⟩

theorem sRuleFault_any (n cap : Nat) (a : Option Addr) (l : List Int) (x y : Int) (w : World) (hl : n ≤ 1048576) (hI : IAt w a n l) :
    Calls Try.prog 50 #[.agg #[.slice a n cap, .int .i64 x, .int .i64 y]] w fun e w' => e = .returned (.int .i64 (ruleR l x y)) ∧ Below w.heap.size w w' := by
  have hbx : Below w.heap.size w (w.alloc (.cells #[.slice a n cap, .int .i64 x, .int .i64 y] 70)) := below_box _
  have hS := l2Fault_any w.heap.size n cap a l x y _ hl (hI.below hbx (Nat.le_refl _)) (heap_alloc_new _ _)
  have HBX : Hid (Below w.heap.size w (w.alloc (.cells #[.slice a n cap, .int .i64 x, .int .i64 y] 70))) := hbx
  clear hbx hI
  go_enter Try.func50, Try.ntmps50
  go_wp2_with (go_at_call 106; refine hS.mono ?_; rintro e w2 ⟨rfl, hb2⟩)
  go_ret
  exact ⟨rfl, HBX.out.trans (hb2.mono (by simp))⟩

end Go.Proofs.Ytaopblgnmmhjfaa
