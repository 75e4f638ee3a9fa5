/- Quorums that come in: their size is told, they are copied into new memory, two are compared; what keeps a quorum from being one: the specification's code and the program's. -/
import Derived.Test.YtmnahhojfcigmaaXa
import Derived.Test.YtmnahhojfcigmaaXb
namespace Go.Proofs.Ytmnahhojfcigmaa
open Go.RowKit Go.Shelf Go.Maps Go.WideMaps

section
variable {w w2 W v : World} {b B : Nat} {c0 c1 : Value} {t : TypeId}
theorem res2 (h : w.heap[b]? = some (.cells #[c0, c1] t (0, 0))) (hb : Below B w w2) (hB : b < B) :
    (w2.cell? ⟨b, 0, none⟩ = some c0 ∧ w2.cell? ⟨b, 1, none⟩ = some c1) ∧ (w2.frozen? ⟨b, 0, none⟩ = false ∧ w2.frozen? ⟨b, 1, none⟩ = false) ∧ Hid (w2.heap[b]? = some (.cells #[c0, c1] t (0, 0))) := by
  have h2 := (hb.block b hB).trans h
  exact ⟨cells2 h2, ⟨Joins.unfrozen_of_block h2 0, Joins.unfrozen_of_block h2 1⟩, h2⟩
theorem heap_set2 {c : Nat} (h : c ≠ b) (v0 v1 : Value) : ((W.setCell ⟨b, 0, none⟩ v0).setCell ⟨b, 1, none⟩ v1).heap[c]? = W.heap[c]? :=
  (Below.heap_setCell _ ⟨b, 1, none⟩ _ c h).trans (Below.heap_setCell _ ⟨b, 0, none⟩ _ c h)
theorem below_set2 (h : Below B w W) (hb : B ≤ b) (v0 v1 : Value) : Below B w ((W.setCell ⟨b, 0, none⟩ v0).setCell ⟨b, 1, none⟩ v1) :=
  (h.setCell (p := ⟨b, 0, none⟩) hb _).setCell (p := ⟨b, 1, none⟩) hb _
theorem row_set2 {base n size : Nat} {e : TypeId} {v : Value} {xs : List Value} (h : W.ownsRow base e size v n xs) (hb : b < base) (v0 v1 : Value) : ((W.setCell ⟨b, 0, none⟩ v0).setCell ⟨b, 1, none⟩ v1).ownsRow base e size v n xs :=
  ownsRow_setCell_below (ownsRow_setCell_below h (a := ⟨b, 0, none⟩) hb _) (a := ⟨b, 1, none⟩) hb _
end

theorem szQu_any (a : Option Addr) (n cap : Nat) (x left : Int) (w : World) (h0 : 0 ≤ left) (h1 : left ≤ 1048576) (hl : n ≤ maxLen) :
    Calls Try.prog 4 #[.agg #[.slice a n cap, .int .i64 x], .int .i64 left] w fun e w' => ∃ r : Int, e = .returned (.int .i64 r) ∧ SzG n left r ∧ Below w.heap.size w w' := by
  have hbx : Below w.heap.size w (w.alloc (.cells #[.slice a n cap, .int .i64 x] 24)) := below_box _
  have hS := szI_any a n cap left (w.alloc (.cells #[.slice a n cap, .int .i64 x] 24)) h0 h1 hl
  go_enter Try.func4, Try.ntmps4
  go_wp2_with (first
    | (go_at_call 16; refine hS.mono ?_; rintro e w2 ⟨r, rfl, hw, hr⟩; have hw2 := hw.symm; subst hw2))
  · go_ret
    exact ⟨_, rfl, Or.inl rfl, hbx⟩
  · go_ret
    exact ⟨_, rfl, hr, hbx⟩

/-- A quorum's copy: its keys lie in new memory. -/
def OutQu (w w' : World) (e : Ending) (n : Nat) (l : List Int) (x : Int) : Prop :=
  ∃ g c, e = .returned (.agg #[.slice (some ⟨g, 0, none⟩) n c, .int .i64 x]) ∧ w'.ownsRow w.heap.size 2 1 (.slice (some ⟨g, 0, none⟩) n c) n (ints l) ∧ Below w.heap.size w w'

set_option maxHeartbeats 400000 in
theorem toQu_any (a : Option Addr) (n cap : Nat) (l : List Int) (x : Int) (w : World) (hl : n ≤ 1048576) (h : IAt w a n l) :
    Calls Try.prog 6 #[.agg #[.slice a n cap, .int .i64 x]] w fun e w' => OutQu w w' e n l x := by
  have hbx : Below w.heap.size w (((w.alloc (.cells #[.slice a n cap, .int .i64 x] 24)).alloc (.cells #[.slice none 0 0, .int .i64 0] 26)).alloc (.cells #[.slice none 0 0, .int .i64 0] 26)) := below_box3 _ _ _
  have hS := toI_any a n cap l _ hl (h.below hbx (Nat.le_refl _))
  have HBX : Hid (Below w.heap.size w (((w.alloc (.cells #[.slice a n cap, .int .i64 x] 24)).alloc (.cells #[.slice none 0 0, .int .i64 0] 26)).alloc (.cells #[.slice none 0 0, .int .i64 0] 26))) := hbx
  obtain ⟨t0, t1, t2, t3⟩ := three_blocks w (.cells #[.slice a n cap, .int .i64 x] 24) (.cells #[.slice none 0 0, .int .i64 0] 26) (.cells #[.slice none 0 0, .int .i64 0] 26)
  have T0 : Hid _ := t0
  have T1 : Hid _ := t1
  have T2z : Hid _ := t2
  have T3 : Hid _ := t3
  clear hbx h t0 t1 t2 t3
  go_enter Try.func6, Try.ntmps6
  go_wp2_with (first
    | (go_at_call 7; refine hS.mono ?_; rintro e w2 ⟨g0, k0, rfl, ho0, hb2⟩; rw [T3.out] at ho0 hb2; obtain ⟨⟨p0, p1⟩, _, HP⟩ := res2 T0.out hb2 (by omega); obtain ⟨⟨q0, q1⟩, ⟨q3, q4⟩, HR⟩ := res2 T1.out hb2 (by omega); obtain ⟨⟨r0, r1⟩, ⟨r3, r4⟩, HO⟩ := res2 T2z.out hb2 (by omega); have hbw : Below w.heap.size w w2 := HBX.out.trans (hb2.mono (by omega)); have HROW : Hid (w2.ownsRow (w.heap.size + 1 + 1 + 1) 2 1 (.slice (some ⟨g0, 0, none⟩) n k0) n (ints l)) := ho0; have HBW : Hid (Below w.heap.size w w2) := hbw; clear ho0 hb2 hbw))
  have hR3 := (heap_set2 (W := w2) (b := w.heap.size + 1 + 1) (c := w.heap.size + 1) (by omega) (.slice (some ⟨g0, 0, none⟩) n k0) (.int .i64 x)).trans HR.out
  obtain ⟨_, s1, s2⟩ := two_set hR3 (.slice (some ⟨g0, 0, none⟩) n k0) (.int .i64 x)
  refine bodyPost_ret (v := .agg #[.slice (some ⟨g0, 0, none⟩) n k0, .int .i64 x]) (by simp [results, Try.results6, go_sem, s1, s2]) rfl ⟨g0, k0, rfl, ?_, ?_⟩
  · exact Joins.ownsRow_le (row_set2 (row_set2 HROW.out (by omega) _ _) (by omega) _ _) (by omega)
  · exact below_set2 (below_set2 HBW.out (by omega) _ _) (by omega) _ _

set_option maxHeartbeats 400000 in
theorem eqQu_any (a b : Option Addr) (n c1 c2 : Nat) (l : List Int) (x : Int) (w : World) (hl : n ≤ 1048576) (ha : IAt w a n l) (hb : IAt w b n l) :
    Calls Try.prog 10 #[.agg #[.slice a n c1, .int .i64 x], .agg #[.slice b n c2, .int .i64 x]] w fun e w' => e = .returned (.bool true) ∧ Below w.heap.size w w' := by
  have hbx : Below w.heap.size w ((w.alloc (.cells #[.slice a n c1, .int .i64 x] 26)).alloc (.cells #[.slice b n c2, .int .i64 x] 26)) := below_box2 _ _
  have hS := eqI_any a b n c1 c2 l _ hl (ha.below hbx (Nat.le_refl _)) (hb.below hbx (Nat.le_refl _))
  have t0 := block_at2 (w := w) (o := .cells #[.slice a n c1, .int .i64 x] 26) (o' := .cells #[.slice b n c2, .int .i64 x] 26)
  have t1 := heap_alloc_at (w.alloc (.cells #[.slice a n c1, .int .i64 x] 26)) (.cells #[.slice b n c2, .int .i64 x] 26) (w.heap.size + 1) (by simp)
  have HBX : Hid (Below w.heap.size w ((w.alloc (.cells #[.slice a n c1, .int .i64 x] 26)).alloc (.cells #[.slice b n c2, .int .i64 x] 26))) := hbx
  have T0 : Hid _ := t0
  have T1 : Hid _ := t1
  clear hbx ha hb t0 t1
  go_enter Try.func10, Try.ntmps10
  go_wp2_with (first
    | (go_at_call 11; refine hS.mono ?_; rintro e w2 ⟨rfl, hb2⟩; obtain ⟨⟨p0, p1⟩, _, HP⟩ := res2 T0.out hb2 (by simp; omega); obtain ⟨⟨q0, q1⟩, _, HQ⟩ := res2 T1.out hb2 (by simp); have HBW : Hid (Below w.heap.size w w2) := HBX.out.trans (hb2.mono (by simp; omega)); clear hb2))
  go_ret
  exact ⟨rfl, HBW.out⟩

def quoR (l : List Int) (x : Int) : Int :=
  if inB l.length 1 8 = false then 2 else if allK l = false ∨ inB x 1 l.length = false then 3 else if riseB 0 l = false then 1 else 0

section
variable {l : List Int} {x : Int} {n : Nat}
theorem quoR_many (hn : l.length = n) (h : inB n 1 8 = false) : quoR l x = 2 := by unfold quoR; rw [hn, if_pos h]
theorem quoR_range (hn : l.length = n) (h : inB n 1 8 = true) (h2 : allK l = false ∨ inB x 1 n = false) : quoR l x = 3 := by unfold quoR; rw [hn, if_neg (by simp [h]), if_pos h2]
theorem quoR_form (hn : l.length = n) (h : inB n 1 8 = true) (h1 : allK l = true) (h2 : inB x 1 n = true) (h4 : riseB 0 l = false) : quoR l x = 1 := by unfold quoR; rw [hn, if_neg (by simp [h]), if_neg (by simp [h1, h2]), if_pos h4]
theorem quoR_ok (hn : l.length = n) (h : inB n 1 8 = true) (h1 : allK l = true) (h2 : inB x 1 n = true) (h4 : riseB 0 l = true) : quoR l x = 0 := by unfold quoR; rw [hn, if_neg (by simp [h]), if_neg (by simp [h1, h2]), if_neg (by simp [h4])]
end

theorem riseB_first {l : List Int} {n : Nat} (hn : l.length = n) (h : inB n 1 8 = true) (ha : allK l = true) : riseB 0 (l.take 1) = true := by
  have := inB_true.1 h
  match l, hn with
  | [], hn => simp at hn; omega
  | k :: t, _ =>
    simp [allK] at ha
    have := inB_true.1 ha.1
    simp [riseB]
    omega

set_option maxRecDepth 20000 in
set_option maxHeartbeats 2000000 in
theorem l10Fault_any (P n cap : Nat) (a : Option Addr) (l : List Int) (x : Int) (w : World) (hl : n ≤ 1048576) (hI : IAt w a n l) (hP : w.heap[P]? = some (.cells #[.slice a n cap, .int .i64 x] 26 (0, 0))) :
    Calls Try.prog 17 #[.pointer (some ⟨P, 0, none⟩)] w fun e w' => e = .returned (.int .i64 (quoR l x)) ∧ Below w.heap.size w w' := by
  have HI : Hid (IAt w a n l) := hI
  have HN : Hid (l.length = n) := hI.1
  obtain ⟨p0, p1⟩ := cells2 hP
  have hPl := lt_of_block hP
  obtain ⟨b1, hb1⟩ : ∃ b, b = inB n 1 8 := ⟨_, rfl⟩
  obtain ⟨kb, hkb⟩ : ∃ b, b = inB x 1 n := ⟨_, rfl⟩
  have hW1 : ∀ v, Calls Try.prog 19 #[.int .i64 n, .int .i64 1, .int .i64 8] v fun e w' => e = .returned (.bool b1) ∧ w' = v := fun v => by rw [hb1]; exact l1In_any _ _ _ v
  have hW2 : ∀ v, Calls Try.prog 19 #[.int .i64 x, .int .i64 1, .int .i64 n] v fun e w' => e = .returned (.bool kb) ∧ w' = v := fun v => by rw [hkb]; exact l1In_any _ _ _ v
  have HB1 : Hid (b1 = inB n 1 8) := hb1
  have HKB : Hid (kb = inB x 1 n) := hkb
  obtain ⟨r, hr⟩ : ∃ r, r = quoR l x := ⟨_, rfl⟩
  rw [← hr]
  have HR : Hid (r = quoR l x) := hr
  clear hI hP hb1 hkb hr
  cases b1
  · obtain rfl : r = 2 := by rw [HR.out]; exact quoR_many HN.out HB1.out.symm
    go_enter Try.func17, Try.ntmps17
    go_wp2_with (go_at_call 19; refine (hW1 _).mono ?_; rintro e w' ⟨rfl, hw⟩; have hw2 := hw.symm; subst hw2)
    go_ret
    exact ⟨rfl, Below.refl _ _⟩
  · go_enter Try.func17, Try.ntmps17
    go_wp2_with (go_at_call 19; refine (hW1 _).mono ?_; rintro e w' ⟨rfl, hw⟩; have hw2 := hw.symm; subst hw2)
    go_loop [4] (fun i => ∃ k : Nat, k ≤ n ∧ i = .int .i64 k ∧ Hid (allK (l.take k) = true)) (fun i => n - (intOf i).toNat)
    case atStart => exact ⟨0, Nat.zero_le _, rfl, by show _ = _; simp [allK]⟩
    case round =>
      obtain ⟨k, hk, rfl, HT⟩ := hrel
      by_cases hlt : k < n
      · rcases HI.out.2 with h0 | ⟨b0, o0, e0, l0, d0⟩
        · omega
        subst e0
        obtain ⟨s, hs⟩ : ∃ s, s = l.getD k 0 := ⟨_, rfl⟩
        have x0 := d0 k hlt
        rw [← hs] at x0
        have HS : Hid (s = l.getD k 0) := hs
        obtain ⟨ks, hks⟩ : ∃ b, b = inB s 1 999 := ⟨_, rfl⟩
        have hkey : ∀ v, Calls Try.prog 30 #[.int .i64 s] v fun e w' => e = .returned (.bool ks) ∧ w' = v := fun v => by rw [hks]; exact l1Key_any s v
        have HKS : Hid (ks = inB s 1 999) := hks
        clear hs d0 hks
        have hki : (k : Int) < (n : Int) := by omega
        cases ks
        · obtain rfl : r = 3 := by
            rw [HR.out]
            refine quoR_range HN.out HB1.out.symm (.inl (allK_pre (pre := l.take (k + 1)) (List.take_prefix _ _) ?_))
            rw [take_next HN.out hlt HS.out]; exact allK_bad HKS.out.symm
          go_wp2_with (go_at_call 30; refine (hkey _).mono ?_; rintro e w' ⟨rfl, hw⟩; have hw2 := hw.symm; subst hw2)
          go_ret
          exact ⟨rfl, Below.refl _ _⟩
        · go_wp2_with (go_at_call 30; refine (hkey _).mono ?_; rintro e w' ⟨rfl, hw⟩; have hw2 := hw.symm; subst hw2)
          go_round
          case rel => exact ⟨k + 1, by omega, by go_num, by show _ = _; rw [take_next HN.out hlt HS.out]; exact allK_snoc HT.out HKS.out.symm⟩
          case measure => simp [intOf]; omega
      · have HALL : Hid (allK l = true) := by have := HT.out; rw [take_all HN.out hlt] at this; exact this
        clear HT
        cases kb
        · obtain rfl : r = 3 := by rw [HR.out]; exact quoR_range HN.out HB1.out.symm (.inr HKB.out.symm)
          go_wp2_with (go_at_call 19; refine (hW2 _).mono ?_; rintro e w' ⟨rfl, hw⟩; have hw2 := hw.symm; subst hw2)
          go_ret
          exact ⟨rfl, Below.refl _ _⟩
        · go_wp2_with (go_at_call 19; refine (hW2 _).mono ?_; rintro e w' ⟨rfl, hw⟩; have hw2 := hw.symm; subst hw2)
          go_loopw [5] (fun i wr => ∃ j : Nat, j + 1 ≤ n ∧ i = .int .i64 ((j : Int) + 1) ∧ Hid (riseB 0 (l.take (j + 1)) = true) ∧ Below w.heap.size w wr) (fun i _ => n - (intOf i).toNat)
          case atStart => exact ⟨0, by have := inB_true.1 HB1.out.symm; omega, by go_num, riseB_first HN.out HB1.out.symm HALL.out, Below.refl _ _⟩
          case round =>
            obtain ⟨j, hj, rfl, HT, hbel⟩ := hrel
            by_cases hlt2 : j + 1 < n
            · rcases HI.out.2 with h0 | ⟨b0, o0, e0, l0, d0⟩
              · omega
              subst e0
              obtain ⟨s, hs⟩ : ∃ s, s = l.getD (j + 1) 0 := ⟨_, rfl⟩
              obtain ⟨t, ht⟩ : ∃ t, t = l.getD j 0 := ⟨_, rfl⟩
              have x0 := (hbel.cell (p := ⟨b0, o0 + (j + 1), none⟩) l0).trans (d0 (j + 1) hlt2)
              have x1 := (hbel.cell (p := ⟨b0, o0 + j, none⟩) l0).trans (d0 j (by omega))
              rw [← hs] at x0
              rw [← ht] at x1
              have HS : Hid (s = l.getD (j + 1) 0) := hs
              have HTT : Hid (t = l.getD j 0) := ht
              clear hs ht d0
              have y0 := (hbel.cell (p := ⟨P, 0, none⟩) hPl).trans p0
              have hki : (j : Int) + 1 < (n : Int) := by omega
              have hkj : (j : Int) < (n : Int) := by omega
              by_cases hst : s ≤ t
              · obtain rfl : r = 1 := by
                  rw [HR.out]
                  refine quoR_form HN.out HB1.out.symm HALL.out HKB.out.symm (riseB_pre (pre := l.take (j + 1 + 1)) (List.take_prefix _ _) ?_)
                  rw [take_next HN.out hlt2 HS.out, riseB_snoc, lastK_take HN.out (by omega) HTT.out, decide_eq_false (by omega), Bool.and_false]
                go_wp2
                go_quiet (fail)
                go_wp2
                go_ret
                exact ⟨rfl, hbel.trans (Joins.below_draws _ _ _)⟩
              · go_wp2
                go_quiet (fail)
                go_wp2
                go_roundw
                case rel => exact ⟨j + 1, by omega, by go_num, by show _ = _; rw [take_next HN.out hlt2 HS.out, riseB_snoc, lastK_take HN.out (by omega) HTT.out, HT.out, decide_eq_true (by omega)]; rfl, hbel.trans (Joins.below_draws _ _ _)⟩
                case measure => simp [intOf]; omega
            · have y0 := (hbel.cell (p := ⟨P, 0, none⟩) hPl).trans p0
              obtain rfl : r = 0 := by
                have := HT.out
                rw [take_all HN.out hlt2] at this
                rw [HR.out]; exact quoR_ok HN.out HB1.out.symm HALL.out HKB.out.symm this
              have hki : ¬ (j : Int) + 1 < (n : Int) := by omega
              go_wp2
              go_ret
              exact ⟨rfl, hbel⟩

/-- A quorum in a block of its own, all old memory below as it was. -/
structure QBx (w v : World) (a : Option Addr) (n cap : Nat) (x : Int) (t : TypeId) : Prop where
  box : v.heap[w.heap.size]? = some (.cells #[.slice a n cap, .int .i64 x] t (0, 0))
  bel : Below w.heap.size w v
section
variable {w v v' : World} {a : Option Addr} {n cap : Nat} {x : Int} {t : TypeId} {l : List Int}
theorem QBx.start : QBx w (w.alloc (.cells #[.slice a n cap, .int .i64 x] t)) a n cap x t := ⟨heap_alloc_new _ _, below_box _⟩
theorem QBx.step (h : QBx w v a n cap x t) (hb : Below v.heap.size v v') : QBx w v' a n cap x t := ⟨(keepb h.box hb).out, h.bel.trans (hb.mono h.bel.size)⟩
theorem QBx.ints (h : QBx w v a n cap x t) (hI : IAt w a n l) : IAt v a n l := hI.below h.bel (Nat.le_refl _)
theorem QBx.lt (h : QBx w v a n cap x t) : w.heap.size < v.heap.size := lt_of_block h.box
end

theorem quSize_any (a : Option Addr) (n cap : Nat) (x : Int) (w : World) :
    Calls Try.prog 59 #[.agg #[.slice a n cap, .int .i64 x]] w fun e w' => e = .returned (.int .i64 n) ∧ w' = w.alloc (.cells #[.slice a n cap, .int .i64 x] 26) := by
  go_enter Try.func59, Try.ntmps59
  go_wp2
  go_ret
  exact ⟨rfl, rfl⟩

end Go.Proofs.Ytmnahhojfcigmaa
