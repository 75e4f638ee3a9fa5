/- Coins that come in: their size is told, they are copied into new memory, two lists are compared. Coins of the call's own: their row and their keys' rows; marks are written into them, and read back. The specification's faults of refs and outs. The specification's fault of a transaction. The specification's fault of coins. -/
import Derived.Test.YtciefdphjkjikaaGreatDoorJn1
import Derived.OneCell
namespace Go.Proofs.YtciefdphjkjikaaGreatDoor
open Go.RowKit Go.Maps Go.WideMaps


structure Co where
  p : Int
  q : Int
  v : Int
  l : List Int
  x : Int
  y : Int
  h : Int
  m : Bool

end Go.Proofs.YtciefdphjkjikaaGreatDoor

namespace Go.Proofs.YtciefdphjkjikaaGreatDoor
open Go.RowKit Go.Maps Go.WideMaps

theorem Chg.refl (w : World) (lo hi : Nat) : Chg w w lo hi := ⟨rfl, rfl, rfl, Nat.le_refl _, fun _ _ _ => rfl⟩
theorem Chg.setCell {w W : World} {lo hi g t : Nat} (h : Chg w W lo hi) (hg : lo ≤ g ∧ g < hi) (u : Value) : Chg w (W.setCell ⟨g, t, none⟩ u) lo hi :=
  ⟨h.os, h.tape, h.output, by simpa using h.size, fun b hb ho => (Below.heap_setCell _ ⟨g, t, none⟩ u b (show b ≠ g by omega)).trans (h.block b hb ho)⟩

end Go.Proofs.YtciefdphjkjikaaGreatDoor

namespace Go.Proofs.YtciefdphjkjikaaGreatDoor
open Go.RowKit Go.Maps Go.WideMaps

set_option maxRecDepth 20000 in
set_option maxHeartbeats 2000000 in
theorem l2FaultAt_any (P q n cap : Nat) (a : Option Addr) (l : List Int) (x y : Int) (w : World) (hl : n ≤ 1048576) (hI : IAt w a n l) (hPl : P < w.heap.size) (p0 : w.cell? ⟨P, q, none⟩ = some (.slice a n cap)) (p1 : w.cell? ⟨P, q + 1, none⟩ = some (.int .i64 x)) (p2 : w.cell? ⟨P, q + 2, none⟩ = some (.int .i64 y)) :
    Calls Tryz.prog 79 #[.pointer (some ⟨P, q, none⟩)] w fun e w' => e = .returned (.int .i64 (ruleR l x y)) ∧ Below w.heap.size w w' := by
  have HI : Hid (IAt w a n l) := hI
  have HN : Hid (l.length = n) := hI.1
  obtain ⟨b1, hb1⟩ : ∃ b, b = inB n 1 3 := ⟨_, rfl⟩
  obtain ⟨kb, hkb⟩ : ∃ b, b = inB x 1 n := ⟨_, rfl⟩
  obtain ⟨kc, hkc⟩ : ∃ b, b = inB y 0 999 := ⟨_, rfl⟩
  have hW1 : ∀ v, Calls Tryz.prog 55 #[.int .i64 n, .int .i64 1, .int .i64 3] v fun e w' => e = .returned (.bool b1) ∧ w' = v := fun v => by rw [hb1]; exact l1In_any _ _ _ v
  have hW2 : ∀ v, Calls Tryz.prog 55 #[.int .i64 x, .int .i64 1, .int .i64 n] v fun e w' => e = .returned (.bool kb) ∧ w' = v := fun v => by rw [hkb]; exact l1In_any _ _ _ v
  have hW3 : ∀ v, Calls Tryz.prog 98 #[.int .i64 y] v fun e w' => e = .returned (.bool kc) ∧ w' = v := fun v => by rw [hkc]; exact l2Height_any _ v
  have HB1 : Hid (b1 = inB n 1 3) := hb1
  have HKB : Hid (kb = inB x 1 n) := hkb
  have HKC : Hid (kc = inB y 0 999) := hkc
  obtain ⟨r, hr⟩ : ∃ r, r = ruleR l x y := ⟨_, rfl⟩
  rw [← hr]
  have HR : Hid (r = ruleR l x y) := hr
  clear hI hb1 hkb hkc hr
  cases b1
  · obtain rfl : r = 2 := by rw [HR.out]; exact ruleR_many HN.out HB1.out.symm
    go_enter Tryz.func79, Tryz.ntmps79
    go_wp2_with (go_at_call 55; refine (hW1 _).mono ?_; rintro e w' ⟨rfl, hw⟩; have hw2 := hw.symm; subst hw2)
    go_ret
    exact ⟨rfl, Below.refl _ _⟩
  · go_enter Tryz.func79, Tryz.ntmps79
    go_wp2_with (go_at_call 55; refine (hW1 _).mono ?_; rintro e w' ⟨rfl, hw⟩; have hw2 := hw.symm; subst hw2)
    go_loop [4] (fun i => ∃ k : Nat, k ≤ n ∧ i = .int .i64 k ∧ Hid (allK (l.take k) = true)) (fun i => n - (intOf i).toNat)
    case atStart => exact ⟨0, Nat.zero_le _, rfl, by show _ = _; simp [allK]⟩
    case round =>
      obtain ⟨k, hk, rfl, HT⟩ := hrel
      by_cases hlt : k < n
      · rcases HI.out.2 with h0 | ⟨b0, o0, e0, l0, d0⟩
        · omega
        subst e0
        obtain ⟨s, hs⟩ : ∃ s, s = l.getD k 0 := ⟨_, rfl⟩
        have x0 := d0 k hlt
        rw [← hs] at x0
        have HS : Hid (s = l.getD k 0) := hs
        obtain ⟨ks, hks⟩ : ∃ b, b = inB s 1 999 := ⟨_, rfl⟩
        have hkey : ∀ v, Calls Tryz.prog 56 #[.int .i64 s] v fun e w' => e = .returned (.bool ks) ∧ w' = v := fun v => by rw [hks]; exact l1Key_any s v
        have HKS : Hid (ks = inB s 1 999) := hks
        clear hs d0 hks
        have hki : (k : Int) < (n : Int) := by omega
        cases ks
        · obtain rfl : r = 3 := by
            rw [HR.out]
            refine ruleR_range HN.out HB1.out.symm (.inl (allK_pre (pre := l.take (k + 1)) (List.take_prefix _ _) ?_))
            rw [take_next HN.out hlt HS.out]; exact allK_bad HKS.out.symm
          go_wp2_with (go_at_call 56; refine (hkey _).mono ?_; rintro e w' ⟨rfl, hw⟩; have hw2 := hw.symm; subst hw2)
          go_ret
          exact ⟨rfl, Below.refl _ _⟩
        · go_wp2_with (go_at_call 56; refine (hkey _).mono ?_; rintro e w' ⟨rfl, hw⟩; have hw2 := hw.symm; subst hw2)
          go_round
          case rel => exact ⟨k + 1, by omega, by go_num, by show _ = _; rw [take_next HN.out hlt HS.out]; exact allK_snoc HT.out HKS.out.symm⟩
          case measure => simp [intOf]; omega
      · have HALL : Hid (allK l = true) := by have := HT.out; rw [take_all HN.out hlt] at this; exact this
        clear HT
        cases kb
        · obtain rfl : r = 3 := by rw [HR.out]; exact ruleR_range HN.out HB1.out.symm (.inr (.inl HKB.out.symm))
          go_wp2_with (go_at_call 55; refine (hW2 _).mono ?_; rintro e w' ⟨rfl, hw⟩; have hw2 := hw.symm; subst hw2)
          go_ret
          exact ⟨rfl, Below.refl _ _⟩
        · cases kc
          · obtain rfl : r = 3 := by rw [HR.out]; exact ruleR_range HN.out HB1.out.symm (.inr (.inr HKC.out.symm))
            go_wp2_with (first | (go_at_call 55; refine (hW2 _).mono ?_; rintro e w' ⟨rfl, hw⟩; have hw2 := hw.symm; subst hw2) | (go_at_call 98; refine (hW3 _).mono ?_; rintro e w' ⟨rfl, hw⟩; have hw2 := hw.symm; subst hw2))
            go_ret
            exact ⟨rfl, Below.refl _ _⟩
          · go_wp2_with (first | (go_at_call 55; refine (hW2 _).mono ?_; rintro e w' ⟨rfl, hw⟩; have hw2 := hw.symm; subst hw2) | (go_at_call 98; refine (hW3 _).mono ?_; rintro e w' ⟨rfl, hw⟩; have hw2 := hw.symm; subst hw2))
            go_loopw [5] (fun i wr => ∃ j : Nat, j + 1 ≤ n ∧ i = .int .i64 ((j : Int) + 1) ∧ Hid (riseB 0 (l.take (j + 1)) = true) ∧ Below w.heap.size w wr) (fun i _ => n - (intOf i).toNat)
            case atStart => exact ⟨0, by have := inB_true.1 HB1.out.symm; omega, by go_num, riseB_one HN.out HB1.out.symm HALL.out, Below.refl _ _⟩
            case round =>
              obtain ⟨j, hj, rfl, HT, hbel⟩ := hrel
              by_cases hlt2 : j + 1 < n
              · rcases HI.out.2 with h0 | ⟨b0, o0, e0, l0, d0⟩
                · omega
                subst e0
                obtain ⟨s, hs⟩ : ∃ s, s = l.getD (j + 1) 0 := ⟨_, rfl⟩
                obtain ⟨t, ht⟩ : ∃ t, t = l.getD j 0 := ⟨_, rfl⟩
                have x0 := (hbel.cell (p := ⟨b0, o0 + (j + 1), none⟩) l0).trans (d0 (j + 1) hlt2)
                have x1 := (hbel.cell (p := ⟨b0, o0 + j, none⟩) l0).trans (d0 j (by omega))
                rw [← hs] at x0
                rw [← ht] at x1
                have HS : Hid (s = l.getD (j + 1) 0) := hs
                have HTT : Hid (t = l.getD j 0) := ht
                clear hs ht d0
                have y0 := (hbel.cell (p := ⟨P, q, none⟩) hPl).trans p0
                have hki : (j : Int) + 1 < (n : Int) := by omega
                have hkj : (j : Int) < (n : Int) := by omega
                by_cases hst : s ≤ t
                · obtain rfl : r = 1 := by
                    rw [HR.out]
                    refine ruleR_form HN.out HB1.out.symm HALL.out HKB.out.symm HKC.out.symm (riseB_pre (pre := l.take (j + 1 + 1)) (List.take_prefix _ _) ?_)
                    rw [take_next HN.out hlt2 HS.out, riseB_snoc, lastK_take HN.out (by omega) HTT.out, decide_eq_false (by omega), Bool.and_false]
                  go_wp2
                  go_quiet (fail)
                  go_wp2
                  go_ret
                  exact ⟨rfl, hbel.trans (Joins.below_draws _ _ _)⟩
                · go_wp2
                  go_quiet (fail)
                  go_wp2
                  go_roundw
                  case rel => exact ⟨j + 1, by omega, by go_num, by show _ = _; rw [take_next HN.out hlt2 HS.out, riseB_snoc, lastK_take HN.out (by omega) HTT.out, HT.out, decide_eq_true (by omega)]; rfl, hbel.trans (Joins.below_draws _ _ _)⟩
                  case measure => simp [intOf]; omega
              · have y0 := (hbel.cell (p := ⟨P, q, none⟩) hPl).trans p0
                obtain rfl : r = 0 := by
                  have := HT.out
                  rw [take_all HN.out hlt2] at this
                  rw [HR.out]; exact ruleR_ok HN.out HB1.out.symm HALL.out HKB.out.symm HKC.out.symm this
                have hki : ¬ (j : Int) + 1 < (n : Int) := by omega
                go_wp2
                go_ret
                exact ⟨rfl, hbel⟩

set_option maxHeartbeats 400000 in
theorem l3Among_any (a : Option Addr) (n cap : Nat) (gs : List (Int × Int)) (p q : Int) (w : World) (hl : n ≤ maxLen) (hs : GAt w a n gs) :
    Calls Tryz.prog 36 #[.slice a n cap, .agg #[.int .i64 p, .int .i64 q]] w fun e w' => e = .returned (.bool (memB gs (p, q))) ∧ Below w.heap.size w w' := by
  unfold maxLen at hl
  obtain ⟨hn, hs⟩ := hs
  rcases hs with rfl | ⟨b, off, rfl, hb, hc⟩
  · obtain rfl : gs = [] := List.length_eq_zero_iff.1 hn
    go_enter Tryz.func36, Tryz.ntmps36
    go_wp2
    refine wp_loop_rounds 1 ?_
    rw [rounds_succ]
    go_wp2
    go_ret
    exact ⟨rfl, (Below.refl _ _).alloc (Nat.le_refl _) _⟩
  · have HN : Hid (gs.length = n) := hn
    clear hn
    go_enter Tryz.func36, Tryz.ntmps36
    go_wp2
    go_loopw [5] (fun i wr => ∃ k : Nat, k ≤ n ∧ i = .int .i64 k ∧ Hid ((p, q) ∉ gs.take k) ∧ wr.cell? ⟨w.heap.size, 0, none⟩ = some (.int .i64 p) ∧ wr.cell? ⟨w.heap.size, 1, none⟩ = some (.int .i64 q) ∧ Below w.heap.size w wr) (fun i _ => n - (intOf i).toNat)
    case atStart => exact ⟨0, Nat.zero_le _, rfl, by show (p, q) ∉ _; simp, by simp, by simp, (Below.refl _ _).alloc (Nat.le_refl _) _⟩
    case round =>
      obtain ⟨k, hk, rfl, hj, hp, hq, hbel⟩ := hrel
      by_cases hlt : k < n
      · obtain ⟨g, hg⟩ : ∃ g, g = gs.getD k G0 := ⟨_, rfl⟩
        have hcx := hc k hlt
        rw [← hg] at hcx
        obtain ⟨g1, g2⟩ := g
        have c0 := (hbel.cell (p := ⟨b, off + k * 2, none⟩) hb).trans hcx.1
        have c1 := (hbel.cell (p := ⟨b, off + k * 2 + 1, none⟩) hb).trans hcx.2
        have HG : Hid ((g1, g2) = gs.getD k G0) := hg
        clear hg hc hcx
        have hki : (k : Int) < (n : Int) := by omega
        by_cases h1 : g1 = p
        · have e1 : (g1 == p) = true := by simp [h1]
          have H1 : Hid (g1 = p) := h1
          clear h1
          by_cases h2 : g2 = q
          · have e2 : (g2 == q) = true := by simp [h2]
            have H2 : Hid (g2 = q) := h2
            clear h2
            go_wp2
            go_quiet (fail)
            go_wp2
            go_ret
            refine ⟨?_, hbel.trans (Joins.below_draws _ _ _)⟩
            have hm : memB gs (p, q) = true := by
              unfold memB
              rw [num_hit gs (p, q) G0 k (by rw [HN.out]; exact hlt) (by rw [← HG.out, H1.out, H2.out]) hj.out]
              simp
            rw [hm]; rfl
          · have e2 : (g2 == q) = false := by simp [h2]
            have H2 : Hid (¬ (g1, g2) = (p, q)) := fun e => h2 (by simpa using congrArg Prod.snd e)
            clear h2
            go_wp2
            go_quiet (fail)
            go_wp2
            go_roundw
            case rel => exact ⟨k + 1, by omega, by go_num, signed_more HN.out hlt hj.out HG.out H2.out, by simpa using hp, by simpa using hq, hbel.trans (Joins.below_draws _ _ _)⟩
            case measure => simp [intOf]; omega
        · have e1 : (g1 == p) = false := by simp [h1]
          have H2 : Hid (¬ (g1, g2) = (p, q)) := fun e => h1 (by simpa using congrArg Prod.fst e)
          clear h1
          go_wp2
          go_quiet (fail)
          go_wp2
          go_roundw
          case rel => exact ⟨k + 1, by omega, by go_num, signed_more HN.out hlt hj.out HG.out H2.out, by simpa using hp, by simpa using hq, hbel.trans (Joins.below_draws _ _ _)⟩
          case measure => simp [intOf]; omega
      · go_wp2
        go_ret
        refine ⟨?_, hbel⟩
        have hm : memB gs (p, q) = false := by
          unfold memB
          rw [(num_zero gs (p, q)).2 (by have := hj.out; rwa [List.take_of_length_le (by rw [HN.out]; omega)] at this)]
          rfl
        rw [hm]; rfl

def refB (r : Int × Int) : Bool := inB r.1 1 60 && inB r.2 0 3

theorem l3Ref_any (a b : Int) (w : World) : Calls Tryz.prog 57 #[.agg #[.int .i64 a, .int .i64 b]] w fun e w' => e = .returned (.bool (refB (a, b))) ∧ Below w.heap.size w w' := by
  obtain ⟨ka, hka⟩ : ∃ k, k = inB a 1 60 := ⟨_, rfl⟩
  obtain ⟨kb, hkb⟩ : ∃ k, k = inB b 0 3 := ⟨_, rfl⟩
  have hr : refB (a, b) = (ka && kb) := by rw [hka, hkb]; rfl
  have h1 : ∀ v, Calls Tryz.prog 55 #[.int .i64 a, .int .i64 1, .int .i64 60] v fun e w' => e = .returned (.bool ka) ∧ w' = v := fun v => by rw [hka]; exact l1In_any _ _ _ v
  have h2 : ∀ v, Calls Tryz.prog 55 #[.int .i64 b, .int .i64 0, .int .i64 3] v fun e w' => e = .returned (.bool kb) ∧ w' = v := fun v => by rw [hkb]; exact l1In_any _ _ _ v
  rw [hr]
  clear hka hkb hr
  have hbx : Below w.heap.size w (w.alloc (.cells #[.int .i64 a, .int .i64 b] 65)) := below_box _
  cases ka <;> cases kb
  all_goals
    go_enter Tryz.func57, Tryz.ntmps57
    go_wp2_with (go_at_call 55; (first | (refine (h1 _).mono ?_; clear h1) | (refine (h2 _).mono ?_; clear h2)); rintro e w' ⟨rfl, hw⟩; have hw2 := hw.symm; subst hw2)
    go_ret
    exact ⟨rfl, hbx⟩

def outsR : List Ou → Int
  | [] => 0
  | o :: t => if inB o.v 1 1000000 = false then 3 else if ruleR o.l o.x o.y ≠ 0 then ruleR o.l o.x o.y else outsR t

theorem drop_next {os : List Ou} {n k : Nat} (hn : os.length = n) (hk : k < n) {o : Ou} (ho : o = os.getD k O0) : os.drop k = o :: os.drop (k + 1) := by
  rw [List.drop_eq_getElem_cons (show k < os.length by omega)]
  congr 1
  rw [ho, List.getD, List.getElem?_eq_getElem (by omega)]
  rfl
theorem drop_none {os : List Ou} {n k : Nat} (hn : os.length = n) (hk : ¬ k < n) : outsR (os.drop k) = 0 := by rw [List.drop_of_length_le (by omega)]; rfl

def joinR (k : Int) (os : List Ou) : Int := if outsR os ≠ 0 then outsR os else if k = 1 ∧ (os.getD 0 O0).v < 100 then 8 else 0

set_option maxHeartbeats 1000000 in
theorem l3Outs_any (P m d : Nat) (oa : Option Addr) (os : List Ou) (k : Int) (w : World) (hm1 : 1 ≤ m) (hm : m ≤ 1048576) (hk : ∀ j, j < m → (os.getD j O0).l.length ≤ 1048576) (hO : OAt w oa m os) (hPl : P < w.heap.size) (hK : w.cell? ⟨P, 0, none⟩ = some (.int .i64 k)) (hS : w.cell? ⟨P, 3, none⟩ = some (.slice oa m d)) :
    Calls Tryz.prog 58 #[.pointer (some ⟨P, 0, none⟩)] w fun e w' => e = .returned (.int .i64 (joinR k os)) ∧ Below w.heap.size w w' := by
  have HO : Hid (OAt w oa m os) := hO
  have HN : Hid (os.length = m) := hO.1
  have HKL : Hid (∀ j, j < m → (os.getD j O0).l.length ≤ 1048576) := hk
  obtain ⟨r, hr⟩ : ∃ r, r = joinR k os := ⟨_, rfl⟩
  rw [← hr]
  have HR : Hid (r = joinR k os) := hr
  clear hO hk hr
  go_enter Tryz.func58, Tryz.ntmps58
  go_wp2
  go_loopw [3] (fun i wr => ∃ j : Nat, j ≤ m ∧ i = .int .i64 j ∧ Below w.heap.size w wr ∧ Hid (outsR os = outsR (os.drop j))) (fun i _ => m - (intOf i).toNat)
  case atStart => exact ⟨0, Nat.zero_le _, rfl, Below.refl _ _, by show _ = _; simp⟩
  case round =>
    obtain ⟨j, hj, rfl, hbel, HT⟩ := hrel
    have y0 := (hbel.cell (p := ⟨P, 0, none⟩) hPl).trans hK
    have y3 := (hbel.cell (p := ⟨P, 3, none⟩) hPl).trans hS
    rcases HO.out.2 with h0 | ⟨b, off, e0, l0, d0⟩
    · omega
    subst e0
    by_cases hlt : j < m
    · obtain ⟨o, ho⟩ : ∃ o, o = os.getD j O0 := ⟨_, rfl⟩
      obtain ⟨ka, kn, kc, p0, p1, p2, p3, p4, p5⟩ := d0 j hlt
      have hol := HKL.out j hlt
      rw [← ho] at p0 p2 p3 p5 hol
      have HS : Hid (o = os.getD j O0) := ho
      obtain ⟨ov, ol, ox, oy⟩ := o
      obtain rfl := p5.1
      have x0 := (hbel.cell (p := ⟨b, off + j * 4, none⟩) l0).trans p0
      have x1 := (hbel.cell (p := ⟨b, off + j * 4 + 1, none⟩) l0).trans p1
      have x2 := (hbel.cell (p := ⟨b, off + j * 4 + 2, none⟩) l0).trans p2
      have x3 := (hbel.cell (p := ⟨b, off + j * 4 + 3, none⟩) l0).trans p3
      obtain ⟨cd, hcd⟩ : ∃ c, c = ruleR ol ox oy := ⟨_, rfl⟩
      have hlf := l2FaultAt_any b (off + j * 4 + 1) ol.length kc ka ol ox oy wr hol (p5.below hbel (Nat.le_refl _)) (Nat.lt_of_lt_of_le l0 hbel.size) x1 x2 x3
      rw [← hcd] at hlf
      have HCD : Hid (cd = ruleR ol ox oy) := hcd
      obtain ⟨kv, hkv⟩ : ∃ k, k = inB ov 1 1000000 := ⟨_, rfl⟩
      have hin : ∀ v, Calls Tryz.prog 55 #[.int .i64 ov, .int .i64 1, .int .i64 1000000] v fun e w' => e = .returned (.bool kv) ∧ w' = v := fun v => by rw [hkv]; exact l1In_any _ _ _ v
      have HKV : Hid (kv = inB ov 1 1000000) := hkv
      simp only at x0 x2 x3
      have HNX : Hid (os.drop j = (⟨ov, ol, ox, oy⟩ : Ou) :: os.drop (j + 1)) := drop_next HN.out hlt HS.out
      clear ho d0 p0 p1 p2 p3 p4 p5 hol hcd hkv x1
      have hki : (j : Int) < (m : Int) := by omega
      cases kv
      · obtain rfl : r = 3 := by rw [HR.out, joinR, HT.out, HNX.out, outsR, if_pos HKV.out.symm]; rfl
        go_wp2_with (go_at_call 55; refine (hin _).mono ?_; rintro e w' ⟨rfl, hw⟩; have hw2 := hw.symm; subst hw2)
        go_ret
        exact ⟨rfl, hbel⟩
      · by_cases hc0 : cd = 0
        · have HTN : Hid (outsR os = outsR (os.drop (j + 1))) := by
            show _ = _
            rw [HT.out, HNX.out, outsR, if_neg (by rw [← HKV.out]; simp), if_neg (by rw [← HCD.out, hc0]; simp)]
          go_wp2_with (first | (go_at_call 55; refine (hin _).mono ?_; rintro e w' ⟨rfl, hw⟩; have hw2 := hw.symm; subst hw2) | (go_at_call 79; refine hlf.mono ?_; rintro e w3 ⟨rfl, hb3⟩))
          go_roundw
          case rel => exact ⟨j + 1, by omega, by go_num, hbel.trans (hb3.mono hbel.size), HTN⟩
          case measure => simp [intOf]; omega
        · have e1 : outsR os = cd := by rw [HT.out, HNX.out, outsR, if_neg (by rw [← HKV.out]; simp), if_pos (by rw [← HCD.out]; exact hc0), ← HCD.out]
          obtain rfl : r = cd := by rw [HR.out, joinR, e1, if_pos hc0]
          clear e1
          go_wp2_with (first | (go_at_call 55; refine (hin _).mono ?_; rintro e w' ⟨rfl, hw⟩; have hw2 := hw.symm; subst hw2) | (go_at_call 79; refine hlf.mono ?_; rintro e w3 ⟨rfl, hb3⟩))
          go_ret
          exact ⟨rfl, hbel.trans (hb3.mono hbel.size)⟩
    · obtain ⟨ka, kn, kc, p0, _⟩ := d0 0 (by omega)
      obtain ⟨ov, hov⟩ : ∃ v, v = (os.getD 0 O0).v := ⟨_, rfl⟩
      rw [← hov] at p0
      simp only [Nat.zero_mul, Nat.add_zero] at p0
      have x0 := (hbel.cell (p := ⟨b, off, none⟩) l0).trans p0
      have HOV : Hid (ov = (os.getD 0 O0).v) := hov
      have HZ : Hid (outsR os = 0) := by show _ = _; rw [HT.out]; exact drop_none HN.out hlt
      clear d0 p0 hov
      have hmi : 0 < (m : Int) := by omega
      by_cases hk1 : k = 1
      · subst hk1
        by_cases hv : ov < 100
        · obtain rfl : r = 8 := by rw [HR.out, joinR, HZ.out, if_neg (by simp), if_pos ⟨rfl, by rw [← HOV.out]; exact hv⟩]
          go_wp2
          go_ret
          exact ⟨rfl, hbel⟩
        · obtain rfl : r = 0 := by rw [HR.out, joinR, HZ.out, if_neg (by simp), if_neg (by rw [← HOV.out]; intro h; exact hv h.2)]
          go_wp2
          go_ret
          exact ⟨rfl, hbel⟩
      · obtain rfl : r = 0 := by rw [HR.out, joinR, HZ.out, if_neg (by simp), if_neg (fun h => hk1 h.1)]
        have hkb : (k == 1) = false := by simpa using hk1
        go_wp2
        go_ret
        exact ⟨rfl, hbel⟩

end Go.Proofs.YtciefdphjkjikaaGreatDoor

namespace Go.Proofs.YtciefdphjkjikaaGreatDoor
open Go.RowKit Go.Maps Go.WideMaps

def refsR : List (Int × Int) → List (Int × Int) → Int
  | _, [] => 0
  | seen, r :: t => if refB r = false then 3 else if memB seen r = true then 7 else refsR (seen ++ [r]) t

def txR (k f : Int) (rs : List (Int × Int)) (os : List Ou) : Int :=
  if inB k 0 2 = false ∨ ¬ (k = 0 ↔ f = 0) then 1 else if k ≠ 0 ∧ inB f 1 999 = false then 3 else if inB rs.length 1 4 = false ∨ inB os.length 1 4 = false then 2
  else if refsR [] rs ≠ 0 then refsR [] rs else joinR k os

section
variable {k f : Int} {rs : List (Int × Int)} {os : List Ou} {n m : Nat}
theorem txR_form (h : inB k 0 2 = false ∨ ¬ (k = 0 ↔ f = 0)) : txR k f rs os = 1 := by unfold txR; rw [if_pos h]
theorem txR_range (h : inB k 0 2 = true) (h1 : k = 0 ↔ f = 0) (h2 : k ≠ 0) (h3 : inB f 1 999 = false) : txR k f rs os = 3 := by unfold txR; rw [if_neg (by simp [h, h1]), if_pos ⟨h2, h3⟩]
theorem txR_many (hn : rs.length = n) (hm : os.length = m) (h : inB k 0 2 = true) (h1 : k = 0 ↔ f = 0) (h2 : ¬ (k ≠ 0 ∧ inB f 1 999 = false)) (h3 : inB n 1 4 = false ∨ inB m 1 4 = false) : txR k f rs os = 2 := by unfold txR; rw [if_neg (by simp [h, h1]), if_neg h2, hn, hm, if_pos h3]
theorem txR_rest (hn : rs.length = n) (hm : os.length = m) (h : inB k 0 2 = true) (h1 : k = 0 ↔ f = 0) (h2 : ¬ (k ≠ 0 ∧ inB f 1 999 = false)) (h3 : inB n 1 4 = true) (h4 : inB m 1 4 = true) : txR k f rs os = if refsR [] rs ≠ 0 then refsR [] rs else joinR k os := by unfold txR; rw [if_neg (by simp [h, h1]), if_neg h2, hn, hm, if_neg (by simp [h3, h4])]

theorem rs_next (hn : rs.length = n) {j : Nat} (hj : j < n) {g : Int × Int} (hg : g = rs.getD j G0) : rs.drop j = g :: rs.drop (j + 1) ∧ rs.take (j + 1) = rs.take j ++ [g] := by
  have e1 : rs[j]? = some g := by rw [hg, List.getD, List.getElem?_eq_getElem (by omega)]; rfl
  refine ⟨?_, take_more e1⟩
  rw [List.drop_eq_getElem_cons (show j < rs.length by omega)]
  congr 1
  have := List.getElem?_eq_getElem (show j < rs.length by omega)
  rw [e1] at this
  simpa using this.symm
theorem refs_go (hn : rs.length = n) {j : Nat} (hj : j < n) {g : Int × Int} (hg : g = rs.getD j G0) (h : refsR [] rs = refsR (rs.take j) (rs.drop j)) (h1 : refB g = true) (h2 : memB (rs.take j) g = false) : Hid (refsR [] rs = refsR (rs.take (j + 1)) (rs.drop (j + 1))) := by
  show _ = _
  obtain ⟨e1, e2⟩ := rs_next hn hj hg
  rw [h, e1, refsR, if_neg (by simp [h1]), if_neg (by simp [h2]), e2]
theorem refs_bad (hn : rs.length = n) {j : Nat} (hj : j < n) {g : Int × Int} (hg : g = rs.getD j G0) (h : refsR [] rs = refsR (rs.take j) (rs.drop j)) (h1 : refB g = false) : refsR [] rs = 3 := by
  obtain ⟨e1, e2⟩ := rs_next hn hj hg
  rw [h, e1, refsR, if_pos h1]
theorem refs_taken (hn : rs.length = n) {j : Nat} (hj : j < n) {g : Int × Int} (hg : g = rs.getD j G0) (h : refsR [] rs = refsR (rs.take j) (rs.drop j)) (h1 : refB g = true) (h2 : memB (rs.take j) g = true) : refsR [] rs = 7 := by
  obtain ⟨e1, e2⟩ := rs_next hn hj hg
  rw [h, e1, refsR, if_neg (by simp [h1]), if_pos h2]
theorem refs_done (hn : rs.length = n) {j : Nat} (hj : ¬ j < n) (h : refsR [] rs = refsR (rs.take j) (rs.drop j)) : refsR [] rs = 0 := by
  rw [h, List.drop_of_length_le (by omega)]; rfl
end

set_option maxRecDepth 20000 in
set_option maxHeartbeats 4000000 in
theorem l3Fault_any (P n c m d : Nat) (ia oa : Option Addr) (k f : Int) (rs : List (Int × Int)) (os : List Ou) (w : World) (hn : n ≤ 1048576) (hm : m ≤ 1048576) (hc1 : n ≤ c) (hc2 : c ≤ maxLen) (hk : ∀ j, j < m → (os.getD j O0).l.length ≤ 1048576) (h : TxAt w ia n oa m rs os)
    (hP : w.heap[P]? = some (.cells #[.int .i64 k, .int .i64 f, .slice ia n c, .slice oa m d] 28 (0, 0))) :
    Calls Tryz.prog 27 #[.pointer (some ⟨P, 0, none⟩)] w fun e w' => e = .returned (.int .i64 (txR k f rs os)) ∧ Below w.heap.size w w' := by
  unfold maxLen at hc2
  obtain ⟨p0, p1, p2, p3, _⟩ := cells4 hP
  have hPl := lt_of_block hP
  have HP : Hid (w.heap[P]? = some (.cells #[.int .i64 k, .int .i64 f, .slice ia n c, .slice oa m d] 28 (0, 0))) := hP
  have HR : Hid (GAt w ia n rs) := h.r
  have HO : Hid (OAt w oa m os) := h.o
  have HN : Hid (rs.length = n) := h.r.1
  have HM : Hid (os.length = m) := h.o.1
  have HK : Hid (∀ j, j < m → (os.getD j O0).l.length ≤ 1048576) := hk
  obtain ⟨r, hr⟩ : ∃ r, r = txR k f rs os := ⟨_, rfl⟩
  rw [← hr]
  have HV : Hid (r = txR k f rs os) := hr
  obtain ⟨b1, hb1⟩ : ∃ b, b = inB k 0 2 := ⟨_, rfl⟩
  obtain ⟨bf, hbf⟩ : ∃ b, b = inB f 1 999 := ⟨_, rfl⟩
  obtain ⟨bn, hbn⟩ : ∃ b, b = inB n 1 4 := ⟨_, rfl⟩
  obtain ⟨bm, hbm⟩ : ∃ b, b = inB m 1 4 := ⟨_, rfl⟩
  have h1 : ∀ v, Calls Tryz.prog 55 #[.int .i64 k, .int .i64 0, .int .i64 2] v fun e w' => e = .returned (.bool b1) ∧ w' = v := fun v => by rw [hb1]; exact l1In_any _ _ _ v
  have h2 : ∀ v, Calls Tryz.prog 56 #[.int .i64 f] v fun e w' => e = .returned (.bool bf) ∧ w' = v := fun v => by rw [hbf]; exact l1Key_any _ v
  have h3 : ∀ v, Calls Tryz.prog 55 #[.int .i64 n, .int .i64 1, .int .i64 4] v fun e w' => e = .returned (.bool bn) ∧ w' = v := fun v => by rw [hbn]; exact l1In_any _ _ _ v
  have h4 : ∀ v, Calls Tryz.prog 55 #[.int .i64 m, .int .i64 1, .int .i64 4] v fun e w' => e = .returned (.bool bm) ∧ w' = v := fun v => by rw [hbm]; exact l1In_any _ _ _ v
  have HB1 : Hid (b1 = inB k 0 2) := hb1
  have HBF : Hid (bf = inB f 1 999) := hbf
  have HBN : Hid (bn = inB n 1 4) := hbn
  have HBM : Hid (bm = inB m 1 4) := hbm
  clear hP h hk hr hb1 hbf hbn hbm
  cases b1
  · obtain rfl : r = 1 := by rw [HV.out]; exact txR_form (.inl HB1.out.symm)
    go_enter Tryz.func27, Tryz.ntmps27
    go_wp2
    go_quiet (first | (go_at_call 55; refine Calls.quiet_of_same (h1 _)))
    go_wp2
    go_ret
    exact ⟨rfl, Joins.below_draws _ _ _⟩
  by_cases hiff : ¬ (k = 0 ↔ f = 0)
  · obtain rfl : r = 1 := by rw [HV.out]; exact txR_form (.inr hiff)
    by_cases hk0 : k = 0
    · have hf0 : ¬ f = 0 := fun e => hiff ⟨fun _ => e, fun _ => hk0⟩
      have hfb : (f == 0) = false := by simpa using hf0
      subst hk0
      go_enter Tryz.func27, Tryz.ntmps27
      go_wp2
      go_quiet (first | (go_at_call 55; refine Calls.quiet_of_same (h1 _)))
      go_wp2
      go_ret
      exact ⟨rfl, Joins.below_draws _ _ _⟩
    · have hf0 : f = 0 := Classical.not_not.1 fun e => hiff ⟨fun h => absurd h hk0, fun h => absurd h e⟩
      have hkb : (k == 0) = false := by simpa using hk0
      subst hf0
      go_enter Tryz.func27, Tryz.ntmps27
      go_wp2
      go_quiet (first | (go_at_call 55; refine Calls.quiet_of_same (h1 _)))
      go_wp2
      go_ret
      exact ⟨rfl, Joins.below_draws _ _ _⟩
  replace hiff : k = 0 ↔ f = 0 := Classical.not_not.1 hiff
  by_cases hrg : k ≠ 0 ∧ bf = false
  · obtain ⟨hk0, rfl⟩ := hrg
    obtain rfl : r = 3 := by rw [HV.out]; exact txR_range HB1.out.symm hiff hk0 HBF.out.symm
    have hkb : (k == 0) = false := by simpa using hk0
    have hfb : (f == 0) = false := by simpa using fun e => hk0 (hiff.2 e)
    have hf0 : ¬ f = 0 := fun e => hk0 (hiff.2 e)
    clear hiff
    go_enter Tryz.func27, Tryz.ntmps27
    go_wp2
    go_quiet (first | (go_at_call 55; refine Calls.quiet_of_same (h1 _)))
    go_wp2_with (first | (go_at_call 56; refine (h2 _).mono ?_; rintro e w' ⟨rfl, hw⟩; have hw2 := hw.symm; subst hw2))
    go_ret
    exact ⟨rfl, Joins.below_draws _ _ _⟩
  have HRG : Hid (¬ (k ≠ 0 ∧ inB f 1 999 = false)) := by show ¬ _; rw [← HBF.out]; exact hrg
  have HIF : Hid (k = 0 ↔ f = 0) := hiff
  by_cases hmn : bn = false ∨ bm = false
  · obtain rfl : r = 2 := by rw [HV.out]; exact txR_many HN.out HM.out HB1.out.symm HIF.out HRG.out (by rw [← HBN.out, ← HBM.out]; exact hmn)
    have hmn2 : bn = false ∨ bn = true ∧ bm = false := by rcases hmn with h | h <;> cases bn <;> simp_all
    clear hmn
    by_cases hk0 : k = 0
    · obtain rfl : f = 0 := hiff.1 hk0
      subst hk0
      clear hiff hrg
      rcases hmn2 with rfl | ⟨rfl, rfl⟩
      all_goals
        go_enter Tryz.func27, Tryz.ntmps27
        go_wp2
        go_quiet (first | (go_at_call 55; refine Calls.quiet_of_same (h1 _)))
        go_wp2_with (first | (go_at_call 55; (first | (with_reducible refine (h3 _).mono ?_; skip) | (with_reducible refine (h4 _).mono ?_; skip)); rintro e w' ⟨rfl, hw⟩; have hw2 := hw.symm; subst hw2))
        go_ret
        exact ⟨rfl, Joins.below_draws _ _ _⟩
    · have hkb : (k == 0) = false := by simpa using hk0
      have hf0 : ¬ f = 0 := fun e => hk0 (hiff.2 e)
      have hfb : (f == 0) = false := by simpa using hf0
      obtain rfl : bf = true := by cases bf; exact absurd ⟨hk0, rfl⟩ hrg; rfl
      clear hiff hrg
      rcases hmn2 with rfl | ⟨rfl, rfl⟩
      all_goals
        go_enter Tryz.func27, Tryz.ntmps27
        go_wp2
        go_quiet (first | (go_at_call 55; refine Calls.quiet_of_same (h1 _)))
        go_wp2_with (first | (go_at_call 56; refine (h2 _).mono ?_; rintro e w' ⟨rfl, hw⟩; have hw2 := hw.symm; subst hw2) | (go_at_call 55; (first | (with_reducible refine (h3 _).mono ?_; skip) | (with_reducible refine (h4 _).mono ?_; skip)); rintro e w' ⟨rfl, hw⟩; have hw2 := hw.symm; subst hw2))
        go_ret
        exact ⟨rfl, Joins.below_draws _ _ _⟩
  obtain rfl : bn = true := by cases bn <;> simp_all
  obtain rfl : bm = true := by cases bm <;> simp_all
  have HREST : Hid (r = if refsR [] rs ≠ 0 then refsR [] rs else joinR k os) := by show _ = _; rw [HV.out]; exact txR_rest HN.out HM.out HB1.out.symm HIF.out HRG.out HBN.out.symm HBM.out.symm
  have hn4 := inB_true.1 HBN.out.symm
  have hm4 := inB_true.1 HBM.out.symm
  clear hmn HV
  rcases (show (k = 0 ∧ f = 0) ∨ ((k == 0) = false ∧ (f == 0) = false ∧ ¬ k = 0 ∧ ¬ f = 0 ∧ bf = true) by
    by_cases hk0 : k = 0
    · exact .inl ⟨hk0, hiff.1 hk0⟩
    · have hf0 : ¬ f = 0 := fun e => hk0 (hiff.2 e)
      refine .inr ⟨by simpa using hk0, by simpa using hf0, hk0, hf0, ?_⟩
      cases bf
      · exact absurd ⟨hk0, rfl⟩ hrg
      · rfl) with ⟨rfl, rfl⟩ | ⟨hkb, hfb, hk0, hf0, rfl⟩
  all_goals
    clear hiff hrg
    go_enter Tryz.func27, Tryz.ntmps27
    go_wp2
    go_quiet (first | (go_at_call 55; refine Calls.quiet_of_same (h1 _)))
    go_wp2_with (first | (go_at_call 56; refine (h2 _).mono ?_; rintro e w' ⟨rfl, hw⟩; have hw2 := hw.symm; subst hw2) | (go_at_call 55; (first | (with_reducible refine (h3 _).mono ?_; skip) | (with_reducible refine (h4 _).mono ?_; skip)); rintro e w' ⟨rfl, hw⟩; have hw2 := hw.symm; subst hw2))
    clear h1 h2 h3 h4
    go_loopw [3] (fun i wr => ∃ j : Nat, j ≤ n ∧ i = .int .i64 j ∧ Below w.heap.size w wr ∧ Hid (refsR [] rs = refsR (rs.take j) (rs.drop j))) (fun i _ => n - (intOf i).toNat)
    case atStart => exact ⟨0, Nat.zero_le _, rfl, Joins.below_draws _ _ _, by show _ = _; simp⟩
    case round =>
      obtain ⟨j, hj, rfl, hbel, HT⟩ := hrel
      have y2 := (hbel.cell (p := ⟨P, 2, none⟩) hPl).trans p2
      by_cases hlt : j < n
      · rcases HR.out.2 with h0 | ⟨b, off, ha, hb, hc⟩
        · omega
        subst ha
        obtain ⟨g, hg⟩ : ∃ g, g = rs.getD j G0 := ⟨_, rfl⟩
        have hcx := hc j hlt
        rw [← hg] at hcx
        obtain ⟨g1, g2⟩ := g
        have c0 := (hbel.cell (p := ⟨b, off + j * 2, none⟩) hb).trans hcx.1
        have c1 := (hbel.cell (p := ⟨b, off + j * 2 + 1, none⟩) hb).trans hcx.2
        have HG : Hid ((g1, g2) = rs.getD j G0) := hg
        have hki : (j : Int) < (n : Int) := by omega
        have hkc : (j : Int) ≤ (c : Int) := by omega
        have hkm : j ≤ maxLen := by unfold maxLen; omega
        obtain ⟨kr, hkr⟩ : ∃ b, b = refB (g1, g2) := ⟨_, rfl⟩
        have hrf := l3Ref_any g1 g2 wr
        rw [← hkr] at hrf
        have HKR : Hid (kr = refB (g1, g2)) := hkr
        clear hg hc hcx hkr
        cases kr
        · obtain rfl : r = 3 := by have e1 := refs_bad HN.out hlt HG.out HT.out HKR.out.symm; rw [HREST.out, e1]; rfl
          go_wp2_with (first | (go_at_call 57; refine hrf.mono ?_; rintro e w2 ⟨rfl, hb2⟩))
          go_ret
          exact ⟨rfl, hbel.trans (hb2.mono hbel.size)⟩
        · obtain ⟨mb, hmb⟩ : ∃ b, b = memB (rs.take j) (g1, g2) := ⟨_, rfl⟩
          have HMB : Hid (memB (rs.take j) (g1, g2) = mb) := hmb.symm
          clear hmb
          go_wp2_with (first | (go_at_call 57; refine hrf.mono ?_; rintro e w2 ⟨rfl, hb2⟩; have hbw : Below w.heap.size w w2 := hbel.trans (hb2.mono hbel.size); have z2 := (hbw.cell (p := ⟨P, 2, none⟩) hPl).trans p2; have x0 := (hb2.cell (p := ⟨b, off + j * 2, none⟩) (Nat.lt_of_lt_of_le hb hbel.size)).trans c0; have x1 := (hb2.cell (p := ⟨b, off + j * 2 + 1, none⟩) (Nat.lt_of_lt_of_le hb hbel.size)).trans c1; clear hb2))
          have hPw : P < w2.heap.size := Nat.lt_of_lt_of_le hPl hbw.size
          have hbw2 : b < w2.heap.size := Nat.lt_of_lt_of_le hb hbw.size
          have ham : Calls Tryz.prog 36 #[.slice (some ⟨b, off, none⟩) j c, .agg #[.int .i64 g1, .int .i64 g2]] w2.drew fun e w' => e = .returned (.bool mb) ∧ Below w2.heap.size w2 w' := by
            have := l3Among_any (some ⟨b, off, none⟩) j c (rs.take j) g1 g2 w2.drew hkm (((HR.out.below hbw (Nat.le_refl _)).take hj).below (Below.refl _ _).drew (Nat.le_refl _))
            rw [HMB.out] at this
            exact this.mono fun e w' h => ⟨h.1, (Below.refl _ _).drew.trans h.2⟩
          go_region_held3 (fun w' => w'.cell? ⟨P, 2, none⟩ = some (.slice (some ⟨b, off, none⟩) n c) ∧ w'.cell? ⟨b, off + j * 2, none⟩ = some (.int .i64 g1) ∧ w'.cell? ⟨b, off + j * 2 + 1, none⟩ = some (.int .i64 g2)) (go_keep)
            (first | (go_at_call 36; refine ham.mono ?_; rintro e w3 ⟨rfl, hb3⟩; have q1 := (hb3.cell (p := ⟨P, 2, none⟩) hPw).trans z2; have q2 := (hb3.cell (p := ⟨b, off + j * 2, none⟩) hbw2).trans x0; have q3 := (hb3.cell (p := ⟨b, off + j * 2 + 1, none⟩) hbw2).trans x1))
          cases mb
          · go_wp2
            go_roundw
            case rel => exact ⟨j + 1, by omega, by go_num, hbw.trans (hb3.mono hbw.size), refs_go HN.out hlt HG.out HT.out HKR.out.symm HMB.out⟩
            case measure => simp [intOf]; omega
          · obtain rfl : r = 7 := by have e1 := refs_taken HN.out hlt HG.out HT.out HKR.out.symm HMB.out; rw [HREST.out, e1]; rfl
            go_wp2
            go_ret
            exact ⟨rfl, hbw.trans (hb3.mono hbw.size)⟩
      · have y0 := (hbel.cell (p := ⟨P, 0, none⟩) hPl).trans p0
        have y3 := (hbel.cell (p := ⟨P, 3, none⟩) hPl).trans p3
        have hlo := l3Outs_any P m d oa os _ wr (by omega) hm HK.out (HO.out.below hbel (Nat.le_refl _)) (Nat.lt_of_lt_of_le hPl hbel.size) y0 y3
        have e1 := refs_done HN.out hlt HT.out
        have e2 := HREST.out
        rw [e1, if_neg (by simp)] at e2
        rw [← e2] at hlo
        clear e1 e2
        go_wp2_with (first | (go_at_call 58; refine hlo.mono ?_; rintro e w2 ⟨rfl, hb2⟩))
        go_ret
        exact ⟨rfl, hbel.trans (hb2.mono hbel.size)⟩

theorem sTxFault_any (n c m d : Nat) (ia oa : Option Addr) (k f : Int) (rs : List (Int × Int)) (os : List Ou) (w : World) (hn : n ≤ 1048576) (hm : m ≤ 1048576) (hc1 : n ≤ c) (hc2 : c ≤ maxLen) (hk : ∀ j, j < m → (os.getD j O0).l.length ≤ 1048576) (h : TxAt w ia n oa m rs os) :
    Calls Tryz.prog 12 #[.agg #[.int .i64 k, .int .i64 f, .slice ia n c, .slice oa m d]] w fun e w' => e = .returned (.int .i64 (txR k f rs os)) ∧ Below w.heap.size w w' := by
  have hbx : Below w.heap.size w (w.alloc (.cells #[.int .i64 k, .int .i64 f, .slice ia n c, .slice oa m d] 28)) := below_box _
  have hS := l3Fault_any w.heap.size n c m d ia oa k f rs os _ hn hm hc1 hc2 hk (h.below hbx (Nat.le_refl _)) (heap_alloc_new _ _)
  have HBX : Hid (Below w.heap.size w (w.alloc (.cells #[.int .i64 k, .int .i64 f, .slice ia n c, .slice oa m d] 28))) := hbx
  clear hbx h hk
  go_enter Tryz.func12, Tryz.ntmps12
  go_wp2_with (go_at_call 27; refine hS.mono ?_; rintro e w2 ⟨rfl, hb2⟩)
  go_ret
  exact ⟨rfl, HBX.out.trans (hb2.mono (by simp))⟩

end Go.Proofs.YtciefdphjkjikaaGreatDoor

namespace Go.Proofs.YtciefdphjkjikaaGreatDoor
open Go.RowKit Go.Maps Go.WideMaps

def cmpI (a b : Int) : Int := if a < b then -1 else if b < a then 1 else 0
def cmpR (a b : Int × Int) : Int := if cmpI a.1 b.1 = 0 then cmpI a.2 b.2 else cmpI a.1 b.1
def outR (v : Int) (l : List Int) (x y : Int) : Int := if inB v 1 1000000 = false then 3 else ruleR l x y
def coinR (c : Co) : Int := if refB (c.p, c.q) = false ∨ inB c.h 0 999 = false then 3 else outR c.v c.l c.x c.y
def csR (pr : Int × Int) : List Co → Int
  | [] => 0
  | c :: t => if coinR c ≠ 0 then coinR c else if cmpR (c.p, c.q) pr ≤ 0 then 1 else csR (c.p, c.q) t
def coinsR (cs : List Co) : Int := if 40 < cs.length then 2 else csR (0, 0) cs

end Go.Proofs.YtciefdphjkjikaaGreatDoor
