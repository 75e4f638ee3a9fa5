/- Two lists of coins: the specification holds them against each other. -/
import Derived.Test.YtdomekniepeohaaCnB
import Derived.Test.YtdomekniepeohaaTxA
import Derived.Test.YtdomekniepeohaaRu
import Derived.Test.YtdomekniepeohaaTxX
import Derived.Test.YtdomekniepeohaaTxW
namespace Go.Proofs.Ytdomekniepeohaa
open Go.RowKit Go.Maps Go.WideMaps

def sameC (a b : Co) : Bool := decide (a.p = b.p) && (decide (a.q = b.q) && (decide (a.h = b.h) && ((a.m == b.m) && (decide (a.v = b.v) && sameR a.l b.l a.x b.x a.y b.y))))
def allC (n : Nat) (cs cs' : List Co) : Bool := (List.range n).all fun j => sameC (cs.getD j C0) (cs'.getD j C0)
theorem allC_next {n : Nat} {cs cs' : List Co} {a b : Co} (ha : a = cs.getD n C0) (hb : b = cs'.getD n C0) (h : allC n cs cs' = true) (h1 : sameC a b = true) : Hid (allC (n + 1) cs cs' = true) := by
  show _ = _
  unfold allC at *
  rw [List.range_succ, List.all_append, h, Bool.true_and, List.all_cons, List.all_nil, Bool.and_true, ← ha, ← hb]
  exact h1
theorem allC_bad {m n : Nat} {cs cs' : List Co} {a b : Co} (hn : n < m) (ha : a = cs.getD n C0) (hb : b = cs'.getD n C0) (h1 : sameC a b = false) : allC m cs cs' = false := by
  unfold allC
  rw [List.all_eq_false]
  exact ⟨n, List.mem_range.2 hn, by rw [← ha, ← hb, h1]; simp⟩
def sameCs (cs cs' : List Co) : Bool := decide (cs.length = cs'.length) && allC cs.length cs cs'

set_option maxRecDepth 20000 in
set_option maxHeartbeats 8000000 in
theorem l4Same_any (a b : Option Addr) (n m c1 c2 : Nat) (cs cs' : List Co) (w : World) (hl : n ≤ 1048576) (hl2 : m ≤ 1048576) (hk : ∀ j, j < n → (cs.getD j C0).l.length ≤ 1048576) (hk' : ∀ j, j < m → (cs'.getD j C0).l.length ≤ 1048576) (ha : CAt w a n cs) (hb : CAt w b m cs') :
    Calls Try.prog 45 #[.slice a n c1, .slice b m c2] w fun e w' => e = .returned (.bool (sameCs cs cs')) ∧ Below w.heap.size w w' := by
  obtain ⟨r, hr⟩ : ∃ r, r = (decide (n = m) && allC n cs cs') := ⟨_, rfl⟩
  have e0 : sameCs cs cs' = r := by rw [hr]; unfold sameCs; rw [ha.1, hb.1]
  rw [e0]
  have HR : Hid (r = (decide (n = m) && allC n cs cs')) := hr
  have HA : Hid (CAt w a n cs) := ha
  have HB : Hid (CAt w b m cs') := hb
  have HKL : Hid (∀ j, j < n → (cs.getD j C0).l.length ≤ 1048576) := hk
  have HKL2 : Hid (∀ j, j < m → (cs'.getD j C0).l.length ≤ 1048576) := hk'
  clear hr ha hb hk hk' e0
  by_cases hnm : n = m
  · subst hnm
    go_enter Try.func45, Try.ntmps45
    go_wp2
    go_loopw [5] (fun i wr => ∃ j : Nat, j ≤ n ∧ i = .int .i64 j ∧ Below w.heap.size w wr ∧ Hid (allC j cs cs' = true)) (fun i _ => n - (intOf i).toNat)
    case atStart => exact ⟨0, Nat.zero_le _, rfl, Below.refl _ _, by show _ = _; rfl⟩
    case round =>
      obtain ⟨j, hj, rfl, hbel, HT⟩ := hrel
      by_cases hlt : j < n
      · rcases HA.out.2 with h0 | ⟨b0, o0, e0, l0, d0⟩
        · omega
        subst e0
        rcases HB.out.2 with h0 | ⟨b1, o1, e1, l1, d1⟩
        · omega
        subst e1
        obtain ⟨o, ho⟩ : ∃ o, o = cs.getD j C0 := ⟨_, rfl⟩
        obtain ⟨u, hu⟩ : ∃ o, o = cs'.getD j C0 := ⟨_, rfl⟩
        obtain ⟨ka, kc, p0, p4, p5⟩ := d0 j hlt
        obtain ⟨ja, jc, q0, q4, q5⟩ := d1 j hlt
        have hol := HKL.out j hlt
        have hul := HKL2.out j hlt
        rw [← ho] at p0 p4 p5 hol
        rw [← hu] at q0 q4 q5 hul
        have HS : Hid (o = cs.getD j C0) := ho
        have HU : Hid (u = cs'.getD j C0) := hu
        obtain ⟨ap, aq, av, al, ax, ay, ah, am⟩ := o
        obtain ⟨bp, bq, bv, bl, bx, by', bh, bm⟩ := u
        obtain ⟨x0, x1, x2, x3, x4, x5, x6, x7⟩ := p0.below hbel l0
        obtain ⟨y0, y1, y2, y3, y4, y5, y6, y7⟩ := q0.below hbel l1
        simp only at x0 x1 x2 x3 x4 x5 x6 x7 y0 y1 y2 y3 y4 y5 y6 y7 hol p5 hul q5
        have hw0 : b0 < wr.heap.size := Nat.lt_of_lt_of_le l0 hbel.size
        have hw1 : b1 < wr.heap.size := Nat.lt_of_lt_of_le l1 hbel.size
        obtain ⟨sr, hsr⟩ : ∃ x, x = sameR al bl ax bx ay by' := ⟨_, rfl⟩
        have HSR : Hid (sr = sameR al bl ax bx ay by') := hsr
        have hcall : Calls Try.prog 65 #[.pointer (some ⟨b0, o0 + j * 8 + 3, none⟩), .pointer (some ⟨b1, o1 + j * 8 + 3, none⟩)] wr.drew fun e w' => e = .returned (.bool sr) ∧ Below wr.heap.size wr w' := by
          rw [hsr]
          exact (l2SameAt_any b0 b1 (o0 + j * 8 + 3) (o1 + j * 8 + 3) ka ja al.length bl.length kc jc al bl ax bx ay by' wr.drew hol hul ((p5.below hbel (Nat.le_refl _)).below (Below.refl _ _).drew (Nat.le_refl _)) ((q5.below hbel (Nat.le_refl _)).below (Below.refl _ _).drew (Nat.le_refl _)) hw0 hw1 x3 x4 x5 y3 y4 y5).mono fun e w' h => ⟨h.1, (Below.refl _ _).drew.trans h.2⟩
        have hki : (j : Int) < (n : Int) := by omega
        clear ho hu d0 d1 p0 p4 p5 q0 q4 q5 hol hul hsr x3 x4 x5 y3 y4 y5
        by_cases t1 : ap = bp
        rotate_left
        · obtain rfl : r = false := by rw [HR.out, allC_bad hlt HS.out HU.out (by simp [sameC, t1]), Bool.and_false]
          have e1 : (ap == bp) = false := by simp [t1]
          have e2 : (ap != bp) = true := by simp [t1]
          have e3 : decide (ap = bp) = false := by simp [t1]
          clear hcall t1 HSR
          go_wp2_with fail
          go_quiet (fail)
          go_wp2
          go_ret
          exact ⟨rfl, hbel.trans (Joins.below_draws _ _ _)⟩
        subst t1
        by_cases t2 : aq = bq
        rotate_left
        · obtain rfl : r = false := by rw [HR.out, allC_bad hlt HS.out HU.out (by simp [sameC, t2]), Bool.and_false]
          have e1 : (aq == bq) = false := by simp [t2]
          have e2 : (aq != bq) = true := by simp [t2]
          have e3 : decide (aq = bq) = false := by simp [t2]
          clear hcall t2 HSR
          go_wp2_with fail
          go_quiet (fail)
          go_wp2
          go_ret
          exact ⟨rfl, hbel.trans (Joins.below_draws _ _ _)⟩
        subst t2
        by_cases t3 : ah = bh
        rotate_left
        · obtain rfl : r = false := by rw [HR.out, allC_bad hlt HS.out HU.out (by simp [sameC, t3]), Bool.and_false]
          have e1 : (ah == bh) = false := by simp [t3]
          have e2 : (ah != bh) = true := by simp [t3]
          have e3 : decide (ah = bh) = false := by simp [t3]
          clear hcall t3 HSR
          go_wp2_with fail
          go_quiet (fail)
          go_wp2
          go_ret
          exact ⟨rfl, hbel.trans (Joins.below_draws _ _ _)⟩
        subst t3
        by_cases t4 : am = bm
        rotate_left
        · obtain rfl : r = false := by rw [HR.out, allC_bad hlt HS.out HU.out (by simp [sameC, t4]), Bool.and_false]
          have e1 : (am == bm) = false := by simp [t4]
          have e2 : (am != bm) = true := by simp [t4]
          have e3 : decide (am = bm) = false := by simp [t4]
          clear hcall t4 HSR
          go_wp2_with fail
          go_quiet (fail)
          go_wp2
          go_ret
          exact ⟨rfl, hbel.trans (Joins.below_draws _ _ _)⟩
        subst t4
        by_cases t5 : av = bv
        rotate_left
        · obtain rfl : r = false := by rw [HR.out, allC_bad hlt HS.out HU.out (by simp [sameC, t5]), Bool.and_false]
          have e1 : (av == bv) = false := by simp [t5]
          have e2 : (av != bv) = true := by simp [t5]
          have e3 : decide (av = bv) = false := by simp [t5]
          clear hcall t5 HSR
          go_wp2_with fail
          go_quiet (fail)
          go_wp2
          go_ret
          exact ⟨rfl, hbel.trans (Joins.below_draws _ _ _)⟩
        subst t5
        · go_wp2
          go_region_held3 (fun w' => w'.cell? ⟨b0, o0 + j * 8, none⟩ = some (.int .i64 ap) ∧ w'.cell? ⟨b0, o0 + j * 8 + 1, none⟩ = some (.int .i64 aq) ∧ w'.cell? ⟨b0, o0 + j * 8 + 2, none⟩ = some (.int .i64 av) ∧ w'.cell? ⟨b0, o0 + j * 8 + 6, none⟩ = some (.int .i64 ah) ∧ w'.cell? ⟨b0, o0 + j * 8 + 7, none⟩ = some (.bool am) ∧ w'.cell? ⟨b1, o1 + j * 8, none⟩ = some (.int .i64 ap) ∧ w'.cell? ⟨b1, o1 + j * 8 + 1, none⟩ = some (.int .i64 aq) ∧ w'.cell? ⟨b1, o1 + j * 8 + 2, none⟩ = some (.int .i64 av) ∧ w'.cell? ⟨b1, o1 + j * 8 + 6, none⟩ = some (.int .i64 ah) ∧ w'.cell? ⟨b1, o1 + j * 8 + 7, none⟩ = some (.bool am)) (go_keep)
            (first | (go_at_call 65; (with_reducible refine hcall.mono ?_); rintro e w3 ⟨rfl, hb3⟩; have z0 := (hb3.cell (p := ⟨b0, o0 + j * 8, none⟩) hw0).trans x0; have t0 := (hb3.cell (p := ⟨b1, o1 + j * 8, none⟩) hw1).trans y0; have z1 := (hb3.cell (p := ⟨b0, o0 + j * 8 + 1, none⟩) hw0).trans x1; have t1 := (hb3.cell (p := ⟨b1, o1 + j * 8 + 1, none⟩) hw1).trans y1; have z2 := (hb3.cell (p := ⟨b0, o0 + j * 8 + 2, none⟩) hw0).trans x2; have t2 := (hb3.cell (p := ⟨b1, o1 + j * 8 + 2, none⟩) hw1).trans y2; have z6 := (hb3.cell (p := ⟨b0, o0 + j * 8 + 6, none⟩) hw0).trans x6; have t6 := (hb3.cell (p := ⟨b1, o1 + j * 8 + 6, none⟩) hw1).trans y6; have z7 := (hb3.cell (p := ⟨b0, o0 + j * 8 + 7, none⟩) hw0).trans x7; have t7 := (hb3.cell (p := ⟨b1, o1 + j * 8 + 7, none⟩) hw1).trans y7))
          cases sr
          · obtain rfl : r = false := by rw [HR.out, allC_bad hlt HS.out HU.out (by simp [sameC, ← HSR.out]), Bool.and_false]
            go_wp2
            go_ret
            exact ⟨rfl, hbel.trans (hb3.mono hbel.size)⟩
          · go_wp2
            go_roundw
            case rel => exact ⟨j + 1, by omega, by go_num, hbel.trans (hb3.mono hbel.size), allC_next HS.out HU.out HT.out (by simp [sameC, ← HSR.out])⟩
            case measure => simp [intOf]; omega
      · obtain rfl : j = n := by omega
        obtain rfl : r = true := by rw [HR.out, HT.out]; simp
        go_wp2
        go_ret
        exact ⟨rfl, hbel⟩
  · have hni : (n : Int) ≠ (m : Int) := by omega
    obtain rfl : r = false := by rw [HR.out]; simp [hnm]
    go_enter Try.func45, Try.ntmps45
    go_wp2
    go_ret
    exact ⟨rfl, Below.refl _ _⟩

end Go.Proofs.Ytdomekniepeohaa
