/- Two lists of coins: the program holds them against each other. The law on SameCoins. -/
import Derived.Test.YthjolannlefbcaaGreatDoorCnW
import Derived.Test.YthjolannlefbcaaGreatDoorJn2
import Derived.Test.YthjolannlefbcaaGreatDoorISm
namespace Go.Proofs.YthjolannlefbcaaGreatDoor
open Go.RowKit Go.Maps Go.WideMaps

set_option maxHeartbeats 2000000 in
theorem sameCoin_any (ap aq av : Int) (ka : Option Addr) (kc : Nat) (al : List Int) (ax ay ah : Int) (am : Bool) (bp bq bv : Int) (ja : Option Addr) (jc : Nat) (bl : List Int) (bx by' bh : Int) (bm : Bool) (w : World) (hl : al.length ≤ 1048576) (hl2 : bl.length ≤ 1048576) (ha : IAt w ka al.length al) (hb : IAt w ja bl.length bl) :
    Calls Tryz.prog 29 #[.agg #[.int .i64 ap, .int .i64 aq, .int .i64 av, .slice ka al.length kc, .int .i64 ax, .int .i64 ay, .int .i64 ah, .bool am], .agg #[.int .i64 bp, .int .i64 bq, .int .i64 bv, .slice ja bl.length jc, .int .i64 bx, .int .i64 by', .int .i64 bh, .bool bm]] w fun e w' => e = .returned (.bool (sameC ⟨ap, aq, av, al, ax, ay, ah, am⟩ ⟨bp, bq, bv, bl, bx, by', bh, bm⟩)) ∧ Below w.heap.size w w' := by
  obtain ⟨t0, t1, t2⟩ := blocks2 w (.cells #[.int .i64 ap, .int .i64 aq, .int .i64 av, .slice ka al.length kc, .int .i64 ax, .int .i64 ay, .int .i64 ah, .bool am] 75) (.cells #[.int .i64 bp, .int .i64 bq, .int .i64 bv, .slice ja bl.length jc, .int .i64 bx, .int .i64 by', .int .i64 bh, .bool bm] 75)
  have hbx : Below w.heap.size w ((w.alloc (.cells #[.int .i64 ap, .int .i64 aq, .int .i64 av, .slice ka al.length kc, .int .i64 ax, .int .i64 ay, .int .i64 ah, .bool am] 75)).alloc (.cells #[.int .i64 bp, .int .i64 bq, .int .i64 bv, .slice ja bl.length jc, .int .i64 bx, .int .i64 by', .int .i64 bh, .bool bm] 75)) := below_box2 _ _
  have hO := sameOuts_any av bv ka ja al.length bl.length kc jc al bl ax bx ay by' ((w.alloc (.cells #[.int .i64 ap, .int .i64 aq, .int .i64 av, .slice ka al.length kc, .int .i64 ax, .int .i64 ay, .int .i64 ah, .bool am] 75)).alloc (.cells #[.int .i64 bp, .int .i64 bq, .int .i64 bv, .slice ja bl.length jc, .int .i64 bx, .int .i64 by', .int .i64 bh, .bool bm] 75)) hl hl2 (ha.below hbx (Nat.le_refl _)) (hb.below hbx (Nat.le_refl _))
  obtain ⟨so, hso⟩ : ∃ b, b = sameO ⟨av, al, ax, ay⟩ ⟨bv, bl, bx, by'⟩ := ⟨_, rfl⟩
  rw [← hso] at hO
  have hsv : (decide (av = bv) && sameR al bl ax bx ay by') = so := hso.symm
  obtain ⟨r, hr⟩ : ∃ r, r = sameC ⟨ap, aq, av, al, ax, ay, ah, am⟩ ⟨bp, bq, bv, bl, bx, by', bh, bm⟩ := ⟨_, rfl⟩
  have hr2 : r = (decide (ap = bp) && (decide (aq = bq) && (decide (ah = bh) && ((am == bm) && so)))) := by rw [hr, ← hsv]; rfl
  rw [← hr]
  have HR : Hid (r = (decide (ap = bp) && (decide (aq = bq) && (decide (ah = bh) && ((am == bm) && so))))) := hr2
  have HBX : Hid (Below w.heap.size w ((w.alloc (.cells #[.int .i64 ap, .int .i64 aq, .int .i64 av, .slice ka al.length kc, .int .i64 ax, .int .i64 ay, .int .i64 ah, .bool am] 75)).alloc (.cells #[.int .i64 bp, .int .i64 bq, .int .i64 bv, .slice ja bl.length jc, .int .i64 bx, .int .i64 by', .int .i64 bh, .bool bm] 75))) := hbx
  have T0 : Hid (((w.alloc (.cells #[.int .i64 ap, .int .i64 aq, .int .i64 av, .slice ka al.length kc, .int .i64 ax, .int .i64 ay, .int .i64 ah, .bool am] 75)).alloc (.cells #[.int .i64 bp, .int .i64 bq, .int .i64 bv, .slice ja bl.length jc, .int .i64 bx, .int .i64 by', .int .i64 bh, .bool bm] 75)).heap[w.heap.size]? = some (.cells #[.int .i64 ap, .int .i64 aq, .int .i64 av, .slice ka al.length kc, .int .i64 ax, .int .i64 ay, .int .i64 ah, .bool am] 75 (0, 0))) := t0
  have T1 : Hid (((w.alloc (.cells #[.int .i64 ap, .int .i64 aq, .int .i64 av, .slice ka al.length kc, .int .i64 ax, .int .i64 ay, .int .i64 ah, .bool am] 75)).alloc (.cells #[.int .i64 bp, .int .i64 bq, .int .i64 bv, .slice ja bl.length jc, .int .i64 bx, .int .i64 by', .int .i64 bh, .bool bm] 75)).heap[w.heap.size + 1]? = some (.cells #[.int .i64 bp, .int .i64 bq, .int .i64 bv, .slice ja bl.length jc, .int .i64 bx, .int .i64 by', .int .i64 bh, .bool bm] 75 (0, 0))) := t1
  obtain ⟨⟨s0, s1, s2, s3, s4, s5, s6, s7⟩, _⟩ := cells8 t0
  obtain ⟨⟨z0, z1, z2, z3, z4, z5, z6, z7⟩, _⟩ := cells8 t1
  clear hr hr2 hso hsv hbx t0 t1 t2 ha hb
  by_cases h1 : ap = bp
  rotate_left
  · obtain rfl : r = false := by rw [HR.out]; simp [h1]
    have e1 : (ap == bp) = false := by simp [h1]
    have e3 : decide (ap = bp) = false := by simp [h1]
    clear h1 hO
    go_enter Tryz.func29, Tryz.ntmps29
    go_wp2
    go_ret
    exact ⟨rfl, HBX.out⟩
  subst h1
  by_cases h2 : aq = bq
  rotate_left
  · obtain rfl : r = false := by rw [HR.out]; simp [h2]
    have e1 : (aq == bq) = false := by simp [h2]
    have e3 : decide (aq = bq) = false := by simp [h2]
    clear h2 hO
    go_enter Tryz.func29, Tryz.ntmps29
    go_wp2
    go_ret
    exact ⟨rfl, HBX.out⟩
  subst h2
  cases so
  · obtain rfl : r = false := by rw [HR.out]; simp
    go_enter Tryz.func29, Tryz.ntmps29
    go_wp2_with (first | (go_at_call 60; (with_reducible refine hO.mono ?_); clear hO; rintro e w2 ⟨rfl, hb2⟩; have U0 := keepb T0.out hb2; have U1 := keepb T1.out hb2; clear s0 s1 s2 s3 s4 s5 s6 s7 z0 z1 z2 z3 z4 z5 z6 z7; obtain ⟨⟨s0, s1, s2, s3, s4, s5, s6, s7⟩, _⟩ := cells8 U0.out; obtain ⟨⟨z0, z1, z2, z3, z4, z5, z6, z7⟩, _⟩ := cells8 U1.out; have HB2 : Hid (Below w.heap.size w w2) := HBX.out.trans (hb2.mono HBX.out.size); clear hb2))
    go_ret
    exact ⟨rfl, HB2.out⟩
  by_cases h3 : ah = bh
  rotate_left
  · obtain rfl : r = false := by rw [HR.out]; simp [h3]
    have e1 : (ah == bh) = false := by simp [h3]
    have e3 : decide (ah = bh) = false := by simp [h3]
    clear h3
    go_enter Tryz.func29, Tryz.ntmps29
    go_wp2_with (first | (go_at_call 60; (with_reducible refine hO.mono ?_); clear hO; rintro e w2 ⟨rfl, hb2⟩; have U0 := keepb T0.out hb2; have U1 := keepb T1.out hb2; clear s0 s1 s2 s3 s4 s5 s6 s7 z0 z1 z2 z3 z4 z5 z6 z7; obtain ⟨⟨s0, s1, s2, s3, s4, s5, s6, s7⟩, _⟩ := cells8 U0.out; obtain ⟨⟨z0, z1, z2, z3, z4, z5, z6, z7⟩, _⟩ := cells8 U1.out; have HB2 : Hid (Below w.heap.size w w2) := HBX.out.trans (hb2.mono HBX.out.size); clear hb2))
    go_ret
    exact ⟨rfl, HB2.out⟩
  subst h3
  obtain rfl : r = (am == bm) := by rw [HR.out]; simp
  go_enter Tryz.func29, Tryz.ntmps29
  go_wp2_with (first | (go_at_call 60; (with_reducible refine hO.mono ?_); clear hO; rintro e w2 ⟨rfl, hb2⟩; have U0 := keepb T0.out hb2; have U1 := keepb T1.out hb2; clear s0 s1 s2 s3 s4 s5 s6 s7 z0 z1 z2 z3 z4 z5 z6 z7; obtain ⟨⟨s0, s1, s2, s3, s4, s5, s6, s7⟩, _⟩ := cells8 U0.out; obtain ⟨⟨z0, z1, z2, z3, z4, z5, z6, z7⟩, _⟩ := cells8 U1.out; have HB2 : Hid (Below w.heap.size w w2) := HBX.out.trans (hb2.mono HBX.out.size); clear hb2))
  go_ret
  exact ⟨rfl, HB2.out⟩

set_option maxHeartbeats 2000000 in
theorem cEqualF_any (a b : Option Addr) (n m c1 c2 : Nat) (cs cs' : List Co) (w : World) (hl : n ≤ 1048576) (hl2 : m ≤ 1048576) (hk : ∀ j, j < n → (cs.getD j C0).l.length ≤ 1048576) (hk' : ∀ j, j < m → (cs'.getD j C0).l.length ≤ 1048576) (ha : CAt w a n cs) (hb : CAt w b m cs') :
    Calls Tryz.prog 28 #[.slice a n c1, .slice b m c2, .func (.func 29) #[] #[]] w fun e w' => e = .returned (.bool (sameCs cs cs')) ∧ Below w.heap.size w w' := by
  obtain ⟨r, hr⟩ : ∃ r, r = (decide (n = m) && allC n cs cs') := ⟨_, rfl⟩
  have e0 : sameCs cs cs' = r := by rw [hr]; unfold sameCs; rw [ha.1, hb.1]
  rw [e0]
  have HR : Hid (r = (decide (n = m) && allC n cs cs')) := hr
  have HA : Hid (CAt w a n cs) := ha
  have HB : Hid (CAt w b m cs') := hb
  have HKL : Hid (∀ j, j < n → (cs.getD j C0).l.length ≤ 1048576) := hk
  have HKL2 : Hid (∀ j, j < m → (cs'.getD j C0).l.length ≤ 1048576) := hk'
  clear hr ha hb hk hk' e0
  by_cases hnm : n = m
  · subst hnm
    go_enter Tryz.func28, Tryz.ntmps28
    go_wp2
    go_loopw [17] (fun i wr => ∃ k : Nat, k ≤ n ∧ i = .int .i64 k ∧ Below w.heap.size w wr ∧ Hid (allC k cs cs' = true)) (fun i _ => n - (intOf i).toNat)
    case atStart => exact ⟨0, Nat.zero_le _, rfl, Below.refl _ _, by show _ = _; rfl⟩
    case round =>
      obtain ⟨k, hk, rfl, hbel, HT⟩ := hrel
      by_cases hlt : k < n
      · rcases HA.out.2 with h0 | ⟨b0, o0, e0, l0, d0⟩
        · omega
        subst e0
        rcases HB.out.2 with h0 | ⟨b1, o1, e1, l1, d1⟩
        · omega
        subst e1
        obtain ⟨o, ho⟩ : ∃ o, o = cs.getD k C0 := ⟨_, rfl⟩
        obtain ⟨u, hu⟩ : ∃ o, o = cs'.getD k C0 := ⟨_, rfl⟩
        obtain ⟨ka, kc, p0, p4, p5⟩ := d0 k hlt
        obtain ⟨ja, jc, q0, q4, q5⟩ := d1 k hlt
        have hol := HKL.out k hlt
        have hul := HKL2.out k hlt
        rw [← ho] at p0 p4 p5 hol
        rw [← hu] at q0 q4 q5 hul
        have HS : Hid (o = cs.getD k C0) := ho
        have HU : Hid (u = cs'.getD k C0) := hu
        obtain ⟨ap, aq, av, al, ax, ay, ah, am⟩ := o
        obtain ⟨bp, bq, bv, bl, bx, by', bh, bm⟩ := u
        have hbx : Below wr.heap.size wr ((wr.alloc (.cells #[.int .i64 ap, .int .i64 aq, .int .i64 av, .slice ka al.length kc, .int .i64 ax, .int .i64 ay, .int .i64 ah, .bool am] 75)).alloc (.cells #[.int .i64 bp, .int .i64 bq, .int .i64 bv, .slice ja bl.length jc, .int .i64 bx, .int .i64 by', .int .i64 bh, .bool bm] 75)) := below_box2 _ _
        have hb1 : Below wr.heap.size wr (wr.alloc (.cells #[.int .i64 ap, .int .i64 aq, .int .i64 av, .slice ka al.length kc, .int .i64 ax, .int .i64 ay, .int .i64 ah, .bool am] 75)) := below_box _
        obtain ⟨x0, x1, x2, x3, x4, x5, x6, x7⟩ := p0.below hbel l0
        obtain ⟨y0, y1, y2, y3, y4, y5, y6, y7⟩ := (q0.below hbel l1).below hb1 (Nat.lt_of_lt_of_le l1 hbel.size)
        simp only at x0 x1 x2 x3 x4 x5 x6 x7 y0 y1 y2 y3 y4 y5 y6 y7 hol p5 hul q5
        have hS := sameCoin_any ap aq av ka kc al ax ay ah am bp bq bv ja jc bl bx by' bh bm ((wr.alloc (.cells #[.int .i64 ap, .int .i64 aq, .int .i64 av, .slice ka al.length kc, .int .i64 ax, .int .i64 ay, .int .i64 ah, .bool am] 75)).alloc (.cells #[.int .i64 bp, .int .i64 bq, .int .i64 bv, .slice ja bl.length jc, .int .i64 bx, .int .i64 by', .int .i64 bh, .bool bm] 75)) hol hul ((p5.below hbel (Nat.le_refl _)).below hbx (Nat.le_refl _)) ((q5.below hbel (Nat.le_refl _)).below hbx (Nat.le_refl _))
        obtain ⟨sb, hsb⟩ : ∃ b, b = sameC ⟨ap, aq, av, al, ax, ay, ah, am⟩ ⟨bp, bq, bv, bl, bx, by', bh, bm⟩ := ⟨_, rfl⟩
        rw [← hsb] at hS
        have HSB : Hid (sameC ⟨ap, aq, av, al, ax, ay, ah, am⟩ ⟨bp, bq, bv, bl, bx, by', bh, bm⟩ = sb) := hsb.symm
        have HBX : Hid (Below wr.heap.size wr ((wr.alloc (.cells #[.int .i64 ap, .int .i64 aq, .int .i64 av, .slice ka al.length kc, .int .i64 ax, .int .i64 ay, .int .i64 ah, .bool am] 75)).alloc (.cells #[.int .i64 bp, .int .i64 bq, .int .i64 bv, .slice ja bl.length jc, .int .i64 bx, .int .i64 by', .int .i64 bh, .bool bm] 75))) := hbx
        clear ho hu d0 d1 p0 p4 p5 q0 q4 q5 hsb hbx hb1
        have hki : (k : Int) < (n : Int) := by omega
        cases sb
        · obtain rfl : r = false := by rw [HR.out, allC_bad hlt HS.out HU.out HSB.out]; simp
          go_wp2_with (go_at_call 29; (with_reducible refine hS.mono ?_); rintro e w2 ⟨rfl, hb2⟩)
          go_ret
          exact ⟨rfl, (hbel.trans (HBX.out.mono hbel.size)).trans (hb2.mono (by have := hbel.size; simp; omega))⟩
        · go_wp2_with (go_at_call 29; (with_reducible refine hS.mono ?_); rintro e w2 ⟨rfl, hb2⟩)
          go_roundw
          case rel => exact ⟨k + 1, by omega, by go_num, (hbel.trans (HBX.out.mono hbel.size)).trans (hb2.mono (by have := hbel.size; simp; omega)), allC_next HS.out HU.out HT.out HSB.out⟩
          case measure => simp [intOf]; omega
      · obtain rfl : k = n := by omega
        obtain rfl : r = true := by rw [HR.out, HT.out]; simp
        go_wp2
        go_ret
        exact ⟨rfl, hbel⟩
  · have hni : (n : Int) ≠ (m : Int) := by omega
    obtain rfl : r = false := by rw [HR.out]; simp [hnm]
    go_enter Tryz.func28, Tryz.ntmps28
    go_wp2
    go_ret
    exact ⟨rfl, Below.refl _ _⟩

theorem iSameCoins_any (a b : Option Addr) (n m c1 c2 : Nat) (cs cs' : List Co) (w : World) (hl : n ≤ 1048576) (hl2 : m ≤ 1048576) (hk : ∀ j, j < n → (cs.getD j C0).l.length ≤ 1048576) (hk' : ∀ j, j < m → (cs'.getD j C0).l.length ≤ 1048576) (ha : CAt w a n cs) (hb : CAt w b m cs') :
    Calls Tryz.prog 11 #[.slice a n c1, .slice b m c2] w fun e w' => e = .returned (.bool (sameCs cs cs')) ∧ Below w.heap.size w w' := by
  have hF := cEqualF_any a b n m c1 c2 cs cs' w hl hl2 hk hk' ha hb
  clear ha hb hk hk'
  go_enter Tryz.func11, Tryz.ntmps11
  go_wp2_with (go_at_call 28; (with_reducible refine hF.mono ?_); rintro e w2 ⟨rfl, hb2⟩)
  go_ret
  exact ⟨rfl, hb2⟩

end Go.Proofs.YthjolannlefbcaaGreatDoor
