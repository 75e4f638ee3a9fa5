/- The program's SameTxs keeps its contract. The program's SameTxs keeps its contract: the whole. -/
import Derived.Test.YtciefdphjkjikaaGreatDoorJn3
import Derived.Test.YtciefdphjkjikaaGreatDoorLSameTxs
import Derived.Test.YtciefdphjkjikaaGreatDoorSr
namespace Go.Proofs.YtciefdphjkjikaaGreatDoor
open Go.RowKit Go.Maps Go.WideMaps

theorem not_sameG {l l' : List (Int × Int)} {k : Nat} {s t : Int × Int} (hs : s = l.getD k G0) (ht : t = l'.getD k G0) (h : ¬ s = t) : ¬ l = l' := by
  rintro rfl; exact h (hs.trans ht.symm)

set_option maxHeartbeats 1000000 in
theorem rEqual_any (a b : Option Addr) (n m c1 c2 : Nat) (l l' : List (Int × Int)) (w : World) (hl : n ≤ 1048576) (hl2 : m ≤ 1048576) (ha : GAt w a n l) (hb : GAt w b m l') :
    Calls Tryz.prog 32 #[.slice a n c1, .slice b m c2] w fun e w' => e = .returned (.bool (decide (l = l'))) ∧ Below w.heap.size w w' := by
  obtain ⟨r, hr⟩ : ∃ r, r = decide (l = l') := ⟨_, rfl⟩
  rw [← hr]
  have HR : Hid (r = decide (l = l')) := hr
  have HA : Hid (GAt w a n l) := ha
  have HB : Hid (GAt w b m l') := hb
  clear hr ha hb
  by_cases hnm : n = m
  · subst hnm
    go_enter Tryz.func32, Tryz.ntmps32
    go_wp2
    go_loopw [13] (fun i wr => ∃ k : Nat, k ≤ n ∧ i = .int .i64 k ∧ Below w.heap.size w wr ∧ Hid (l.take k = l'.take k)) (fun i _ => n - (intOf i).toNat)
    case atStart => exact ⟨0, Nat.zero_le _, rfl, Below.refl _ _, by show _ = _; simp⟩
    case round =>
      obtain ⟨k, hk, rfl, hbel, HT⟩ := hrel
      by_cases hlt : k < n
      · rcases HA.out.2 with h0 | ⟨b0, o0, e0, l0, d0⟩
        · omega
        subst e0
        rcases HB.out.2 with h0 | ⟨b1, o1, e1, l1, d1⟩
        · omega
        subst e1
        obtain ⟨s, hs⟩ : ∃ s, s = l.getD k G0 := ⟨_, rfl⟩
        obtain ⟨t, ht⟩ : ∃ t, t = l'.getD k G0 := ⟨_, rfl⟩
        have y0 := d0 k hlt
        have y1 := d1 k hlt
        rw [← hs] at y0
        rw [← ht] at y1
        obtain ⟨s1, s2⟩ := s
        obtain ⟨t1, t2⟩ := t
        have x0 := (hbel.cell (p := ⟨b0, o0 + k * 2, none⟩) l0).trans y0.1
        have x1 := (hbel.cell (p := ⟨b0, o0 + k * 2 + 1, none⟩) l0).trans y0.2
        have x2 := (hbel.cell (p := ⟨b1, o1 + k * 2, none⟩) l1).trans y1.1
        have x3 := (hbel.cell (p := ⟨b1, o1 + k * 2 + 1, none⟩) l1).trans y1.2
        have HS : Hid ((s1, s2) = l.getD k G0) := hs
        have HTT : Hid ((t1, t2) = l'.getD k G0) := ht
        clear hs ht d0 d1 y0 y1
        have hki : (k : Int) < (n : Int) := by omega
        by_cases h1 : s1 = t1
        · subst h1
          by_cases h2 : s2 = t2
          · subst h2
            go_wp2
            go_quiet (fail)
            go_wp2
            go_roundw
            case rel => exact ⟨k + 1, by omega, by go_num, hbel.trans (Joins.below_draws _ _ _), take_sameG HA.out.1 HB.out.1 hlt HT.out HS.out HTT.out⟩
            case measure => simp [intOf]; omega
          · have e2 : (s2 == t2) = false := by simpa using h2
            obtain rfl : r = false := by rw [HR.out]; exact decide_eq_false (not_sameG HS.out HTT.out (fun e => h2 (congrArg Prod.snd e)))
            clear h2
            go_wp2
            go_quiet (fail)
            go_wp2
            go_ret
            exact ⟨rfl, hbel.trans (Joins.below_draws _ _ _)⟩
        · have e2 : (s1 == t1) = false := by simpa using h1
          obtain rfl : r = false := by rw [HR.out]; exact decide_eq_false (not_sameG HS.out HTT.out (fun e => h1 (congrArg Prod.fst e)))
          clear h1
          go_wp2
          go_quiet (fail)
          go_wp2
          go_ret
          exact ⟨rfl, hbel.trans (Joins.below_draws _ _ _)⟩
      · go_wp2
        go_ret
        have e := HT.out
        rw [List.take_of_length_le (by rw [HA.out.1]; omega), List.take_of_length_le (by rw [HB.out.1]; omega)] at e
        obtain rfl : r = true := by rw [HR.out]; exact decide_eq_true e
        exact ⟨rfl, hbel⟩
  · have hni : (n : Int) ≠ (m : Int) := by omega
    go_enter Tryz.func32, Tryz.ntmps32
    go_wp2
    go_ret
    obtain rfl : r = false := by rw [HR.out]; exact decide_eq_false (by rintro rfl; exact hnm (HA.out.1.symm.trans HB.out.1))
    exact ⟨rfl, Below.refl _ _⟩

set_option maxHeartbeats 1000000 in
theorem sameOuts_any (v v' : Int) (a b : Option Addr) (n m c1 c2 : Nat) (l l' : List Int) (x x' y y' : Int) (w : World) (hl : n ≤ 1048576) (hl2 : m ≤ 1048576) (ha : IAt w a n l) (hb : IAt w b m l') :
    Calls Tryz.prog 34 #[.agg #[.int .i64 v, .slice a n c1, .int .i64 x, .int .i64 y], .agg #[.int .i64 v', .slice b m c2, .int .i64 x', .int .i64 y']] w fun e w' => e = .returned (.bool (sameO ⟨v, l, x, y⟩ ⟨v', l', x', y'⟩)) ∧ Below w.heap.size w w' := by
  have hbx : Below w.heap.size w ((w.alloc (.cells #[.int .i64 v, .slice a n c1, .int .i64 x, .int .i64 y] 44)).alloc (.cells #[.int .i64 v', .slice b m c2, .int .i64 x', .int .i64 y'] 44)) := below_box2 _ _
  have hS := iSameRules_any a b n m c1 c2 l l' x x' y y' ((w.alloc (.cells #[.int .i64 v, .slice a n c1, .int .i64 x, .int .i64 y] 44)).alloc (.cells #[.int .i64 v', .slice b m c2, .int .i64 x', .int .i64 y'] 44)) hl hl2 (ha.below hbx (Nat.le_refl _)) (hb.below hbx (Nat.le_refl _))
  have HBX : Hid (Below w.heap.size w ((w.alloc (.cells #[.int .i64 v, .slice a n c1, .int .i64 x, .int .i64 y] 44)).alloc (.cells #[.int .i64 v', .slice b m c2, .int .i64 x', .int .i64 y'] 44))) := hbx
  have hr : sameO ⟨v, l, x, y⟩ ⟨v', l', x', y'⟩ = (decide (v = v') && sameR l l' x x' y y') := rfl
  obtain ⟨q, hq⟩ : ∃ q, q = sameR l l' x x' y y' := ⟨_, rfl⟩
  rw [hr, ← hq]
  rw [← hq] at hS
  clear hr hq hbx ha hb
  by_cases hv : v = v'
  · subst hv
    have e0 : (decide (v = v) && q) = q := by simp
    rw [e0]
    clear e0
    go_enter Tryz.func34, Tryz.ntmps34
    go_wp2_with (go_at_call 65; refine hS.mono ?_; rintro e w2 ⟨rfl, hb2⟩)
    go_ret
    exact ⟨rfl, HBX.out.trans (hb2.mono (by simp; omega))⟩
  · have e0 : (decide (v = v') && q) = false := by simp [hv]
    have hvb : (v == v') = false := by simpa using hv
    rw [e0]
    clear e0 hS
    go_enter Tryz.func34, Tryz.ntmps34
    go_wp2
    go_ret
    exact ⟨rfl, HBX.out⟩

set_option maxRecDepth 20000 in
set_option maxHeartbeats 2000000 in
theorem oEqualF_any (a b : Option Addr) (n m c1 c2 : Nat) (os os' : List Ou) (w : World) (hl : n ≤ 1048576) (hl2 : m ≤ 1048576) (hk : ∀ j, j < n → (os.getD j O0).l.length ≤ 1048576) (hk' : ∀ j, j < m → (os'.getD j O0).l.length ≤ 1048576) (ha : OAt w a n os) (hb : OAt w b m os') :
    Calls Tryz.prog 33 #[.slice a n c1, .slice b m c2, .func (.func 34) #[] #[]] w fun e w' => e = .returned (.bool (decide (n = m) && allO n os os')) ∧ Below w.heap.size w w' := by
  obtain ⟨r, hr⟩ : ∃ r, r = (decide (n = m) && allO n os os') := ⟨_, rfl⟩
  rw [← hr]
  have HR : Hid (r = (decide (n = m) && allO n os os')) := hr
  have HA : Hid (OAt w a n os) := ha
  have HB : Hid (OAt w b m os') := hb
  have HKL : Hid (∀ j, j < n → (os.getD j O0).l.length ≤ 1048576) := hk
  have HKL2 : Hid (∀ j, j < m → (os'.getD j O0).l.length ≤ 1048576) := hk'
  clear hr ha hb hk hk'
  by_cases hnm : n = m
  · subst hnm
    go_enter Tryz.func33, Tryz.ntmps33
    go_wp2
    go_loopw [17] (fun i wr => ∃ k : Nat, k ≤ n ∧ i = .int .i64 k ∧ Below w.heap.size w wr ∧ Hid (allO k os os' = true)) (fun i _ => n - (intOf i).toNat)
    case atStart => exact ⟨0, Nat.zero_le _, rfl, Below.refl _ _, by show _ = _; rfl⟩
    case round =>
      obtain ⟨k, hk, rfl, hbel, HT⟩ := hrel
      by_cases hlt : k < n
      · rcases HA.out.2 with h0 | ⟨b0, o0, e0, l0, d0⟩
        · omega
        subst e0
        rcases HB.out.2 with h0 | ⟨b1, o1, e1, l1, d1⟩
        · omega
        subst e1
        obtain ⟨o, ho⟩ : ∃ o, o = os.getD k O0 := ⟨_, rfl⟩
        obtain ⟨u, hu⟩ : ∃ o, o = os'.getD k O0 := ⟨_, rfl⟩
        obtain ⟨ka, kn, kc, p0, p1, p2, p3, p4, p5⟩ := d0 k hlt
        obtain ⟨ja, jn, jc, q0, q1, q2, q3, q4, q5⟩ := d1 k hlt
        have hol := HKL.out k hlt
        have hul := HKL2.out k hlt
        rw [← ho] at p0 p2 p3 p5 hol
        rw [← hu] at q0 q2 q3 q5 hul
        have HS : Hid (o = os.getD k O0) := ho
        have HU : Hid (u = os'.getD k O0) := hu
        obtain ⟨ov, ol, ox, oy⟩ := o
        obtain ⟨uv, ul, ux, uy⟩ := u
        obtain rfl := p5.1
        obtain rfl := q5.1
        have x0 := (hbel.cell (p := ⟨b0, o0 + k * 4, none⟩) l0).trans p0
        have x1 := (hbel.cell (p := ⟨b0, o0 + k * 4 + 1, none⟩) l0).trans p1
        have x2 := (hbel.cell (p := ⟨b0, o0 + k * 4 + 2, none⟩) l0).trans p2
        have x3 := (hbel.cell (p := ⟨b0, o0 + k * 4 + 3, none⟩) l0).trans p3
        have hbx : Below wr.heap.size wr ((wr.alloc (.cells #[.int .i64 ov, .slice ka ol.length kc, .int .i64 ox, .int .i64 oy] 44)).alloc (.cells #[.int .i64 uv, .slice ja ul.length jc, .int .i64 ux, .int .i64 uy] 44)) := below_box2 _ _
        have hb1 : Below wr.heap.size wr (wr.alloc (.cells #[.int .i64 ov, .slice ka ol.length kc, .int .i64 ox, .int .i64 oy] 44)) := below_box _
        have l1' := Nat.lt_of_lt_of_le l1 hbel.size
        have y0 := (hb1.cell (p := ⟨b1, o1 + k * 4, none⟩) l1').trans ((hbel.cell (p := ⟨b1, o1 + k * 4, none⟩) l1).trans q0)
        have y1 := (hb1.cell (p := ⟨b1, o1 + k * 4 + 1, none⟩) l1').trans ((hbel.cell (p := ⟨b1, o1 + k * 4 + 1, none⟩) l1).trans q1)
        have y2 := (hb1.cell (p := ⟨b1, o1 + k * 4 + 2, none⟩) l1').trans ((hbel.cell (p := ⟨b1, o1 + k * 4 + 2, none⟩) l1).trans q2)
        have y3 := (hb1.cell (p := ⟨b1, o1 + k * 4 + 3, none⟩) l1').trans ((hbel.cell (p := ⟨b1, o1 + k * 4 + 3, none⟩) l1).trans q3)
        simp only at x0 x2 x3 y0 y2 y3
        have hS := sameOuts_any ov uv ka ja ol.length ul.length kc jc ol ul ox ux oy uy ((wr.alloc (.cells #[.int .i64 ov, .slice ka ol.length kc, .int .i64 ox, .int .i64 oy] 44)).alloc (.cells #[.int .i64 uv, .slice ja ul.length jc, .int .i64 ux, .int .i64 uy] 44)) hol hul ((p5.below hbel (Nat.le_refl _)).below hbx (Nat.le_refl _)) ((q5.below hbel (Nat.le_refl _)).below hbx (Nat.le_refl _))
        obtain ⟨sb, hsb⟩ : ∃ b, b = sameO ⟨ov, ol, ox, oy⟩ ⟨uv, ul, ux, uy⟩ := ⟨_, rfl⟩
        rw [← hsb] at hS
        have HSB : Hid (sameO ⟨ov, ol, ox, oy⟩ ⟨uv, ul, ux, uy⟩ = sb) := hsb.symm
        have HBX : Hid (Below wr.heap.size wr ((wr.alloc (.cells #[.int .i64 ov, .slice ka ol.length kc, .int .i64 ox, .int .i64 oy] 44)).alloc (.cells #[.int .i64 uv, .slice ja ul.length jc, .int .i64 ux, .int .i64 uy] 44))) := hbx
        clear ho hu d0 d1 p0 p1 p2 p3 p4 p5 q0 q1 q2 q3 q4 q5 hsb hbx hb1 l1'
        have hki : (k : Int) < (n : Int) := by omega
        cases sb
        · obtain rfl : r = false := by rw [HR.out, allO_bad hlt HS.out HU.out HSB.out]; simp
          go_wp2_with (go_at_call 34; refine hS.mono ?_; rintro e w2 ⟨rfl, hb2⟩)
          go_ret
          exact ⟨rfl, (hbel.trans (HBX.out.mono hbel.size)).trans (hb2.mono (by have := hbel.size; simp; omega))⟩
        · go_wp2_with (go_at_call 34; refine hS.mono ?_; rintro e w2 ⟨rfl, hb2⟩)
          go_roundw
          case rel => exact ⟨k + 1, by omega, by go_num, (hbel.trans (HBX.out.mono hbel.size)).trans (hb2.mono (by have := hbel.size; simp; omega)), allO_next HS.out HU.out HT.out HSB.out⟩
          case measure => simp [intOf]; omega
      · obtain rfl : k = n := by omega
        obtain rfl : r = true := by rw [HR.out, HT.out]; simp
        go_wp2
        go_ret
        exact ⟨rfl, hbel⟩
  · have hni : (n : Int) ≠ (m : Int) := by omega
    obtain rfl : r = false := by rw [HR.out]; simp [hnm]
    go_enter Tryz.func33, Tryz.ntmps33
    go_wp2
    go_ret
    exact ⟨rfl, Below.refl _ _⟩

end Go.Proofs.YtciefdphjkjikaaGreatDoor

namespace Go.Proofs.YtciefdphjkjikaaGreatDoor
open Go.RowKit Go.Maps Go.WideMaps

theorem sameT_eq {k f k' f' : Int} {n m n' m' : Nat} {rs rs' : List (Int × Int)} {os os' : List Ou} (hn : rs.length = n) (hn' : rs'.length = n') : sameT k f n m rs os k' f' n' m' rs' os' = (decide (k = k') && (decide (f = f') && (decide (rs = rs') && (decide (m = m') && allO m os os')))) := by
  unfold sameT
  by_cases h1 : k = k'
  · by_cases h2 : f = f'
    · by_cases h3 : n = n'
      · by_cases h4 : m = m'
        · simp [h1, h2, h3, h4]
        · simp [h1, h2, h3, h4]
      · have : ¬ rs = rs' := by rintro rfl; exact h3 (hn.symm.trans hn')
        simp [h3, this]
    · simp [h2]
  · simp [h1]

set_option maxRecDepth 20000 in
set_option maxHeartbeats 2000000 in
theorem iSameTxs : ISameTxs := by
  intro n c m d n' c' m' d' ia oa ib ob k f k' f' rs rs' os os' w hn hm _ _ hk h hn' hm' _ _ hk' h' _ _
  have hbx : Below w.heap.size w ((w.alloc (.cells #[.int .i64 k, .int .i64 f, .slice ia n c, .slice oa m d] 28)).alloc (.cells #[.int .i64 k', .int .i64 f', .slice ib n' c', .slice ob m' d'] 28)) := below_box2 _ _
  have T0 := show Hid (((w.alloc (.cells #[.int .i64 k, .int .i64 f, .slice ia n c, .slice oa m d] 28)).alloc (.cells #[.int .i64 k', .int .i64 f', .slice ib n' c', .slice ob m' d'] 28)).heap[w.heap.size]? = some (.cells #[.int .i64 k, .int .i64 f, .slice ia n c, .slice oa m d] 28 (0, 0))) from block_at2
  have T1 := show Hid (((w.alloc (.cells #[.int .i64 k, .int .i64 f, .slice ia n c, .slice oa m d] 28)).alloc (.cells #[.int .i64 k', .int .i64 f', .slice ib n' c', .slice ob m' d'] 28)).heap[w.heap.size + 1]? = some (.cells #[.int .i64 k', .int .i64 f', .slice ib n' c', .slice ob m' d'] 28 (0, 0))) from heap_alloc_at _ _ _ (by simp)
  have hE := rEqual_any ia ib n n' c c' rs rs' ((w.alloc (.cells #[.int .i64 k, .int .i64 f, .slice ia n c, .slice oa m d] 28)).alloc (.cells #[.int .i64 k', .int .i64 f', .slice ib n' c', .slice ob m' d'] 28)) hn hn' (h.r.below hbx (Nat.le_refl _)) (h'.r.below hbx (Nat.le_refl _))
  have hF : ∀ v, Below w.heap.size w v → Calls Tryz.prog 33 #[.slice oa m d, .slice ob m' d', .func (.func 34) #[] #[]] v fun e w' => e = .returned (.bool (decide (m = m') && allO m os os')) ∧ Below v.heap.size v w' := fun v hv =>
    oEqualF_any oa ob m m' d d' os os' v hm hm' hk hk' (h.o.below hv (Nat.le_refl _)) (h'.o.below hv (Nat.le_refl _))
  have HBX : Hid (Below w.heap.size w ((w.alloc (.cells #[.int .i64 k, .int .i64 f, .slice ia n c, .slice oa m d] 28)).alloc (.cells #[.int .i64 k', .int .i64 f', .slice ib n' c', .slice ob m' d'] 28))) := hbx
  rw [sameT_eq h.r.1 h'.r.1]
  obtain ⟨qr, hqr⟩ : ∃ b, b = decide (rs = rs') := ⟨_, rfl⟩
  obtain ⟨qo, hqo⟩ : ∃ b, b = (decide (m = m') && allO m os os') := ⟨_, rfl⟩
  rw [← hqr, ← hqo]
  rw [← hqr] at hE
  rw [← hqo] at hF
  have HF : Hid (∀ v, Below w.heap.size w v → Calls Tryz.prog 33 #[.slice oa m d, .slice ob m' d', .func (.func 34) #[] #[]] v fun e w' => e = .returned (.bool qo) ∧ Below v.heap.size v w') := hF
  clear hF hqr hqo hbx h h' hk hk'
  by_cases h1 : k = k'
  · subst h1
    by_cases h2 : f = f'
    · subst h2
      have e0 : (decide (k = k) && (decide (f = f) && (qr && qo))) = (qr && qo) := by simp
      rw [e0]
      clear e0
      cases qr
      · go_enter Tryz.func14, Tryz.ntmps14
        go_wp2_with (go_at_call 32; refine hE.mono ?_; rintro e w2 ⟨rfl, hb2⟩)
        go_ret
        exact ⟨rfl, HBX.out.trans (hb2.mono (by simp; omega))⟩
      · go_enter Tryz.func14, Tryz.ntmps14
        go_wp2_with (first
          | (go_at_call 32; refine hE.mono ?_; rintro e w2 ⟨rfl, hb2⟩; have HB2 : Hid (Below w.heap.size w w2) := HBX.out.trans (hb2.mono (by simp; omega)); obtain ⟨p0, p1, p2, p3, _⟩ := cells4 (keepb T0.out hb2).out; obtain ⟨q0, q1, q2, q3, _⟩ := cells4 (keepb T1.out hb2).out; have hF2 := HF.out w2 HB2.out; clear hb2)
          | (go_at_call 33; refine hF2.mono ?_; rintro e w3 ⟨rfl, hb3⟩))
        go_ret
        exact ⟨rfl, HB2.out.trans (hb3.mono HB2.out.size)⟩
    · have e0 : (decide (k = k) && (decide (f = f') && (qr && qo))) = false := by simp [h2]
      have hvb : (f == f') = false := by simpa using h2
      rw [e0]
      clear e0
      go_enter Tryz.func14, Tryz.ntmps14
      go_wp2
      go_ret
      exact ⟨rfl, HBX.out⟩
  · have e0 : (decide (k = k') && (decide (f = f') && (qr && qo))) = false := by simp [h1]
    have hvb : (k == k') = false := by simpa using h1
    rw [e0]
    clear e0
    go_enter Tryz.func14, Tryz.ntmps14
    go_wp2
    go_ret
    exact ⟨rfl, HBX.out⟩

end Go.Proofs.YtciefdphjkjikaaGreatDoor
