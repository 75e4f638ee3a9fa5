/- The specification's SameTxs: refs by refs, out by out. What the specification's SameTxs answers. -/
import Derived.Test.YtglfkjegkoealaaTxX
namespace Go.Proofs.Ytglfkjegkoealaa
open Go.RowKit Go.Maps Go.WideMaps

set_option maxRecDepth 20000 in
set_option maxHeartbeats 4000000 in
theorem l3Same_eq (P Q n c m d c' d' : Nat) (ia oa ib ob : Option Addr) (k f : Int) (rs rs' : List (Int × Int)) (os os' : List Ou) (w : World) (hn : n ≤ 1048576) (hm : m ≤ 1048576) (hk : ∀ j, j < m → (os.getD j O0).l.length ≤ 1048576) (hk' : ∀ j, j < m → (os'.getD j O0).l.length ≤ 1048576) (ha : TxAt w ia n oa m rs os) (hb : TxAt w ib n ob m rs' os')
    (hP : w.heap[P]? = some (.cells #[.int .i64 k, .int .i64 f, .slice ia n c, .slice oa m d] 31 (0, 0))) (hQ : w.heap[Q]? = some (.cells #[.int .i64 k, .int .i64 f, .slice ib n c', .slice ob m d'] 31 (0, 0))) :
    Calls Try.prog 48 #[.pointer (some ⟨P, 0, none⟩), .pointer (some ⟨Q, 0, none⟩)] w fun e w' => e = .returned (.bool (decide (rs = rs') && allO m os os')) ∧ Below w.heap.size w w' := by
  obtain ⟨p0, p1, p2, p3, _⟩ := cells4 hP
  obtain ⟨q0, q1, q2, q3, _⟩ := cells4 hQ
  have hPl := lt_of_block hP
  have hQl := lt_of_block hQ
  have HRA : Hid (GAt w ia n rs) := ha.r
  have HRB : Hid (GAt w ib n rs') := hb.r
  have HOA : Hid (OAt w oa m os) := ha.o
  have HOB : Hid (OAt w ob m os') := hb.o
  have HK : Hid (∀ j, j < m → (os.getD j O0).l.length ≤ 1048576) := hk
  have HK' : Hid (∀ j, j < m → (os'.getD j O0).l.length ≤ 1048576) := hk'
  obtain ⟨r, hr⟩ : ∃ r, r = (decide (rs = rs') && allO m os os') := ⟨_, rfl⟩
  rw [← hr]
  have HR : Hid (r = (decide (rs = rs') && allO m os os')) := hr
  clear hP hQ ha hb hk hk' hr
  go_enter Try.func48, Try.ntmps48
  go_wp2
  go_quiet (fail)
  go_wp2
  go_loopw [5] (fun i wr => ∃ j : Nat, j ≤ n ∧ i = .int .i64 j ∧ Below w.heap.size w wr ∧ Hid (rs.take j = rs'.take j)) (fun i _ => n - (intOf i).toNat)
  case atStart => exact ⟨0, Nat.zero_le _, rfl, Joins.below_draws _ _ _, by show _ = _; simp⟩
  case round =>
    obtain ⟨j, hj, rfl, hbel, HT⟩ := hrel
    have y2 := (hbel.cell (p := ⟨P, 2, none⟩) hPl).trans p2
    have z2 := (hbel.cell (p := ⟨Q, 2, none⟩) hQl).trans q2
    by_cases hlt : j < n
    · rcases HRA.out.2 with h0 | ⟨b0, o0, e0, l0, d0⟩
      · omega
      subst e0
      rcases HRB.out.2 with h0 | ⟨b1, o1, e1, l1, d1⟩
      · omega
      subst e1
      obtain ⟨g, hg⟩ : ∃ g, g = rs.getD j G0 := ⟨_, rfl⟩
      obtain ⟨h, hh⟩ : ∃ h, h = rs'.getD j G0 := ⟨_, rfl⟩
      have x := d0 j hlt
      have y := d1 j hlt
      rw [← hg] at x
      rw [← hh] at y
      obtain ⟨g1, g2⟩ := g
      obtain ⟨h1, h2⟩ := h
      have x0 := (hbel.cell (p := ⟨b0, o0 + j * 2, none⟩) l0).trans x.1
      have x1 := (hbel.cell (p := ⟨b0, o0 + j * 2 + 1, none⟩) l0).trans x.2
      have x2 := (hbel.cell (p := ⟨b1, o1 + j * 2, none⟩) l1).trans y.1
      have x3 := (hbel.cell (p := ⟨b1, o1 + j * 2 + 1, none⟩) l1).trans y.2
      have HG : Hid ((g1, g2) = rs.getD j G0) := hg
      have HH : Hid ((h1, h2) = rs'.getD j G0) := hh
      clear x y hg hh d0 d1
      have hki : (j : Int) < (n : Int) := by omega
      by_cases t1 : g1 = h1
      · subst t1
        by_cases t2 : g2 = h2
        · subst t2
          go_wp2
          go_quiet (fail)
          go_wp2
          go_roundw
          case rel => exact ⟨j + 1, by omega, by go_num, hbel.trans (Joins.below_draws _ _ _), take_sameG HRA.out.1 HRB.out.1 hlt HT.out HG.out HH.out⟩
          case measure => simp [intOf]; omega
        · have e2 : (g2 == h2) = false := by simp [t2]
          obtain rfl : r = false := by
            rw [HR.out, decide_eq_false (by rintro rfl; exact t2 (by simpa using congrArg Prod.snd (HG.out.trans HH.out.symm))), Bool.false_and]
          clear t2
          go_wp2
          go_quiet (fail)
          go_wp2
          go_ret
          exact ⟨rfl, hbel.trans (Joins.below_draws _ _ _)⟩
      · have e1 : (g1 == h1) = false := by simp [t1]
        obtain rfl : r = false := by
          rw [HR.out, decide_eq_false (by rintro rfl; exact t1 (by simpa using congrArg Prod.fst (HG.out.trans HH.out.symm))), Bool.false_and]
        clear t1
        go_wp2
        go_quiet (fail)
        go_wp2
        go_ret
        exact ⟨rfl, hbel.trans (Joins.below_draws _ _ _)⟩
    · have HEQ : Hid (rs = rs') := by
        have e := HT.out
        rw [List.take_of_length_le (by rw [HRA.out.1]; omega), List.take_of_length_le (by rw [HRB.out.1]; omega)] at e
        exact e
      clear HT
      go_wp2
      go_loopw [6] (fun i wq => ∃ j : Nat, j ≤ m ∧ i = .int .i64 j ∧ Below w.heap.size w wq ∧ Hid (allO j os os' = true)) (fun i _ => m - (intOf i).toNat)
      case atStart => exact ⟨0, Nat.zero_le _, rfl, hbel, by show _ = _; rfl⟩
      case round =>
        clear hbel y2 z2 hlt hj
        obtain ⟨j, hj, rfl, hbel, HT⟩ := hrel
        have y3 := (hbel.cell (p := ⟨P, 3, none⟩) hPl).trans p3
        have z3 := (hbel.cell (p := ⟨Q, 3, none⟩) hQl).trans q3
        by_cases hlt : j < m
        · rcases HOA.out.2 with h0 | ⟨b0, o0, e0, l0, d0⟩
          · omega
          subst e0
          rcases HOB.out.2 with h0 | ⟨b1, o1, e1, l1, d1⟩
          · omega
          subst e1
          obtain ⟨a, hga⟩ : ∃ g, g = os.getD j O0 := ⟨_, rfl⟩
          obtain ⟨b, hgb⟩ : ∃ g, g = os'.getD j O0 := ⟨_, rfl⟩
          obtain ⟨ka, kn, kc, x0, x1, x2, x3, x4, x5⟩ := d0 j hlt
          obtain ⟨ja, jn, jc, w0, w1, w2, w3, w4, w5⟩ := d1 j hlt
          have hol := HK.out j hlt
          have hol' := HK'.out j hlt
          rw [← hga] at x0 x2 x3 x5 hol
          rw [← hgb] at w0 w2 w3 w5 hol'
          have HGA : Hid (a = os.getD j O0) := hga
          have HGB : Hid (b = os'.getD j O0) := hgb
          obtain ⟨av, al, ax, ay⟩ := a
          obtain ⟨bv, bl, bx, by'⟩ := b
          obtain rfl := x5.1
          obtain rfl := w5.1
          have c0 := (hbel.cell (p := ⟨b0, o0 + j * 4, none⟩) l0).trans x0
          have c1 := (hbel.cell (p := ⟨b0, o0 + j * 4 + 1, none⟩) l0).trans x1
          have c2 := (hbel.cell (p := ⟨b0, o0 + j * 4 + 2, none⟩) l0).trans x2
          have c3 := (hbel.cell (p := ⟨b0, o0 + j * 4 + 3, none⟩) l0).trans x3
          have u0 := (hbel.cell (p := ⟨b1, o1 + j * 4, none⟩) l1).trans w0
          have u1 := (hbel.cell (p := ⟨b1, o1 + j * 4 + 1, none⟩) l1).trans w1
          have u2 := (hbel.cell (p := ⟨b1, o1 + j * 4 + 2, none⟩) l1).trans w2
          have u3 := (hbel.cell (p := ⟨b1, o1 + j * 4 + 3, none⟩) l1).trans w3
          have hw0 : b0 < wr.heap.size := Nat.lt_of_lt_of_le l0 hbel.size
          have hw1 : b1 < wr.heap.size := Nat.lt_of_lt_of_le l1 hbel.size
          have hPw : P < wr.heap.size := Nat.lt_of_lt_of_le hPl hbel.size
          have hQw : Q < wr.heap.size := Nat.lt_of_lt_of_le hQl hbel.size
          obtain ⟨sr, hsr⟩ : ∃ x, x = sameR al bl ax bx ay by' := ⟨_, rfl⟩
          have HSR : Hid (sr = sameR al bl ax bx ay by') := hsr
          have hcall : Calls Try.prog 83 #[.pointer (some ⟨b0, o0 + j * 4 + 1, none⟩), .pointer (some ⟨b1, o1 + j * 4 + 1, none⟩)] wr.drew fun e w' => e = .returned (.bool sr) ∧ Below wr.heap.size wr w' := by
            rw [hsr]
            exact (l2SameAt_any b0 b1 (o0 + j * 4 + 1) (o1 + j * 4 + 1) ka ja al.length bl.length kc jc al bl ax bx ay by' wr.drew hol hol' ((x5.below hbel (Nat.le_refl _)).below (Below.refl _ _).drew (Nat.le_refl _)) ((w5.below hbel (Nat.le_refl _)).below (Below.refl _ _).drew (Nat.le_refl _)) hw0 hw1 c1 c2 c3 u1 u2 u3).mono fun e w' h => ⟨h.1, (Below.refl _ _).drew.trans h.2⟩
          have hki : (j : Int) < (m : Int) := by omega
          simp only at c0 u0
          clear hga hgb d0 d1 x0 x1 x2 x3 x4 x5 w0 w1 w2 w3 w4 w5 hol hol' c1 c2 c3 u1 u2 u3 hsr
          by_cases hv : av = bv
          · subst hv
            go_wp2
            go_region_held3 (fun w' => w'.cell? ⟨P, 3, none⟩ = some (.slice (some ⟨b0, o0, none⟩) m d) ∧ w'.cell? ⟨Q, 3, none⟩ = some (.slice (some ⟨b1, o1, none⟩) m d') ∧ w'.cell? ⟨b0, o0 + j * 4, none⟩ = some (.int .i64 av) ∧ w'.cell? ⟨b1, o1 + j * 4, none⟩ = some (.int .i64 av)) (go_keep)
              (first | (go_at_call 83; refine hcall.mono ?_; rintro e v3 ⟨rfl, hb3⟩; have k0 := (hb3.cell (p := ⟨P, 3, none⟩) hPw).trans y3; have k1 := (hb3.cell (p := ⟨Q, 3, none⟩) hQw).trans z3; have k2 := (hb3.cell (p := ⟨b0, o0 + j * 4, none⟩) hw0).trans c0; have k3 := (hb3.cell (p := ⟨b1, o1 + j * 4, none⟩) hw1).trans u0))
            cases sr
            · obtain rfl : r = false := by rw [HR.out, allO_bad hlt HGA.out HGB.out (by simp [sameO, ← HSR.out]), Bool.and_false]
              go_wp2
              go_ret
              exact ⟨rfl, hbel.trans (hb3.mono hbel.size)⟩
            · go_wp2
              go_roundw
              case rel => exact ⟨j + 1, by omega, by go_num, hbel.trans (hb3.mono hbel.size), allO_next HGA.out HGB.out HT.out (by simp [sameO, ← HSR.out])⟩
              case measure => simp [intOf]; omega
          · have e1 : (av == bv) = false := by simp [hv]
            obtain rfl : r = false := by rw [HR.out, allO_bad hlt HGA.out HGB.out (by simp [sameO, hv]), Bool.and_false]
            clear hcall
            go_wp2
            go_quiet (fail)
            go_wp2
            go_ret
            exact ⟨rfl, hbel.trans (Joins.below_draws _ _ _)⟩
        · obtain rfl : j = m := by omega
          obtain rfl : r = true := by rw [HR.out, decide_eq_true HEQ.out, HT.out]; rfl
          go_wp2
          go_ret
          exact ⟨rfl, hbel⟩

end Go.Proofs.Ytglfkjegkoealaa

namespace Go.Proofs.Ytglfkjegkoealaa
open Go.RowKit Go.Maps Go.WideMaps

theorem l3Same_any (P Q n c m d n' c' m' d' : Nat) (ia oa ib ob : Option Addr) (k f k' f' : Int) (rs rs' : List (Int × Int)) (os os' : List Ou) (w : World) (hn : n ≤ 1048576) (hm : m ≤ 1048576) (hk : ∀ j, j < m → (os.getD j O0).l.length ≤ 1048576) (hk' : ∀ j, j < m' → (os'.getD j O0).l.length ≤ 1048576) (ha : TxAt w ia n oa m rs os) (hb : TxAt w ib n' ob m' rs' os')
    (hP : w.heap[P]? = some (.cells #[.int .i64 k, .int .i64 f, .slice ia n c, .slice oa m d] 31 (0, 0))) (hQ : w.heap[Q]? = some (.cells #[.int .i64 k', .int .i64 f', .slice ib n' c', .slice ob m' d'] 31 (0, 0))) :
    Calls Try.prog 48 #[.pointer (some ⟨P, 0, none⟩), .pointer (some ⟨Q, 0, none⟩)] w fun e w' => e = .returned (.bool (sameT k f n m rs os k' f' n' m' rs' os')) ∧ Below w.heap.size w w' := by
  obtain ⟨p0, p1, p2, p3, _⟩ := cells4 hP
  obtain ⟨q0, q1, q2, q3, _⟩ := cells4 hQ
  by_cases h1 : k = k'
  · subst h1
    by_cases h2 : f = f'
    · subst h2
      by_cases h3 : n = n'
      · subst h3
        by_cases h4 : m = m'
        · subst h4
          have e : sameT k f n m rs os k f n m rs' os' = (decide (rs = rs') && allO m os os') := by unfold sameT; rw [if_neg (by simp)]
          rw [e]
          exact l3Same_eq P Q n c m d c' d' ia oa ib ob k f rs rs' os os' w hn hm hk hk' ha hb hP hQ
        · have e : sameT k f n m rs os k f n m' rs' os' = false := by unfold sameT; rw [if_pos (by simp [h4])]
          rw [e]
          exact l3Same_m P Q k f ia oa ib ob n c m d c' m' d' w p0 p1 p2 p3 q0 q1 q2 q3 (by omega) (by simp; omega)
      · have e : sameT k f n m rs os k f n' m' rs' os' = false := by unfold sameT; rw [if_pos (by simp [h3])]
        rw [e]
        exact l3Same_n P Q k f ia ib n c n' c' w p0 p1 p2 q0 q1 q2 (by omega) (by simp; omega)
    · have e : sameT k f n m rs os k f' n' m' rs' os' = false := by unfold sameT; rw [if_pos (by simp [h2])]
      rw [e]
      exact l3Same_f P Q k f f' ia oa ib ob n c m d n' c' m' d' w p0 p1 q0 q1 p2 q2 p3 q3 h2 (by simpa using h2)
  · have e : sameT k f n m rs os k' f' n' m' rs' os' = false := by unfold sameT; rw [if_pos (by simp [h1])]
    rw [e]
    exact l3Same_k P Q k k' w p0 q0 h1 (by simpa using h1)

set_option maxHeartbeats 400000 in
theorem sSameTxs_any (n c m d n' c' m' d' : Nat) (ia oa ib ob : Option Addr) (k f k' f' : Int) (rs rs' : List (Int × Int)) (os os' : List Ou) (w : World) (hn : n ≤ 1048576) (hm : m ≤ 1048576) (_hc1 : n ≤ c) (_hc2 : c ≤ maxLen) (hk : ∀ j, j < m → (os.getD j O0).l.length ≤ 1048576) (h : TxAt w ia n oa m rs os)
    (_hn' : n' ≤ 1048576) (_hm' : m' ≤ 1048576) (_hc1' : n' ≤ c') (_hc2' : c' ≤ maxLen) (hk' : ∀ j, j < m' → (os'.getD j O0).l.length ≤ 1048576) (h' : TxAt w ib n' ob m' rs' os') :
    Calls Try.prog 21 #[.agg #[.int .i64 k, .int .i64 f, .slice ia n c, .slice oa m d], .agg #[.int .i64 k', .int .i64 f', .slice ib n' c', .slice ob m' d']] w fun e w' => e = .returned (.bool (sameT k f n m rs os k' f' n' m' rs' os')) ∧ Below w.heap.size w w' := by
  have hbx : Below w.heap.size w ((w.alloc (.cells #[.int .i64 k, .int .i64 f, .slice ia n c, .slice oa m d] 31)).alloc (.cells #[.int .i64 k', .int .i64 f', .slice ib n' c', .slice ob m' d'] 31)) := below_box2 _ _
  have hS := l3Same_any w.heap.size (w.heap.size + 1) n c m d n' c' m' d' ia oa ib ob k f k' f' rs rs' os os' _ hn hm hk hk' (h.below hbx (Nat.le_refl _)) (h'.below hbx (Nat.le_refl _)) block_at2 (heap_alloc_at _ _ _ (by simp))
  have HBX : Hid (Below w.heap.size w ((w.alloc (.cells #[.int .i64 k, .int .i64 f, .slice ia n c, .slice oa m d] 31)).alloc (.cells #[.int .i64 k', .int .i64 f', .slice ib n' c', .slice ob m' d'] 31))) := hbx
  clear hbx h h' hk hk' _hn' _hm' _hc1 _hc2 _hc1' _hc2'
  go_enter Try.func21, Try.ntmps21
  go_wp2_with (first | (go_at_call 48; refine hS.mono ?_; rintro e w2 ⟨rfl, hb2⟩))
  go_ret
  exact ⟨rfl, HBX.out.trans (hb2.mono (by simp; omega))⟩

end Go.Proofs.Ytglfkjegkoealaa
