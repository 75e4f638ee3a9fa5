/- Transactions that come in: two are compared, their size is told, they are copied. -/
import Derived.Test.YtaopblgnmmhjfaaTxE
namespace Go.Proofs.Ytaopblgnmmhjfaa
open Go.RowKit Go.Maps Go.WideMaps

set_option maxHeartbeats 400000 in
theorem eqOut_any (v : Int) (a b : Option Addr) (n c1 c2 : Nat) (l : List Int) (x y : Int) (w : World) (hl : n ≤ 1048576) (ha : IAt w a n l) (hb : IAt w b n l) :
    Calls Try.prog 160 #[.agg #[.int .i64 v, .slice a n c1, .int .i64 x, .int .i64 y], .agg #[.int .i64 v, .slice b n c2, .int .i64 x, .int .i64 y]] w fun e w' => e = .returned (.bool true) ∧ Below w.heap.size w w' := by
  have hbx : Below w.heap.size w ((w.alloc (.cells #[.int .i64 v, .slice a n c1, .int .i64 x, .int .i64 y] 155)).alloc (.cells #[.int .i64 v, .slice b n c2, .int .i64 x, .int .i64 y] 155)) := below_box2 _ _
  have hS := eqRu_any a b n c1 c2 l x y _ hl (ha.below hbx (Nat.le_refl _)) (hb.below hbx (Nat.le_refl _))
  have HBX : Hid (Below w.heap.size w ((w.alloc (.cells #[.int .i64 v, .slice a n c1, .int .i64 x, .int .i64 y] 155)).alloc (.cells #[.int .i64 v, .slice b n c2, .int .i64 x, .int .i64 y] 155))) := hbx
  clear hbx ha hb
  go_enter Try.func160, Try.ntmps160
  go_wp2_with (first
    | (go_at_call 53; refine hS.mono ?_; rintro e w2 ⟨rfl, hb2⟩; have HBW : Hid (Below w.heap.size w w2) := HBX.out.trans (hb2.mono (by simp; omega)); clear hb2))
  go_ret
  exact ⟨rfl, HBW.out⟩

set_option maxHeartbeats 1000000 in
theorem eqOs_any (a b : Option Addr) (n c1 c2 : Nat) (os : List Ou) (w : World) (hl : n ≤ 1048576) (hk : ∀ j, j < n → (os.getD j O0).l.length ≤ 1048576) (ha : OAt w a n os) (hb : OAt w b n os) :
    Calls Try.prog 129 #[.slice a n c1, .slice b n c2] w fun e w' => e = .returned (.bool true) ∧ Below w.heap.size w w' := by
  have HA : Hid (OAt w a n os) := ha
  have HB : Hid (OAt w b n os) := hb
  have HKL : Hid (∀ j, j < n → (os.getD j O0).l.length ≤ 1048576) := hk
  clear ha hb hk
  go_enter Try.func129, Try.ntmps129
  go_wp2
  go_loopw [5] (fun i wr => ∃ k : Nat, k ≤ n ∧ i = .int .i64 k ∧ Below w.heap.size w wr) (fun i _ => n - (intOf i).toNat)
  case atStart => exact ⟨0, Nat.zero_le _, rfl, Below.refl _ _⟩
  case round =>
    obtain ⟨k, hk, rfl, hbel⟩ := hrel
    by_cases hlt : k < n
    · rcases HA.out.2 with h0 | ⟨b0, o0, e0, l0, d0⟩
      · omega
      subst e0
      rcases HB.out.2 with h0 | ⟨b1, o1, e1, l1, d1⟩
      · omega
      subst e1
      obtain ⟨o, ho⟩ : ∃ o, o = os.getD k O0 := ⟨_, rfl⟩
      obtain ⟨ka, kn, kc, p0, p1, p2, p3, p4, p5⟩ := d0 k hlt
      obtain ⟨ja, jn, jc, q0, q1, q2, q3, q4, q5⟩ := d1 k hlt
      have hol := HKL.out k hlt
      rw [← ho] at p0 p2 p3 p5 q0 q2 q3 q5 hol
      obtain ⟨ov, ol, ox, oy⟩ := o
      obtain rfl := p5.1
      obtain rfl := q5.1
      simp only at p0 p1 p2 p3 q0 q1 q2 q3 hol p5 q5
      have x0 := (hbel.cell (p := ⟨b0, o0 + k * 4, none⟩) l0).trans p0
      have x1 := (hbel.cell (p := ⟨b0, o0 + k * 4 + 1, none⟩) l0).trans p1
      have x2 := (hbel.cell (p := ⟨b0, o0 + k * 4 + 2, none⟩) l0).trans p2
      have x3 := (hbel.cell (p := ⟨b0, o0 + k * 4 + 3, none⟩) l0).trans p3
      have y0 := (hbel.cell (p := ⟨b1, o1 + k * 4, none⟩) l1).trans q0
      have y1 := (hbel.cell (p := ⟨b1, o1 + k * 4 + 1, none⟩) l1).trans q1
      have y2 := (hbel.cell (p := ⟨b1, o1 + k * 4 + 2, none⟩) l1).trans q2
      have y3 := (hbel.cell (p := ⟨b1, o1 + k * 4 + 3, none⟩) l1).trans q3
      have hki : (k : Int) < (n : Int) := by omega
      have hw0 : b0 < wr.heap.size := Nat.lt_of_lt_of_le l0 hbel.size
      have hw1 : b1 < wr.heap.size := Nat.lt_of_lt_of_le l1 hbel.size
      have hcall : Calls Try.prog 160 #[.agg #[.int .i64 ov, .slice ka ol.length kc, .int .i64 ox, .int .i64 oy], .agg #[.int .i64 ov, .slice ja ol.length jc, .int .i64 ox, .int .i64 oy]] wr.drew fun e w' => e = .returned (.bool true) ∧ Below wr.heap.size wr w' :=
        (eqOut_any ov ka ja ol.length kc jc ol ox oy _ hol ((p5.below hbel (Nat.le_refl _)).below (Below.refl _ _).drew (Nat.le_refl _)) ((q5.below hbel (Nat.le_refl _)).below (Below.refl _ _).drew (Nat.le_refl _))).mono fun e w' h => ⟨h.1, (Below.refl _ _).drew.trans h.2⟩
      clear ho d0 d1 p0 p1 p2 p3 p4 p5 q0 q1 q2 q3 q4 q5 hol
      go_wp2
      go_region_held3 (fun w' => (w'.cell? ⟨b0, o0 + k * 4, none⟩ = some (.int .i64 ov) ∧ w'.cell? ⟨b0, o0 + k * 4 + 1, none⟩ = some (.slice ka ol.length kc) ∧ w'.cell? ⟨b0, o0 + k * 4 + 2, none⟩ = some (.int .i64 ox) ∧ w'.cell? ⟨b0, o0 + k * 4 + 3, none⟩ = some (.int .i64 oy)) ∧ w'.cell? ⟨b1, o1 + k * 4, none⟩ = some (.int .i64 ov) ∧ w'.cell? ⟨b1, o1 + k * 4 + 1, none⟩ = some (.slice ja ol.length jc) ∧ w'.cell? ⟨b1, o1 + k * 4 + 2, none⟩ = some (.int .i64 ox) ∧ w'.cell? ⟨b1, o1 + k * 4 + 3, none⟩ = some (.int .i64 oy)) (go_keep)
        (first | (go_at_call 160; refine hcall.mono ?_; rintro e w3 ⟨rfl, hb3⟩; have z0 := (hb3.cell (p := ⟨b0, o0 + k * 4, none⟩) hw0).trans x0; have z1 := (hb3.cell (p := ⟨b0, o0 + k * 4 + 1, none⟩) hw0).trans x1; have z2 := (hb3.cell (p := ⟨b0, o0 + k * 4 + 2, none⟩) hw0).trans x2; have z3 := (hb3.cell (p := ⟨b0, o0 + k * 4 + 3, none⟩) hw0).trans x3; have z4 := (hb3.cell (p := ⟨b1, o1 + k * 4, none⟩) hw1).trans y0; have z5 := (hb3.cell (p := ⟨b1, o1 + k * 4 + 1, none⟩) hw1).trans y1; have z6 := (hb3.cell (p := ⟨b1, o1 + k * 4 + 2, none⟩) hw1).trans y2; have z7 := (hb3.cell (p := ⟨b1, o1 + k * 4 + 3, none⟩) hw1).trans y3))
      go_wp2
      go_roundw
      case rel => exact ⟨k + 1, by omega, by go_num, hbel.trans (hb3.mono hbel.size)⟩
      case measure => simp [intOf]; omega
    · go_wp2
      go_ret
      exact ⟨rfl, hbel⟩

/-- What is known of a transaction: its refs and its outs. -/
structure TxAt (w : World) (ia : Option Addr) (n : Nat) (oa : Option Addr) (m : Nat) (rs : List (Int × Int)) (os : List Ou) : Prop where
  r : GAt w ia n rs
  o : OAt w oa m os
theorem TxAt.below {w w' : World} {ia oa : Option Addr} {n m : Nat} {rs : List (Int × Int)} {os : List Ou} (h : TxAt w ia n oa m rs os) {B : Nat} (hb : Below B w w') (hB : w.heap.size ≤ B) : TxAt w' ia n oa m rs os := ⟨h.r.below hb hB, h.o.below hb hB⟩

set_option maxHeartbeats 400000 in
theorem eqTx_any (k f : Int) (ia ib oa ob : Option Addr) (n m c0 c1 d0 d1 : Nat) (rs : List (Int × Int)) (os : List Ou) (w : World) (hn : n ≤ 1048576) (hm : m ≤ 1048576) (hk : ∀ j, j < m → (os.getD j O0).l.length ≤ 1048576) (ha : TxAt w ia n oa m rs os) (hb : TxAt w ib n ob m rs os) :
    Calls Try.prog 62 #[.agg #[.int .i64 k, .int .i64 f, .slice ia n c0, .slice oa m d0], .agg #[.int .i64 k, .int .i64 f, .slice ib n c1, .slice ob m d1]] w fun e w' => e = .returned (.bool true) ∧ Below w.heap.size w w' := by
  have hbx : Below w.heap.size w ((w.alloc (.cells #[.int .i64 k, .int .i64 f, .slice ia n c0, .slice oa m d0] 86)).alloc (.cells #[.int .i64 k, .int .i64 f, .slice ib n c1, .slice ob m d1] 86)) := below_box2 _ _
  have hS := eqRf_any ia ib n c0 c1 rs _ hn (ha.r.below hbx (Nat.le_refl _)) (hb.r.below hbx (Nat.le_refl _))
  have T0 := show Hid (((w.alloc (.cells #[.int .i64 k, .int .i64 f, .slice ia n c0, .slice oa m d0] 86)).alloc (.cells #[.int .i64 k, .int .i64 f, .slice ib n c1, .slice ob m d1] 86)).heap[w.heap.size]? = some (.cells #[.int .i64 k, .int .i64 f, .slice ia n c0, .slice oa m d0] 86 (0, 0))) from block_at2
  have T1 := show Hid (((w.alloc (.cells #[.int .i64 k, .int .i64 f, .slice ia n c0, .slice oa m d0] 86)).alloc (.cells #[.int .i64 k, .int .i64 f, .slice ib n c1, .slice ob m d1] 86)).heap[w.heap.size + 1]? = some (.cells #[.int .i64 k, .int .i64 f, .slice ib n c1, .slice ob m d1] 86 (0, 0))) from heap_alloc_at _ _ _ (by simp)
  have HBX : Hid (Below w.heap.size w ((w.alloc (.cells #[.int .i64 k, .int .i64 f, .slice ia n c0, .slice oa m d0] 86)).alloc (.cells #[.int .i64 k, .int .i64 f, .slice ib n c1, .slice ob m d1] 86))) := hbx
  have HA : Hid (OAt w oa m os) := ha.o
  have HB : Hid (OAt w ob m os) := hb.o
  have HK : Hid (∀ j, j < m → (os.getD j O0).l.length ≤ 1048576) := hk
  clear hbx ha hb hk
  go_enter Try.func62, Try.ntmps62
  go_wp2_with (first
    | (go_at_call 128; refine hS.mono ?_; rintro e w2 ⟨rfl, hb2⟩; obtain ⟨⟨p0, p1, p2, p3, _⟩, _⟩ := res4 T0.out hb2 (by simp; omega); obtain ⟨⟨q0, q1, q2, q3, _⟩, _⟩ := res4 T1.out hb2 (by simp); have hbw : Below w.heap.size w w2 := HBX.out.trans (hb2.mono (by simp; omega)); have hO := eqOs_any oa ob m d0 d1 os w2 hm HK.out (HA.out.below hbw (Nat.le_refl _)) (HB.out.below hbw (Nat.le_refl _)); clear hb2)
    | (go_at_call 129; refine hO.mono ?_; rintro e w3 ⟨rfl, hb3⟩))
  go_ret
  exact ⟨rfl, hbw.trans (hb3.mono hbw.size)⟩

def SzT (n m : Nat) (os : List Ou) (left r : Int) : Prop := r = -1 ∨ 0 ≤ r ∧ r ≤ left ∧ (n : Int) ≤ left ∧ (m : Int) ≤ left ∧ ∀ j, j < m → ((os.getD j O0).l.length : Int) ≤ left

set_option maxHeartbeats 400000 in
theorem szTx_any (k f : Int) (ia oa : Option Addr) (n m c d : Nat) (os : List Ou) (left : Int) (w : World) (h0 : 0 ≤ left) (h1 : left ≤ 1048576) (hn : n ≤ maxLen) (hm : m ≤ maxLen) (h : OAt w oa m os) :
    Calls Try.prog 58 #[.agg #[.int .i64 k, .int .i64 f, .slice ia n c, .slice oa m d], .int .i64 left] w fun e w' => ∃ r : Int, e = .returned (.int .i64 r) ∧ SzT n m os left r ∧ Below w.heap.size w w' := by
  have hbx : Below w.heap.size w (w.alloc (.cells #[.int .i64 k, .int .i64 f, .slice ia n c, .slice oa m d] 80)) := below_box _
  have hS := szRf_any ia n c left (w.alloc (.cells #[.int .i64 k, .int .i64 f, .slice ia n c, .slice oa m d] 80)) h0 h1 hn
  have HO : Hid (OAt (w.alloc (.cells #[.int .i64 k, .int .i64 f, .slice ia n c, .slice oa m d] 80)) oa m os) := h.below hbx (Nat.le_refl _)
  have HBX : Hid (Below w.heap.size w (w.alloc (.cells #[.int .i64 k, .int .i64 f, .slice ia n c, .slice oa m d] 80))) := hbx
  clear h hbx
  go_enter Try.func58, Try.ntmps58
  go_wp2_with (first
    | (go_at_call 119; refine hS.mono ?_; rintro e w2 ⟨r, rfl, hw, hr⟩; have hw2 := hw.symm; subst hw2)
    | (go_at_call 120; rcases hr with hr | hr; (omega); refine (szOs_any oa m d os r _ hr.1 (by omega) hm HO.out).mono ?_; rintro e w3 ⟨r2, rfl, hr2, hb3⟩; have HB3 : Hid (Below w.heap.size w w3) := HBX.out.trans (hb3.mono (by simp)); clear hb3))
  · go_ret
    exact ⟨_, rfl, Or.inl rfl, HBX.out⟩
  · go_ret
    exact ⟨_, rfl, Or.inl rfl, HB3.out⟩
  · have h2 : 0 ≤ r2 := by assumption
    go_ret
    refine ⟨_, rfl, Or.inr ⟨h2, ?_⟩, HB3.out⟩
    rcases hr2 with e | ⟨_, e1, e2, e3⟩
    · omega
    · exact ⟨by omega, by omega, by omega, fun j hj => by have := e3 j hj; omega⟩

end Go.Proofs.Ytaopblgnmmhjfaa
