/- The specification's PutCoins. -/
import Derived.Test.YtdfijlcjmllplaaDu
import Derived.Deep.DeepCutAuto
namespace Go.Proofs.Ytdfijlcjmllplaa
open Go.RowKit Go.Maps Go.WideMaps

theorem addC_len {x : Co} : ∀ {ts : List Co}, (addC ts x).length = ts.length + 1
  | [] => rfl
  | a :: l => by
    unfold addC
    by_cases e : cmpR (a.p, a.q) (x.p, x.q) < 0
    · rw [if_pos e, List.length_cons, addC_len, List.length_cons]
    · rw [if_neg e]; rfl
theorem addCs_succ (cs : List Co) (t h : Int) (m : Bool) (os : List Ou) (k : Nat) : addCs cs (newCs t h m os (k + 1)) = addC (addCs cs (newCs t h m os k)) (newC t h m (os.getD k O0) k) := by
  rw [newCs_succ]
  unfold addCs
  rw [List.foldl_append]
  rfl
theorem addCs_len (cs : List Co) (t h : Int) (m : Bool) (os : List Ou) : ∀ k, (addCs cs (newCs t h m os k)).length = cs.length + k
  | 0 => rfl
  | k + 1 => by rw [addCs_succ, addC_len, addCs_len]; rfl
theorem addCs_lens {cs : List Co} {t h : Int} {m : Bool} {os : List Ou} {k : Nat} (hk : k ≤ os.length) (h1 : ∀ c ∈ cs, coinR c = 0) (h2 : ∀ o ∈ os, 1 ≤ o.l.length ∧ o.l.length ≤ 3) : ∀ j, j < cs.length + k → ((addCs cs (newCs t h m os k)).getD j C0).l.length ≤ 3 := fun j hj => by
  have hm : (addCs cs (newCs t h m os k)).getD j C0 ∈ addCs cs (newCs t h m os k) := get_mem (addCs_len cs t h m os k) hj
  rw [addCs_mem, List.mem_append] at hm
  rcases hm with hm | hm
  · exact (coin_more (h1 _ hm)).2.2.2
  · obtain ⟨i, hi, e⟩ := List.mem_map.1 hm
    rw [← e]
    have hi' := List.mem_range.1 hi
    refine (h2 (os.getD i O0) ?_).2
    rw [List.getD, List.getElem?_eq_getElem (by omega)]
    exact List.getElem_mem _

set_option maxHeartbeats 1000000 in
theorem l4Copy0_any (c : Nat) (a : Option Addr) (w : World) :
    Calls Try.prog 51 #[.slice a 0 c] w fun e w' => e = .returned (.slice (some ⟨w.heap.size, 0, none⟩) 0 0) ∧ w' = w.alloc (.cells #[] 41) := by
  go_enter Try.func51, Try.ntmps51
  go_wp2
  refine wp_loop_rounds 1 ?_
  rw [rounds_succ]
  go_wp2
  go_ret
  exact ⟨rfl, rfl⟩
theorem l4CopyS_any (n c : Nat) (a : Option Addr) (cs : List Co) (w : World) (hn : n ≤ 40) (hk : ∀ j, j < n → coinR (cs.getD j C0) = 0) (hC : CAt w a n cs) :
    Calls Try.prog 51 #[.slice a n c] w fun e w' => ∃ g uc, e = .returned (.slice (some ⟨g, 0, none⟩) n uc) ∧ Hid (∃ kv, COwn w' w.heap.size w'.heap.size (.slice (some ⟨g, 0, none⟩) n uc) n (fun j => cs.getD j C0) kv) ∧ Hid (Below w.heap.size w w') := by
  by_cases h0 : n = 0
  · subst h0
    refine (l4Copy0_any c a w).mono fun e w' ⟨h1, h2⟩ => ?_
    subst h2
    refine ⟨w.heap.size, 0, h1, ⟨fun _ => .slice none 0 0, ⟨[], own_empty (heap_alloc_new _ _) (Nat.le_refl _), fun j hj => (by omega)⟩, fun b hb => ?_, fun j hj => (by omega), fun i j _ hj => (by omega)⟩, below_box _⟩
    have e : some w.heap.size = some b := hb
    cases e
    simp
  · refine (l4Copy_any n c a cs w (by omega) hk hC).mono fun e w' ⟨v, kv, h1, h2, h3⟩ => ?_
    obtain ⟨xs, q, _⟩ := h2.row
    rcases q.2 with ⟨_, e⟩ | ⟨g, cap, cur, e, _⟩
    · exact absurd e h0
    · subst e; exact ⟨g, cap, h1, ⟨kv, h2⟩, h3⟩

/-- An out of its own, in a block. -/
def PutMid (wr wc : World) (R : Nat) (ov : Int) (ol : List Int) (ox oy : Int) : Prop :=
  ∃ g gc, wc.heap[R]? = some (.cells #[.int .i64 ov, .slice (some ⟨g, 0, none⟩) ol.length gc, .int .i64 ox, .int .i64 oy] 36 (0, 0)) ∧ wc.ownsRow wr.heap.size 2 1 (.slice (some ⟨g, 0, none⟩) ol.length gc) ol.length (ints ol) ∧ Below wr.heap.size wr wc
theorem put_new {wr w2 : World} {g gc : Nat} {ov : Int} {ol : List Int} {ox oy : Int} (hb : Below wr.heap.size wr w2) (hr : w2.ownsRow wr.heap.size 2 1 (.slice (some ⟨g, 0, none⟩) ol.length gc) ol.length (ints ol)) :
    PutMid wr (w2.alloc (.cells #[.int .i64 ov, .slice (some ⟨g, 0, none⟩) ol.length gc, .int .i64 ox, .int .i64 oy] 36)) w2.heap.size ov ol ox oy :=
  ⟨g, gc, heap_alloc_new _ _, hr.alloc _, hb.trans ((below_box _).mono hb.size)⟩
theorem put_set {wr w2 : World} {R g gc : Nat} {ov : Int} {ol : List Int} {ox oy : Int} (hR : R = wr.heap.size) (hX : w2.heap[R]? = some (.cells #[.int .i64 0, .slice none 0 0, .int .i64 0, .int .i64 0] 36 (0, 0))) (hb : Below wr.heap.size wr w2) (hr : w2.ownsRow (wr.heap.size + 1) 2 1 (.slice (some ⟨g, 0, none⟩) ol.length gc) ol.length (ints ol)) :
    PutMid wr ((((w2.setCell ⟨R, 0, none⟩ (.int .i64 ov)).setCell ⟨R, 1, none⟩ (.slice (some ⟨g, 0, none⟩) ol.length gc)).setCell ⟨R, 2, none⟩ (.int .i64 ox)).setCell ⟨R, 3, none⟩ (.int .i64 oy)) R ov ol ox oy := by
  subst hR
  have s1 := Joins.block_setCell (i := 0) hX (.int .i64 ov)
  have s2 := Joins.block_setCell (i := 1) s1 (.slice (some ⟨g, 0, none⟩) ol.length gc)
  have s3 := Joins.block_setCell (i := 2) s2 (.int .i64 ox)
  have s4 := Joins.block_setCell (i := 3) s3 (.int .i64 oy)
  have st : ∀ (W : World) (i : Nat) (u : Value), W.ownsRow (wr.heap.size + 1) 2 1 (.slice (some ⟨g, 0, none⟩) ol.length gc) ol.length (ints ol) → (W.setCell ⟨wr.heap.size, i, none⟩ u).ownsRow (wr.heap.size + 1) 2 1 (.slice (some ⟨g, 0, none⟩) ol.length gc) ol.length (ints ol) := fun W i u hW => ownsRow_setCell_below hW (a := ⟨wr.heap.size, i, none⟩) (show wr.heap.size < _ by omega) u
  refine ⟨g, gc, by simpa using s4, Joins.ownsRow_le (st _ _ _ (st _ _ _ (st _ _ _ (st _ _ _ hr)))) (by omega), ?_⟩
  exact (((hb.setCell (p := ⟨wr.heap.size, 0, none⟩) (Nat.le_refl _) _).setCell (p := ⟨wr.heap.size, 1, none⟩) (Nat.le_refl _) _).setCell (p := ⟨wr.heap.size, 2, none⟩) (Nat.le_refl _) _).setCell (p := ⟨wr.heap.size, 3, none⟩) (Nat.le_refl _) _

theorem keepS1 {W : World} {b i R k : Nat} {v u : Value} (h : W.cell? ⟨b, i, none⟩ = some v) (hne : b < R) : (W.setCell ⟨R, k, none⟩ u).cell? ⟨b, i, none⟩ = some v :=
  (World.cell?_of_block (Below.heap_setCell W ⟨R, k, none⟩ u b (show b ≠ R by omega))).trans h
theorem keepS4 {W : World} {b i R : Nat} {v u0 u1 u2 u3 : Value} (h : W.cell? ⟨b, i, none⟩ = some v) (hne : b < R) : ((((W.setCell ⟨R, 0, none⟩ u0).setCell ⟨R, 1, none⟩ u1).setCell ⟨R, 2, none⟩ u2).setCell ⟨R, 3, none⟩ u3).cell? ⟨b, i, none⟩ = some v := by
  have h1 := keepS1 (k := 0) (u := u0) h hne
  have h2 := keepS1 (k := 1) (u := u1) h1 hne
  have h3 := keepS1 (k := 2) (u := u2) h2 hne
  exact keepS1 (k := 3) (u := u3) h3 hne

set_option maxRecDepth 20000 in
set_option maxHeartbeats 8000000 in
theorem l4Put_any (n c n2 c2 : Nat) (a a2 : Option Addr) (cs : List Co) (t h : Int) (m : Bool) (os : List Ou) (w : World) (hn : n ≤ 40) (hok : ∀ c ∈ cs, coinR c = 0) (hn2 : n2 ≤ 4) (hos : ∀ o ∈ os, 1 ≤ o.l.length ∧ o.l.length ≤ 3) (hC : CAt w a n cs) (hO : OAt w a2 n2 os) :
    Calls Try.prog 30 #[.slice a n c, .int .i64 t, .slice a2 n2 c2, .int .i64 h, .bool m] w fun e w' => AddO w w' e w.heap.size (n + n2) (addCs cs (newCs t h m os n2)) := by
  have hcp := l4CopyS_any n c a cs w hn (fun j hj => hok _ (get_mem hC.1 hj)) hC
  have HOK : Hid (∀ c ∈ cs, coinR c = 0) := hok
  have HOS : Hid (∀ o ∈ os, 1 ≤ o.l.length ∧ o.l.length ≤ 3) := hos
  have HCL : Hid (cs.length = n) := hC.1
  have HOL : Hid (os.length = n2) := hO.1
  have HOO : Hid (OAt w a2 n2 os) := hO
  clear hok hos hC hO
  go_enter Try.func30, Try.ntmps30
  go_wp2_with (first
    | (go_at_call 51; (with_reducible refine hcp.mono ?_); clear hcp; rintro e w1 ⟨g0, u0, rfl, HO1, HB1⟩))
  go_loopw [11, 12] (fun v i wr => ∃ j : Nat, j ≤ n2 ∧ i = .int .i64 j ∧ Below w.heap.size w wr ∧ ∃ g uc, v = .slice (some ⟨g, 0, none⟩) (n + j) uc ∧ Hid (∃ kv, COwn wr w.heap.size wr.heap.size (.slice (some ⟨g, 0, none⟩) (n + j) uc) (n + j) (fun q => (addCs cs (newCs t h m os j)).getD q C0) kv)) (fun _ i _ => n2 - (intOf i).toNat)
  case atStart => exact ⟨0, Nat.zero_le _, rfl, HB1.out, g0, u0, rfl, HO1.out⟩
  case round =>
    obtain ⟨j, hj, rfl, hbel, g, uc, rfl, HM⟩ := hrel
    by_cases hlt : j < n2
    · rcases HOO.out.2 with h0 | ⟨b, off, e0, l0, d0⟩
      · omega
      subst e0
      obtain ⟨o, ho⟩ : ∃ o, o = os.getD j O0 := ⟨_, rfl⟩
      obtain ⟨ka, kn, kc, p0, p1, p2, p3, p4, p5⟩ := d0 j hlt
      have hom := HOS.out o (by rw [ho, List.getD, List.getElem?_eq_getElem (by rw [HOL.out]; exact hlt)]; exact List.getElem_mem _)
      rw [← ho] at p0 p2 p3 p5
      have HS : Hid (o = os.getD j O0) := ho
      obtain ⟨ov, ol, ox, oy⟩ := o
      simp only at p0 p2 p3 p5 hom
      obtain rfl := p5.1
      rcases p5.2 with h0 | ⟨kb, ko, ek, hkl, _⟩
      · omega
      subst ek
      have x0 := (hbel.cell (p := ⟨b, off + j * 4, none⟩) l0).trans p0
      have x1 := (hbel.cell (p := ⟨b, off + j * 4 + 1, none⟩) l0).trans p1
      have x2 := (hbel.cell (p := ⟨b, off + j * 4 + 2, none⟩) l0).trans p2
      have x3 := (hbel.cell (p := ⟨b, off + j * 4 + 3, none⟩) l0).trans p3
      have hlw : b < wr.heap.size := Nat.lt_of_lt_of_le l0 hbel.size
      have hki : (j : Int) < (n2 : Int) := by omega
      have HI : Hid (IAt wr (some ⟨kb, ko, none⟩) ol.length ol) := p5.below hbel (Nat.le_refl _)
      have hL2 : ∀ W, Below wr.heap.size wr W → Calls Try.prog 52 #[.agg #[.slice (some ⟨kb, ko, none⟩) ol.length kc, .int .i64 ox, .int .i64 oy]] W fun e w' => ∃ g c, e = .returned (.agg #[.slice (some ⟨g, 0, none⟩) ol.length c, .int .i64 ox, .int .i64 oy]) ∧ Hid (w'.ownsRow W.heap.size 2 1 (.slice (some ⟨g, 0, none⟩) ol.length c) ol.length (ints ol)) ∧ Hid (Below W.heap.size W w') ∧ Hid (Below wr.heap.size wr w') := fun W hW =>
        (l2Copy_any kb ko ol.length kc ol ox oy W (by omega) (HI.out.below hW (Nat.le_refl _))).mono fun e w' ⟨g, c, q1, q2, q3⟩ => ⟨g, c, q1, Joins.ownsRow_le q2 (by omega), q3, hW.trans (q3.mono hW.size)⟩
      have bz0 : Below wr.heap.size wr wr.drew := (Below.refl _ _).drew
      have bz1 : Below wr.heap.size wr (wr.alloc (.cells #[.int .i64 0, .slice none 0 0, .int .i64 0, .int .i64 0] 36)).drew := (below_box _).trans ((Below.refl _ _).drew)
      have HZ0 : Hid ((wr.alloc (.cells #[.int .i64 0, .slice none 0 0, .int .i64 0, .int .i64 0] 36)).drew.heap[wr.heap.size]? = some (.cells #[.int .i64 0, .slice none 0 0, .int .i64 0, .int .i64 0] 36 (0, 0))) := heap_alloc_new _ _
      have hzs : (wr.alloc (.cells #[.int .i64 0, .slice none 0 0, .int .i64 0, .int .i64 0] 36)).drew.heap.size = wr.heap.size + 1 := by simp
      have HZS : Hid ((wr.alloc (.cells #[.int .i64 0, .slice none 0 0, .int .i64 0, .int .i64 0] 36)).drew.heap.size = wr.heap.size + 1) := hzs
      clear d0 ho p0 p1 p2 p3 p4 p5 hzs
      go_wp2
      go_cut [13] (fun s wc => ∃ R, s = .pointer (some ⟨R, 0, none⟩) ∧ Hid (PutMid wr wc R ov ol ox oy))
      case first =>
        go_region_held3 (fun w' => w'.cell? ⟨b, off + j * 4, none⟩ = some (.int .i64 ov) ∧ w'.cell? ⟨b, off + j * 4 + 1, none⟩ = some (.slice (some ⟨kb, ko, none⟩) ol.length kc) ∧ w'.cell? ⟨b, off + j * 4 + 2, none⟩ = some (.int .i64 ox) ∧ w'.cell? ⟨b, off + j * 4 + 3, none⟩ = some (.int .i64 oy)) (first | go_keep | exact ⟨keepS4 z0 hlw, keepS4 z1 hlw, keepS4 z2 hlw, keepS4 z3 hlw⟩)
          (first
            | (go_at_call 52; (first
                | ((with_reducible refine (hL2 wr.drew bz0).mono ?_); rintro e w2 ⟨g2, gc2, rfl, HROW, _, HB2⟩; have z0 := (HB2.out.cell (p := ⟨b, off + j * 4, none⟩) hlw).trans x0; have z1 := (HB2.out.cell (p := ⟨b, off + j * 4 + 1, none⟩) hlw).trans x1; have z2 := (HB2.out.cell (p := ⟨b, off + j * 4 + 2, none⟩) hlw).trans x2; have z3 := (HB2.out.cell (p := ⟨b, off + j * 4 + 3, none⟩) hlw).trans x3)
                | ((with_reducible refine (hL2 (wr.alloc (.cells #[.int .i64 0, .slice none 0 0, .int .i64 0, .int .i64 0] 36)).drew bz1).mono ?_); rintro e w2 ⟨g2, gc2, rfl, HROW, HBZ, HB2⟩; have HZ2 := keepb HZ0.out HBZ.out; obtain ⟨y0, y1, y2, y3, f0, f1, f2, f3⟩ := cells4 HZ2.out; have z0 := (HB2.out.cell (p := ⟨b, off + j * 4, none⟩) hlw).trans x0; have z1 := (HB2.out.cell (p := ⟨b, off + j * 4 + 1, none⟩) hlw).trans x1; have z2 := (HB2.out.cell (p := ⟨b, off + j * 4 + 2, none⟩) hlw).trans x2; have z3 := (HB2.out.cell (p := ⟨b, off + j * 4 + 3, none⟩) hlw).trans x3))))
        all_goals
          go_wp2
          go_meet
          first
            | exact ⟨_, rfl, put_set rfl HZ2.out HB2.out (by rw [← HZS.out]; exact HROW.out)⟩
            | exact ⟨_, rfl, put_new HB2.out HROW.out⟩
      case rest =>
        obtain ⟨R, rfl, HMID⟩ := hcut
        obtain ⟨g2, gc2, hblk, hrow2, hb2⟩ := HMID.out
        obtain ⟨kv, hO⟩ := HM.out
        have hs2 := hb2.size
        have hbl := hbel.size
        have HA := l4Add_any g (n + j) uc w.heap.size gc2 (some ⟨g2, 0, none⟩) (addCs cs (newCs t h m os j)) kv t (j : Int) ov ol ox oy h m wc (by rw [addCs_len, HCL.out]) (by omega) (fun q hq => by have := addCs_lens (t := t) (h := h) (m := m) (k := j) (by rw [HOL.out]; omega) HOK.out HOS.out q (by rw [HCL.out]; exact hq); omega) (by omega) ((hO.below hb2).mono hs2) (Joins.ownsRow_le hrow2 hbl) (fun i hi b' hb' e => by
          have h1 := (hO.keys i hi).2 b' hb'
          have h2 := (hrow2.lt b' e).1
          omega)
        obtain ⟨y0, y1, y2, y3, _⟩ := cells4 hblk
        have HBC : Hid (Below w.heap.size w wc) := hbel.trans (hb2.mono hbel.size)
        have HXT : Hid (addC (addCs cs (newCs t h m os j)) (⟨t, (j : Int), ov, ol, ox, oy, h, m⟩ : Co) = addCs cs (newCs t h m os (j + 1))) := by
          show _ = _
          rw [addCs_succ, ← HS.out]
          rfl
        clear hblk hrow2 hb2 hO HMID HM hs2 hbl hL2 bz0 bz1 x0 x1 x2 x3
        go_wp2_with (first
          | (go_at_call 53; (with_reducible refine HA.mono ?_); clear HA; rintro e w5 ⟨g5, c5, rfl, HO5, hb5⟩; have HB5 : Hid (Below w.heap.size w w5) := HBC.out.trans hb5; have HO5' : Hid (∃ kv, COwn w5 w.heap.size w5.heap.size (.slice (some ⟨g5, 0, none⟩) (n + j + 1) c5) (n + j + 1) (fun q => (addCs cs (newCs t h m os (j + 1))).getD q C0) kv) := (by rw [← HXT.out]; exact HO5); clear HO5 hb5))
        go_roundw
        case rel => exact ⟨j + 1, by omega, by go_num, HB5.out, g5, c5, rfl, HO5'.out⟩
        case measure => simp [intOf]; omega
    · obtain rfl : j = n2 := by omega
      have HFI : Hid (AddO w wr (.returned (.slice (some ⟨g, 0, none⟩) (n + j) uc)) w.heap.size (n + j) (addCs cs (newCs t h m os j))) := ⟨g, uc, rfl, HM.out, hbel⟩
      go_wp2
      go_ret
      exact HFI.out

end Go.Proofs.Ytdfijlcjmllplaa
