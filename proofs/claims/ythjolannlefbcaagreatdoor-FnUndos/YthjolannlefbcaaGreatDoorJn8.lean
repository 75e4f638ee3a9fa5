/- The specification's PutCoins. The specification's PutCoins keeps its contract. Coins that are drawn right, in memory of their own. -/
import Derived.Test.YthjolannlefbcaaGreatDoorJn7
import Derived.Deep.DeepCutAuto
import Derived.Test.YthjolannlefbcaaGreatDoorJn5
namespace Go.Proofs.YthjolannlefbcaaGreatDoor
open Go.RowKit Go.Maps Go.WideMaps

theorem addC_len {x : Co} : ∀ {ts : List Co}, (addC ts x).length = ts.length + 1
  | [] => rfl
  | a :: l => by
    unfold addC
    by_cases e : cmpR (a.p, a.q) (x.p, x.q) < 0
    · rw [if_pos e, List.length_cons, addC_len, List.length_cons]
    · rw [if_neg e]; rfl
theorem addCs_succ (cs : List Co) (t h : Int) (m : Bool) (os : List Ou) (k : Nat) : addCs cs (newCs t h m os (k + 1)) = addC (addCs cs (newCs t h m os k)) (newC t h m (os.getD k O0) k) := by
  rw [newCs_succ]
  unfold addCs
  rw [List.foldl_append]
  rfl
theorem addCs_len (cs : List Co) (t h : Int) (m : Bool) (os : List Ou) : ∀ k, (addCs cs (newCs t h m os k)).length = cs.length + k
  | 0 => rfl
  | k + 1 => by rw [addCs_succ, addC_len, addCs_len]; rfl
theorem addCs_lens {cs : List Co} {t h : Int} {m : Bool} {os : List Ou} {k : Nat} (hk : k ≤ os.length) (h1 : ∀ c ∈ cs, coinR c = 0) (h2 : ∀ o ∈ os, 1 ≤ o.l.length ∧ o.l.length ≤ 3) : ∀ j, j < cs.length + k → ((addCs cs (newCs t h m os k)).getD j C0).l.length ≤ 3 := fun j hj => by
  have hm : (addCs cs (newCs t h m os k)).getD j C0 ∈ addCs cs (newCs t h m os k) := get_mem (addCs_len cs t h m os k) hj
  rw [addCs_mem, List.mem_append] at hm
  rcases hm with hm | hm
  · exact (coin_more (h1 _ hm)).2.2.2
  · obtain ⟨i, hi, e⟩ := List.mem_map.1 hm
    rw [← e]
    have hi' := List.mem_range.1 hi
    refine (h2 (os.getD i O0) ?_).2
    rw [List.getD, List.getElem?_eq_getElem (by omega)]
    exact List.getElem_mem _

set_option maxHeartbeats 1000000 in
theorem l4Copy0_any (c : Nat) (a : Option Addr) (w : World) :
    Calls Tryz.prog 46 #[.slice a 0 c] w fun e w' => e = .returned (.slice (some ⟨w.heap.size, 0, none⟩) 0 0) ∧ w' = w.alloc (.cells #[] 75) := by
  go_enter Tryz.func46, Tryz.ntmps46
  go_wp2
  refine wp_loop_rounds 1 ?_
  rw [rounds_succ]
  go_wp2
  go_ret
  exact ⟨rfl, rfl⟩
theorem l4CopyS_any (n c : Nat) (a : Option Addr) (cs : List Co) (w : World) (hn : n ≤ 40) (hk : ∀ j, j < n → coinR (cs.getD j C0) = 0) (hC : CAt w a n cs) :
    Calls Tryz.prog 46 #[.slice a n c] w fun e w' => ∃ g uc, e = .returned (.slice (some ⟨g, 0, none⟩) n uc) ∧ Hid (∃ kv, COwn w' w.heap.size w'.heap.size (.slice (some ⟨g, 0, none⟩) n uc) n (fun j => cs.getD j C0) kv) ∧ Hid (Below w.heap.size w w') := by
  by_cases h0 : n = 0
  · subst h0
    refine (l4Copy0_any c a w).mono fun e w' ⟨h1, h2⟩ => ?_
    subst h2
    refine ⟨w.heap.size, 0, h1, ⟨fun _ => .slice none 0 0, ⟨[], own_empty (heap_alloc_new _ _) (Nat.le_refl _), fun j hj => (by omega)⟩, fun b hb => ?_, fun j hj => (by omega), fun i j _ hj => (by omega)⟩, below_box _⟩
    have e : some w.heap.size = some b := hb
    cases e
    simp
  · refine (l4Copy_any n c a cs w (by omega) hk hC).mono fun e w' ⟨v, kv, h1, h2, h3⟩ => ?_
    obtain ⟨xs, q, _⟩ := h2.row
    rcases q.2 with ⟨_, e⟩ | ⟨g, cap, cur, e, _⟩
    · exact absurd e h0
    · subst e; exact ⟨g, cap, h1, ⟨kv, h2⟩, h3⟩

/-- An out of its own, in a block. -/
def PutMid (wr wc : World) (R : Nat) (ov : Int) (ol : List Int) (ox oy : Int) : Prop :=
  ∃ g gc, wc.heap[R]? = some (.cells #[.int .i64 ov, .slice (some ⟨g, 0, none⟩) ol.length gc, .int .i64 ox, .int .i64 oy] 73 (0, 0)) ∧ wc.ownsRow wr.heap.size 2 1 (.slice (some ⟨g, 0, none⟩) ol.length gc) ol.length (ints ol) ∧ Below wr.heap.size wr wc
theorem put_new {wr w2 : World} {g gc : Nat} {ov : Int} {ol : List Int} {ox oy : Int} (hb : Below wr.heap.size wr w2) (hr : w2.ownsRow wr.heap.size 2 1 (.slice (some ⟨g, 0, none⟩) ol.length gc) ol.length (ints ol)) :
    PutMid wr (w2.alloc (.cells #[.int .i64 ov, .slice (some ⟨g, 0, none⟩) ol.length gc, .int .i64 ox, .int .i64 oy] 73)) w2.heap.size ov ol ox oy :=
  ⟨g, gc, heap_alloc_new _ _, hr.alloc _, hb.trans ((below_box _).mono hb.size)⟩
theorem put_set {wr w2 : World} {R g gc : Nat} {ov : Int} {ol : List Int} {ox oy : Int} (hR : R = wr.heap.size) (hX : w2.heap[R]? = some (.cells #[.int .i64 0, .slice none 0 0, .int .i64 0, .int .i64 0] 73 (0, 0))) (hb : Below wr.heap.size wr w2) (hr : w2.ownsRow (wr.heap.size + 1) 2 1 (.slice (some ⟨g, 0, none⟩) ol.length gc) ol.length (ints ol)) :
    PutMid wr ((((w2.setCell ⟨R, 0, none⟩ (.int .i64 ov)).setCell ⟨R, 1, none⟩ (.slice (some ⟨g, 0, none⟩) ol.length gc)).setCell ⟨R, 2, none⟩ (.int .i64 ox)).setCell ⟨R, 3, none⟩ (.int .i64 oy)) R ov ol ox oy := by
  subst hR
  have s1 := Joins.block_setCell (i := 0) hX (.int .i64 ov)
  have s2 := Joins.block_setCell (i := 1) s1 (.slice (some ⟨g, 0, none⟩) ol.length gc)
  have s3 := Joins.block_setCell (i := 2) s2 (.int .i64 ox)
  have s4 := Joins.block_setCell (i := 3) s3 (.int .i64 oy)
  have st : ∀ (W : World) (i : Nat) (u : Value), W.ownsRow (wr.heap.size + 1) 2 1 (.slice (some ⟨g, 0, none⟩) ol.length gc) ol.length (ints ol) → (W.setCell ⟨wr.heap.size, i, none⟩ u).ownsRow (wr.heap.size + 1) 2 1 (.slice (some ⟨g, 0, none⟩) ol.length gc) ol.length (ints ol) := fun W i u hW => ownsRow_setCell_below hW (a := ⟨wr.heap.size, i, none⟩) (show wr.heap.size < _ by omega) u
  refine ⟨g, gc, by simpa using s4, Joins.ownsRow_le (st _ _ _ (st _ _ _ (st _ _ _ (st _ _ _ hr)))) (by omega), ?_⟩
  exact (((hb.setCell (p := ⟨wr.heap.size, 0, none⟩) (Nat.le_refl _) _).setCell (p := ⟨wr.heap.size, 1, none⟩) (Nat.le_refl _) _).setCell (p := ⟨wr.heap.size, 2, none⟩) (Nat.le_refl _) _).setCell (p := ⟨wr.heap.size, 3, none⟩) (Nat.le_refl _) _

theorem keepS1 {W : World} {b i R k : Nat} {v u : Value} (h : W.cell? ⟨b, i, none⟩ = some v) (hne : b < R) : (W.setCell ⟨R, k, none⟩ u).cell? ⟨b, i, none⟩ = some v :=
  (World.cell?_of_block (Below.heap_setCell W ⟨R, k, none⟩ u b (show b ≠ R by omega))).trans h
theorem keepS4 {W : World} {b i R : Nat} {v u0 u1 u2 u3 : Value} (h : W.cell? ⟨b, i, none⟩ = some v) (hne : b < R) : ((((W.setCell ⟨R, 0, none⟩ u0).setCell ⟨R, 1, none⟩ u1).setCell ⟨R, 2, none⟩ u2).setCell ⟨R, 3, none⟩ u3).cell? ⟨b, i, none⟩ = some v := by
  have h1 := keepS1 (k := 0) (u := u0) h hne
  have h2 := keepS1 (k := 1) (u := u1) h1 hne
  have h3 := keepS1 (k := 2) (u := u2) h2 hne
  exact keepS1 (k := 3) (u := u3) h3 hne

set_option maxRecDepth 20000 in
set_option maxHeartbeats 8000000 in
theorem l4Put_any (n c n2 c2 : Nat) (a a2 : Option Addr) (cs : List Co) (t h : Int) (m : Bool) (os : List Ou) (w : World) (hn : n ≤ 40) (hok : ∀ c ∈ cs, coinR c = 0) (hn2 : n2 ≤ 4) (hos : ∀ o ∈ os, 1 ≤ o.l.length ∧ o.l.length ≤ 3) (hC : CAt w a n cs) (hO : OAt w a2 n2 os) :
    Calls Tryz.prog 51 #[.slice a n c, .int .i64 t, .slice a2 n2 c2, .int .i64 h, .bool m] w fun e w' => AddO w w' e w.heap.size (n + n2) (addCs cs (newCs t h m os n2)) := by
  have hcp := l4CopyS_any n c a cs w hn (fun j hj => hok _ (get_mem hC.1 hj)) hC
  have HOK : Hid (∀ c ∈ cs, coinR c = 0) := hok
  have HOS : Hid (∀ o ∈ os, 1 ≤ o.l.length ∧ o.l.length ≤ 3) := hos
  have HCL : Hid (cs.length = n) := hC.1
  have HOL : Hid (os.length = n2) := hO.1
  have HOO : Hid (OAt w a2 n2 os) := hO
  clear hok hos hC hO
  go_enter Tryz.func51, Tryz.ntmps51
  go_wp2_with (first
    | (go_at_call 46; (with_reducible refine hcp.mono ?_); clear hcp; rintro e w1 ⟨g0, u0, rfl, HO1, HB1⟩))
  go_loopw [11, 12] (fun v i wr => ∃ j : Nat, j ≤ n2 ∧ i = .int .i64 j ∧ Below w.heap.size w wr ∧ ∃ g uc, v = .slice (some ⟨g, 0, none⟩) (n + j) uc ∧ Hid (∃ kv, COwn wr w.heap.size wr.heap.size (.slice (some ⟨g, 0, none⟩) (n + j) uc) (n + j) (fun q => (addCs cs (newCs t h m os j)).getD q C0) kv)) (fun _ i _ => n2 - (intOf i).toNat)
  case atStart => exact ⟨0, Nat.zero_le _, rfl, HB1.out, g0, u0, rfl, HO1.out⟩
  case round =>
    obtain ⟨j, hj, rfl, hbel, g, uc, rfl, HM⟩ := hrel
    by_cases hlt : j < n2
    · rcases HOO.out.2 with h0 | ⟨b, off, e0, l0, d0⟩
      · omega
      subst e0
      obtain ⟨o, ho⟩ : ∃ o, o = os.getD j O0 := ⟨_, rfl⟩
      obtain ⟨ka, kn, kc, p0, p1, p2, p3, p4, p5⟩ := d0 j hlt
      have hom := HOS.out o (by rw [ho, List.getD, List.getElem?_eq_getElem (by rw [HOL.out]; exact hlt)]; exact List.getElem_mem _)
      rw [← ho] at p0 p2 p3 p5
      have HS : Hid (o = os.getD j O0) := ho
      obtain ⟨ov, ol, ox, oy⟩ := o
      simp only at p0 p2 p3 p5 hom
      obtain rfl := p5.1
      rcases p5.2 with h0 | ⟨kb, ko, ek, hkl, _⟩
      · omega
      subst ek
      have x0 := (hbel.cell (p := ⟨b, off + j * 4, none⟩) l0).trans p0
      have x1 := (hbel.cell (p := ⟨b, off + j * 4 + 1, none⟩) l0).trans p1
      have x2 := (hbel.cell (p := ⟨b, off + j * 4 + 2, none⟩) l0).trans p2
      have x3 := (hbel.cell (p := ⟨b, off + j * 4 + 3, none⟩) l0).trans p3
      have hlw : b < wr.heap.size := Nat.lt_of_lt_of_le l0 hbel.size
      have hki : (j : Int) < (n2 : Int) := by omega
      have HI : Hid (IAt wr (some ⟨kb, ko, none⟩) ol.length ol) := p5.below hbel (Nat.le_refl _)
      have hL2 : ∀ W, Below wr.heap.size wr W → Calls Tryz.prog 86 #[.agg #[.slice (some ⟨kb, ko, none⟩) ol.length kc, .int .i64 ox, .int .i64 oy]] W fun e w' => ∃ g c, e = .returned (.agg #[.slice (some ⟨g, 0, none⟩) ol.length c, .int .i64 ox, .int .i64 oy]) ∧ Hid (w'.ownsRow W.heap.size 2 1 (.slice (some ⟨g, 0, none⟩) ol.length c) ol.length (ints ol)) ∧ Hid (Below W.heap.size W w') ∧ Hid (Below wr.heap.size wr w') := fun W hW =>
        (l2Copy_any kb ko ol.length kc ol ox oy W (by omega) (HI.out.below hW (Nat.le_refl _))).mono fun e w' ⟨g, c, q1, q2, q3⟩ => ⟨g, c, q1, Joins.ownsRow_le q2 (by omega), q3, hW.trans (q3.mono hW.size)⟩
      have bz0 : Below wr.heap.size wr wr.drew := (Below.refl _ _).drew
      have bz1 : Below wr.heap.size wr (wr.alloc (.cells #[.int .i64 0, .slice none 0 0, .int .i64 0, .int .i64 0] 73)).drew := (below_box _).trans ((Below.refl _ _).drew)
      have HZ0 : Hid ((wr.alloc (.cells #[.int .i64 0, .slice none 0 0, .int .i64 0, .int .i64 0] 73)).drew.heap[wr.heap.size]? = some (.cells #[.int .i64 0, .slice none 0 0, .int .i64 0, .int .i64 0] 73 (0, 0))) := heap_alloc_new _ _
      have hzs : (wr.alloc (.cells #[.int .i64 0, .slice none 0 0, .int .i64 0, .int .i64 0] 73)).drew.heap.size = wr.heap.size + 1 := by simp
      have HZS : Hid ((wr.alloc (.cells #[.int .i64 0, .slice none 0 0, .int .i64 0, .int .i64 0] 73)).drew.heap.size = wr.heap.size + 1) := hzs
      clear d0 ho p0 p1 p2 p3 p4 p5 hzs
      go_wp2
      go_cut [13] (fun s wc => ∃ R, s = .pointer (some ⟨R, 0, none⟩) ∧ Hid (PutMid wr wc R ov ol ox oy))
      case first =>
        go_region_held3 (fun w' => w'.cell? ⟨b, off + j * 4, none⟩ = some (.int .i64 ov) ∧ w'.cell? ⟨b, off + j * 4 + 1, none⟩ = some (.slice (some ⟨kb, ko, none⟩) ol.length kc) ∧ w'.cell? ⟨b, off + j * 4 + 2, none⟩ = some (.int .i64 ox) ∧ w'.cell? ⟨b, off + j * 4 + 3, none⟩ = some (.int .i64 oy)) (first | go_keep | exact ⟨keepS4 z0 hlw, keepS4 z1 hlw, keepS4 z2 hlw, keepS4 z3 hlw⟩)
          (first
            | (go_at_call 86; (first
                | ((with_reducible refine (hL2 wr.drew bz0).mono ?_); rintro e w2 ⟨g2, gc2, rfl, HROW, _, HB2⟩; have z0 := (HB2.out.cell (p := ⟨b, off + j * 4, none⟩) hlw).trans x0; have z1 := (HB2.out.cell (p := ⟨b, off + j * 4 + 1, none⟩) hlw).trans x1; have z2 := (HB2.out.cell (p := ⟨b, off + j * 4 + 2, none⟩) hlw).trans x2; have z3 := (HB2.out.cell (p := ⟨b, off + j * 4 + 3, none⟩) hlw).trans x3)
                | ((with_reducible refine (hL2 (wr.alloc (.cells #[.int .i64 0, .slice none 0 0, .int .i64 0, .int .i64 0] 73)).drew bz1).mono ?_); rintro e w2 ⟨g2, gc2, rfl, HROW, HBZ, HB2⟩; have HZ2 := keepb HZ0.out HBZ.out; obtain ⟨y0, y1, y2, y3, f0, f1, f2, f3⟩ := cells4 HZ2.out; have z0 := (HB2.out.cell (p := ⟨b, off + j * 4, none⟩) hlw).trans x0; have z1 := (HB2.out.cell (p := ⟨b, off + j * 4 + 1, none⟩) hlw).trans x1; have z2 := (HB2.out.cell (p := ⟨b, off + j * 4 + 2, none⟩) hlw).trans x2; have z3 := (HB2.out.cell (p := ⟨b, off + j * 4 + 3, none⟩) hlw).trans x3))))
        all_goals
          go_wp2
          go_meet
          first
            | exact ⟨_, rfl, put_set rfl HZ2.out HB2.out (by rw [← HZS.out]; exact HROW.out)⟩
            | exact ⟨_, rfl, put_new HB2.out HROW.out⟩
      case rest =>
        obtain ⟨R, rfl, HMID⟩ := hcut
        obtain ⟨g2, gc2, hblk, hrow2, hb2⟩ := HMID.out
        obtain ⟨kv, hO⟩ := HM.out
        have hs2 := hb2.size
        have hbl := hbel.size
        have HA := l4Add_any g (n + j) uc w.heap.size gc2 (some ⟨g2, 0, none⟩) (addCs cs (newCs t h m os j)) kv t (j : Int) ov ol ox oy h m wc (by rw [addCs_len, HCL.out]) (by omega) (fun q hq => by have := addCs_lens (t := t) (h := h) (m := m) (k := j) (by rw [HOL.out]; omega) HOK.out HOS.out q (by rw [HCL.out]; exact hq); omega) (by omega) ((hO.below hb2).mono hs2) (Joins.ownsRow_le hrow2 hbl) (fun i hi b' hb' e => by
          have h1 := (hO.keys i hi).2 b' hb'
          have h2 := (hrow2.lt b' e).1
          omega)
        obtain ⟨y0, y1, y2, y3, _⟩ := cells4 hblk
        have HBC : Hid (Below w.heap.size w wc) := hbel.trans (hb2.mono hbel.size)
        have HXT : Hid (addC (addCs cs (newCs t h m os j)) (⟨t, (j : Int), ov, ol, ox, oy, h, m⟩ : Co) = addCs cs (newCs t h m os (j + 1))) := by
          show _ = _
          rw [addCs_succ, ← HS.out]
          rfl
        clear hblk hrow2 hb2 hO HMID HM hs2 hbl hL2 bz0 bz1 x0 x1 x2 x3
        go_wp2_with (first
          | (go_at_call 88; (with_reducible refine HA.mono ?_); clear HA; rintro e w5 ⟨g5, c5, rfl, HO5, hb5⟩; have HB5 : Hid (Below w.heap.size w w5) := HBC.out.trans hb5; have HO5' : Hid (∃ kv, COwn w5 w.heap.size w5.heap.size (.slice (some ⟨g5, 0, none⟩) (n + j + 1) c5) (n + j + 1) (fun q => (addCs cs (newCs t h m os (j + 1))).getD q C0) kv) := (by rw [← HXT.out]; exact HO5); clear HO5 hb5))
        go_roundw
        case rel => exact ⟨j + 1, by omega, by go_num, HB5.out, g5, c5, rfl, HO5'.out⟩
        case measure => simp [intOf]; omega
    · obtain rfl : j = n2 := by omega
      have HFI : Hid (AddO w wr (.returned (.slice (some ⟨g, 0, none⟩) (n + j) uc)) w.heap.size (n + j) (addCs cs (newCs t h m os j))) := ⟨g, uc, rfl, HM.out, hbel⟩
      go_wp2
      go_ret
      exact HFI.out

end Go.Proofs.YthjolannlefbcaaGreatDoor

namespace Go.Proofs.YthjolannlefbcaaGreatDoor
open Go.RowKit Go.Maps Go.WideMaps

theorem out_coinsN {w W : World} {R lo N : Nat} {cs : List Co} {va : Option Addr} {vc : Nat} (hN : cs.length = N) (hR : w.heap.size ≤ R) (hlo : R < lo) (hb : Below w.heap.size w W) (hO : ∃ kv, COwn W lo W.heap.size (.slice va N vc) N (fun j => cs.getD j C0) kv) :
    OutCs w ((W.setCell ⟨R, 0, none⟩ (.int .i64 0)).setCell ⟨R, 1, none⟩ (.slice va N vc)) (.returned (.agg #[.int .i64 0, .slice va N vc])) 0 cs := by
  subst hN
  exact out_coins hR hlo hb hO
theorem outs_bad {o : Ou} {t : List Ou} {r : Int} (h : outR o.v o.l o.x o.y = r) (h0 : ¬ r = 0) : outsR (o :: t) = r := by
  unfold outR at h
  rw [outsR]
  by_cases h1 : inB o.v 1 1000000 = false
  · rw [if_pos h1] at h ⊢; exact h
  · rw [if_neg h1] at h ⊢; rw [h, if_pos h0]
theorem outs_go {o : Ou} {t : List Ou} (h : outR o.v o.l o.x o.y = 0) : outsR (o :: t) = outsR t := by
  unfold outR at h
  rw [outsR]
  by_cases h1 : inB o.v 1 1000000 = false
  · rw [if_pos h1] at h; cases h
  · rw [if_neg h1] at h ⊢; rw [h, if_neg (by simp)]
theorem putR_code {cs : List Co} {t h : Int} {m : Bool} {os : List Ou} {r : Int} (h0 : coinsR cs = 0) (hp : putsR cs.length (hasT cs t) t os h = r) (hr : ¬ r = 0) : putR cs t os h m = (r, []) := by
  unfold putR
  rw [if_neg (by simp [h0]), hp, if_pos hr]
theorem putR_ok {cs : List Co} {t h : Int} {m : Bool} {os : List Ou} (h0 : coinsR cs = 0) (hp : putsR cs.length (hasT cs t) t os h = 0) : putR cs t os h m = (0, addCs cs (newCs t h m os os.length)) := by
  unfold putR
  rw [if_neg (by simp [h0]), hp, if_neg (by simp)]
theorem puts_fault {n : Nat} {ti : Bool} {t h : Int} {os : List Ou} {r : Int} (hp : putFR t os h = r) (hr : ¬ r = 0) : putsR n ti t os h = r := by
  unfold putsR
  rw [hp, if_pos hr]
theorem puts_rest {n : Nat} {ti : Bool} {t h : Int} {os : List Ou} (hp : putFR t os h = 0) : putsR n ti t os h = if ti = true then 7 else if 40 < n + os.length then 2 else 0 := by
  unfold putsR
  rw [hp, if_neg (by simp)]
theorem putF_range {t h : Int} {os : List Ou} (hh : inB t 1 60 = false ∨ inB h 0 999 = false) : putFR t os h = 3 := by unfold putFR; rw [if_pos hh]
theorem putF_many {t h : Int} {os : List Ou} (hh : ¬ (inB t 1 60 = false ∨ inB h 0 999 = false)) (h4 : 4 < os.length) : putFR t os h = 2 := by unfold putFR; rw [if_neg hh, if_pos h4]
theorem putF_outs {t h : Int} {os : List Ou} (hh : ¬ (inB t 1 60 = false ∨ inB h 0 999 = false)) (h4 : ¬ 4 < os.length) : putFR t os h = outsR os := by unfold putFR; rw [if_neg hh, if_neg h4]

set_option maxRecDepth 20000 in
set_option maxHeartbeats 8000000 in
theorem sPutCoins_any (n c n2 c2 : Nat) (a a2 : Option Addr) (cs : List Co) (t h : Int) (m : Bool) (os : List Ou) (w : World) (hn : n ≤ 1048576) (hk : ∀ j, j < n → (cs.getD j C0).l.length ≤ 1048576) (hn2 : n2 ≤ 1048576) (hk2 : ∀ j, j < n2 → (os.getD j O0).l.length ≤ 1048576) (hC : CAt w a n cs) (hO : OAt w a2 n2 os) :
    Calls Tryz.prog 23 #[.slice a n c, .int .i64 t, .slice a2 n2 c2, .int .i64 h, .bool m] w fun e w' => OutCs w w' e (putR cs t os h m).1 (putR cs t os h m).2 := by
  have hbx : Below w.heap.size w (w.alloc (.cells #[.int .i64 0, .slice none 0 0] 32)) := below_box _
  have hF := l4Fault_any n c a cs (w.alloc (.cells #[.int .i64 0, .slice none 0 0] 32)) hn hk (hC.below hbx (Nat.le_refl _))
  have HBX : Hid (Below w.heap.size w (w.alloc (.cells #[.int .i64 0, .slice none 0 0] 32))) := hbx
  have T1 : Hid ((w.alloc (.cells #[.int .i64 0, .slice none 0 0] 32)).heap[w.heap.size]? = some (.cells #[.int .i64 0, .slice none 0 0] 32 (0, 0))) := heap_alloc_new _ _
  have HC : Hid (CAt w a n cs) := hC
  have HO : Hid (OAt w a2 n2 os) := hO
  have HCL : Hid (cs.length = n) := hC.1
  have HOL : Hid (os.length = n2) := hO.1
  have HK2 : Hid (∀ j, j < n2 → (os.getD j O0).l.length ≤ 1048576) := hk2
  obtain ⟨cd, hcd⟩ : ∃ r, r = coinsR cs := ⟨_, rfl⟩
  rw [← hcd] at hF
  clear hbx hk hk2
  by_cases h0 : cd = 0
  · subst h0
    obtain ⟨h40, hok, hri⟩ := coins_rise hcd.symm
    rw [hC.1] at h40
    have HCD : Hid (coinsR cs = 0) := hcd.symm
    have HOK : Hid (∀ c ∈ cs, coinR c = 0) := hok
    obtain ⟨kt, hkt⟩ : ∃ k, k = inB t 1 60 := ⟨_, rfl⟩
    obtain ⟨kh, hkh⟩ : ∃ k, k = inB h 0 999 := ⟨_, rfl⟩
    have hin : ∀ u, Calls Tryz.prog 48 #[.int .i64 t, .int .i64 1, .int .i64 60] u fun e w' => e = .returned (.bool kt) ∧ w' = u := fun u => by rw [hkt]; exact l1In_any _ _ _ u
    have hht : ∀ v, Calls Tryz.prog 49 #[.int .i64 h] v fun e w' => e = .returned (.bool kh) ∧ w' = v := fun v => by rw [hkh]; exact l2Height_any _ v
    have HKT : Hid (kt = inB t 1 60) := hkt
    have HKH : Hid (kh = inB h 0 999) := hkh
    clear hcd hC hO hok hri hkt hkh
    cases kt
    · rw [putR_code HCD.out (puts_fault (putF_range (.inl HKT.out.symm)) (by simp)) (by simp)]
      go_enter Tryz.func23, Tryz.ntmps23
      go_wp2_with (first | (go_at_call 43; (with_reducible refine hF.mono ?_); clear hF; rintro e w2 ⟨rfl, hb2⟩; have HT1 := keepb T1.out hb2; have HB2 : Hid (Below w.heap.size w w2) := HBX.out.trans (hb2.mono HBX.out.size); obtain ⟨y0, y1⟩ := cells2 HT1.out; have f0 := Joins.unfrozen_of_block HT1.out 0; have f1 := Joins.unfrozen_of_block HT1.out 1; clear hb2) | (go_at_call 48; (with_reducible refine (hin _).mono ?_); rintro e w' ⟨rfl, hw⟩; have hw2 := hw.symm; subst hw2; clear hw))
      obtain ⟨_, j1⟩ := two_set HT1.out (.int .i64 3) (.slice none 0 0)
      exact bodyPost_ret (v := .agg #[.int .i64 3, .slice none 0 0]) (by simp [results, Tryz.results23, go_sem, j1]) rfl (out_code (Nat.le_refl _) HB2.out)
    cases kh
    · rw [putR_code HCD.out (puts_fault (putF_range (.inr HKH.out.symm)) (by simp)) (by simp)]
      go_enter Tryz.func23, Tryz.ntmps23
      go_wp2_with (first | (go_at_call 43; (with_reducible refine hF.mono ?_); clear hF; rintro e w2 ⟨rfl, hb2⟩; have HT1 := keepb T1.out hb2; have HB2 : Hid (Below w.heap.size w w2) := HBX.out.trans (hb2.mono HBX.out.size); obtain ⟨y0, y1⟩ := cells2 HT1.out; have f0 := Joins.unfrozen_of_block HT1.out 0; have f1 := Joins.unfrozen_of_block HT1.out 1; clear hb2) | (go_at_call 48; (with_reducible refine (hin _).mono ?_); rintro e w' ⟨rfl, hw⟩; have hw2 := hw.symm; subst hw2; clear hw) | (go_at_call 49; (with_reducible refine (hht _).mono ?_); rintro e w' ⟨rfl, hw⟩; have hw2 := hw.symm; subst hw2; clear hw))
      obtain ⟨_, j1⟩ := two_set HT1.out (.int .i64 3) (.slice none 0 0)
      exact bodyPost_ret (v := .agg #[.int .i64 3, .slice none 0 0]) (by simp [results, Tryz.results23, go_sem, j1]) rfl (out_code (Nat.le_refl _) HB2.out)
    have HRA : Hid (¬ (inB t 1 60 = false ∨ inB h 0 999 = false)) := by
      rintro (q | q)
      · rw [← HKT.out] at q; cases q
      · rw [← HKH.out] at q; cases q
    by_cases h4 : 4 < n2
    · rw [putR_code HCD.out (puts_fault (putF_many HRA.out (by rw [HOL.out]; exact h4)) (by simp)) (by simp)]
      have h4i : (4 : Int) < (n2 : Int) := by omega
      go_enter Tryz.func23, Tryz.ntmps23
      go_wp2_with (first | (go_at_call 43; (with_reducible refine hF.mono ?_); clear hF; rintro e w2 ⟨rfl, hb2⟩; have HT1 := keepb T1.out hb2; have HB2 : Hid (Below w.heap.size w w2) := HBX.out.trans (hb2.mono HBX.out.size); obtain ⟨y0, y1⟩ := cells2 HT1.out; have f0 := Joins.unfrozen_of_block HT1.out 0; have f1 := Joins.unfrozen_of_block HT1.out 1; clear hb2) | (go_at_call 48; (with_reducible refine (hin _).mono ?_); rintro e w' ⟨rfl, hw⟩; have hw2 := hw.symm; subst hw2; clear hw) | (go_at_call 49; (with_reducible refine (hht _).mono ?_); rintro e w' ⟨rfl, hw⟩; have hw2 := hw.symm; subst hw2; clear hw))
      obtain ⟨_, j1⟩ := two_set HT1.out (.int .i64 2) (.slice none 0 0)
      exact bodyPost_ret (v := .agg #[.int .i64 2, .slice none 0 0]) (by simp [results, Tryz.results23, go_sem, j1]) rfl (out_code (Nat.le_refl _) HB2.out)
    have h4i : ¬ (4 : Int) < (n2 : Int) := by omega
    have HPF : Hid (putFR t os h = outsR os) := putF_outs HRA.out (by rw [HOL.out]; exact h4)
    obtain ⟨rc, hrc⟩ : ∃ x, x = (putR cs t os h m).1 := ⟨_, rfl⟩
    obtain ⟨rr, hrr⟩ : ∃ x, x = (putR cs t os h m).2 := ⟨_, rfl⟩
    rw [← hrc, ← hrr]
    have HRC : Hid (rc = (putR cs t os h m).1) := hrc
    have HRR : Hid (rr = (putR cs t os h m).2) := hrr
    obtain ⟨r1, hr1⟩ : ∃ r, r = outsR os := ⟨_, rfl⟩
    have HR1 : Hid (r1 = outsR os) := hr1
    obtain ⟨ht, hht'⟩ : ∃ k, k = hasT cs t := ⟨_, rfl⟩
    have HHT : Hid (ht = hasT cs t) := hht'
    have HOF : Hid (∀ W, Below w.heap.size w W → Calls Tryz.prog 21 #[.slice a n c, .int .i64 t] W fun e w' => e = .returned (.bool ht) ∧ w' = W) := fun W hW => by rw [HHT.out]; exact l4Of_any n c a cs t W hn (HC.out.below hW (Nat.le_refl _))
    clear hrc hrr hr1 hht'
    go_enter Tryz.func23, Tryz.ntmps23
    go_wp2_with (first | (go_at_call 43; (with_reducible refine hF.mono ?_); clear hF; rintro e w2 ⟨rfl, hb2⟩; have HT1 := keepb T1.out hb2; have HB2 : Hid (Below w.heap.size w w2) := HBX.out.trans (hb2.mono HBX.out.size); obtain ⟨y0, y1⟩ := cells2 HT1.out; have f0 := Joins.unfrozen_of_block HT1.out 0; have f1 := Joins.unfrozen_of_block HT1.out 1; clear hb2) | (go_at_call 48; (with_reducible refine (hin _).mono ?_); rintro e w' ⟨rfl, hw⟩; have hw2 := hw.symm; subst hw2; clear hw) | (go_at_call 49; (with_reducible refine (hht _).mono ?_); rintro e w' ⟨rfl, hw⟩; have hw2 := hw.symm; subst hw2; clear hw))
    clear y0 y1 f0 f1 hin hht
    go_loopw [12] (fun i wr => ∃ j : Nat, j ≤ n2 ∧ i = .int .i64 j ∧ Below w2.heap.size w2 wr ∧ Hid (r1 = outsR (os.drop j))) (fun i _ => n2 - (intOf i).toNat)
    case atStart => exact ⟨0, Nat.zero_le _, rfl, Below.refl _ _, HR1.out⟩
    case round =>
      obtain ⟨j, hj, rfl, hbel, HT⟩ := hrel
      have HB3 : Hid (Below w.heap.size w wr) := HB2.out.trans (hbel.mono HB2.out.size)
      have HT3 := keepb HT1.out hbel
      by_cases hlt : j < n2
      · rcases HO.out.2 with h0 | ⟨b, off, e0, l0, d0⟩
        · omega
        subst e0
        obtain ⟨o, ho⟩ : ∃ o, o = os.getD j O0 := ⟨_, rfl⟩
        obtain ⟨ka, kn, kc, p0, p1, p2, p3, p4, p5⟩ := d0 j hlt
        have hol := HK2.out j hlt
        rw [← ho] at p0 p2 p3 p5 hol
        have HNX : Hid (os.drop j = o :: os.drop (j + 1)) := drop_next HOL.out hlt ho
        obtain ⟨ov, ol, ox, oy⟩ := o
        simp only at p0 p2 p3 p5 hol
        obtain rfl := p5.1
        have x0 := (HB3.out.cell (p := ⟨b, off + j * 4, none⟩) l0).trans p0
        have x1 := (HB3.out.cell (p := ⟨b, off + j * 4 + 1, none⟩) l0).trans p1
        have x2 := (HB3.out.cell (p := ⟨b, off + j * 4 + 2, none⟩) l0).trans p2
        have x3 := (HB3.out.cell (p := ⟨b, off + j * 4 + 3, none⟩) l0).trans p3
        have hlw : b < wr.heap.size := Nat.lt_of_lt_of_le l0 HB3.out.size
        have hlo := l4Out_any b (off + j * 4) ol.length kc ka ov ol ox oy wr hol (p5.below HB3.out (Nat.le_refl _)) hlw x0 x1 x2 x3
        obtain ⟨cx, hcx⟩ : ∃ c, c = outR ov ol ox oy := ⟨_, rfl⟩
        rw [← hcx] at hlo
        have HCX : Hid (outR ov ol ox oy = cx) := hcx.symm
        have hki : (j : Int) < (n2 : Int) := by omega
        clear d0 ho p0 p1 p2 p3 p4 p5 hcx x0 x1 x2 x3 hlw hol
        by_cases hc0 : cx = 0
        · have HTN : Hid (r1 = outsR (os.drop (j + 1))) := by
            show _ = _
            rw [HT.out, HNX.out]
            exact outs_go (HCX.out.trans hc0)
          subst hc0
          go_wp2_with (first | (go_at_call 50; (with_reducible refine hlo.mono ?_); clear hlo; rintro e w4 ⟨rfl, hb4⟩))
          go_roundw
          case rel => exact ⟨j + 1, by omega, by go_num, hbel.trans (hb4.mono hbel.size), HTN⟩
          case measure => simp [intOf]; omega
        · have hr : putR cs t os h m = (cx, []) := putR_code HCD.out (puts_fault (HPF.out.trans (HR1.out.symm.trans (HT.out.trans (by rw [HNX.out]; exact outs_bad HCX.out hc0)))) hc0) hc0
          obtain rfl : cx = rc := by rw [HRC.out, hr]
          obtain rfl : rr = [] := by rw [HRR.out, hr]
          clear hr
          go_wp2_with (first | (go_at_call 50; (with_reducible refine hlo.mono ?_); clear hlo; rintro e w4 ⟨rfl, hb4⟩; have HT4 := keepb HT3.out hb4; have HB4 : Hid (Below w.heap.size w w4) := HB3.out.trans (hb4.mono HB3.out.size); obtain ⟨y0, y1⟩ := cells2 HT4.out; have f0 := Joins.unfrozen_of_block HT4.out 0; have f1 := Joins.unfrozen_of_block HT4.out 1; clear hb4))
          obtain ⟨_, j1⟩ := two_set HT4.out (.int .i64 cx) (.slice none 0 0)
          exact bodyPost_ret (v := .agg #[.int .i64 cx, .slice none 0 0]) (by simp [results, Tryz.results23, go_sem, j1]) rfl (out_code (Nat.le_refl _) HB4.out)
      · have HRZ : Hid (outsR os = 0) := by
          show _ = _
          rw [← HR1.out, HT.out, List.drop_eq_nil_of_le (by rw [HOL.out]; omega)]; rfl
        have hki : ¬ (j : Int) < (n2 : Int) := by omega
        obtain ⟨y0, y1⟩ := cells2 HT3.out
        have f0 := Joins.unfrozen_of_block HT3.out 0
        have f1 := Joins.unfrozen_of_block HT3.out 1
        have HRE : Hid (putsR cs.length (hasT cs t) t os h = if ht = true then 7 else if 40 < n + n2 then 2 else 0) := by
          show _ = _
          rw [puts_rest (HPF.out.trans HRZ.out), ← HHT.out, HCL.out, HOL.out]
        cases ht
        · by_cases h402 : 40 < n + n2
          · have hr : putR cs t os h m = (2, []) := putR_code HCD.out (HRE.out.trans (by rw [if_neg (by simp), if_pos h402])) (by simp)
            obtain rfl : rc = 2 := by rw [HRC.out, hr]
            obtain rfl : rr = [] := by rw [HRR.out, hr]
            have h40i : (40 : Int) < (n : Int) + (n2 : Int) := by omega
            clear hr
            go_wp2_with (first | (go_at_call 21; (with_reducible refine (HOF.out _ HB3.out).mono ?_); rintro e w' ⟨rfl, hw⟩; have hw2 := hw.symm; subst hw2; clear hw))
            obtain ⟨_, j1⟩ := two_set HT3.out (.int .i64 2) (.slice none 0 0)
            exact bodyPost_ret (v := .agg #[.int .i64 2, .slice none 0 0]) (by simp [results, Tryz.results23, go_sem, j1]) rfl (out_code (Nat.le_refl _) HB3.out)
          · have hr : putR cs t os h m = (0, addCs cs (newCs t h m os n2)) := by rw [putR_ok HCD.out (HRE.out.trans (by rw [if_neg (by simp), if_neg h402])), HOL.out]
            obtain rfl : rc = 0 := by rw [HRC.out, hr]
            have HRS : Hid (rr = addCs cs (newCs t h m os n2)) := by show _ = _; rw [HRR.out, hr]
            have HRL : Hid (rr.length = n + n2) := by show _ = _; rw [HRS.out, addCs_len, HCL.out]
            have h40i : ¬ (40 : Int) < (n : Int) + (n2 : Int) := by omega
            have HPU := l4Put_any n c n2 c2 a a2 cs t h m os wr h40 HOK.out (by omega) (outs_more HRZ.out) (HC.out.below HB3.out (Nat.le_refl _)) (HO.out.below HB3.out (Nat.le_refl _))
            clear hr
            go_wp2_with (first
              | (go_at_call 21; (with_reducible refine (HOF.out _ HB3.out).mono ?_); rintro e w' ⟨rfl, hw⟩; have hw2 := hw.symm; subst hw2; clear hw)
              | (go_at_call 51; (with_reducible refine HPU.mono ?_); clear HPU; rintro e w5 ⟨g5, c5, rfl, HO5, hb5⟩; have HO5' : Hid (∃ kv, COwn w5 wr.heap.size w5.heap.size (.slice (some ⟨g5, 0, none⟩) (n + n2) c5) (n + n2) (fun q => rr.getD q C0) kv) := (by rw [HRS.out]; exact HO5); have HT5 := keepb HT3.out hb5; have HB5 : Hid (Below w.heap.size w w5) := HB3.out.trans (hb5.mono HB3.out.size); clear y0 y1 f0 f1 HO5 hb5; obtain ⟨y0, y1⟩ := cells2 HT5.out; have f0 := Joins.unfrozen_of_block HT5.out 0; have f1 := Joins.unfrozen_of_block HT5.out 1))
            obtain ⟨_, j1⟩ := two_set HT5.out (.int .i64 0) (.slice (some ⟨g5, 0, none⟩) (n + n2) c5)
            exact bodyPost_ret (v := .agg #[.int .i64 0, .slice (some ⟨g5, 0, none⟩) (n + n2) c5]) (by simp [results, Tryz.results23, go_sem, j1]) rfl (out_coinsN HRL.out (Nat.le_refl _) (lt_of_block HT3.out) HB5.out HO5'.out)
        · have hr : putR cs t os h m = (7, []) := putR_code HCD.out (HRE.out.trans (by rw [if_pos rfl])) (by simp)
          obtain rfl : rc = 7 := by rw [HRC.out, hr]
          obtain rfl : rr = [] := by rw [HRR.out, hr]
          clear hr
          go_wp2_with (first | (go_at_call 21; (with_reducible refine (HOF.out _ HB3.out).mono ?_); rintro e w' ⟨rfl, hw⟩; have hw2 := hw.symm; subst hw2; clear hw))
          obtain ⟨_, j1⟩ := two_set HT3.out (.int .i64 7) (.slice none 0 0)
          exact bodyPost_ret (v := .agg #[.int .i64 7, .slice none 0 0]) (by simp [results, Tryz.results23, go_sem, j1]) rfl (out_code (Nat.le_refl _) HB3.out)
  · have hr : putR cs t os h m = (cd, []) := by unfold putR; rw [← hcd, if_pos h0]
    rw [hr]
    clear hr hcd hC hO
    go_enter Tryz.func23, Tryz.ntmps23
    go_wp2_with (first | (go_at_call 43; (with_reducible refine hF.mono ?_); clear hF; rintro e w2 ⟨rfl, hb2⟩; have HT1 := keepb T1.out hb2; have HB2 : Hid (Below w.heap.size w w2) := HBX.out.trans (hb2.mono HBX.out.size); obtain ⟨y0, y1⟩ := cells2 HT1.out; have f0 := Joins.unfrozen_of_block HT1.out 0; have f1 := Joins.unfrozen_of_block HT1.out 1; clear hb2))
    obtain ⟨_, j1⟩ := two_set HT1.out (.int .i64 cd) (.slice none 0 0)
    exact bodyPost_ret (v := .agg #[.int .i64 cd, .slice none 0 0]) (by simp [results, Tryz.results23, go_sem, j1]) rfl (out_code (Nat.le_refl _) HB2.out)

end Go.Proofs.YthjolannlefbcaaGreatDoor

namespace Go.Proofs.YthjolannlefbcaaGreatDoor
open Go.RowKit Go.Shelf Go.Maps Go.WideMaps

theorem putR_lens {cs : List Co} {t h : Int} {m : Bool} {os : List Ou} (h0 : (putR cs t os h m).1 = 0) : (putR cs t os h m).2.length ≤ 40 ∧ ∀ j, j < (putR cs t os h m).2.length → ((putR cs t os h m).2.getD j C0).l.length ≤ 3 := by
  unfold putR at h0 ⊢
  by_cases h1 : coinsR cs ≠ 0
  · rw [if_pos h1] at h0; exact absurd h0 h1
  rw [if_neg h1] at h0 ⊢
  have h2 : coinsR cs = 0 := by simpa using h1
  by_cases h3 : putsR cs.length (hasT cs t) t os h ≠ 0
  · rw [if_pos h3] at h0; exact absurd h0 h3
  rw [if_neg h3]
  have h4 : putsR cs.length (hasT cs t) t os h = 0 := by simpa using h3
  have hp : putFR t os h = 0 ∧ cs.length + os.length ≤ 40 := by
    unfold putsR at h4
    by_cases a : putFR t os h ≠ 0
    · rw [if_pos a] at h4; exact absurd h4 a
    rw [if_neg a] at h4
    split at h4
    · cases h4
    · split at h4
      · cases h4
      · exact ⟨by simpa using a, by omega⟩
  have ho : outsR os = 0 := by
    have := hp.1
    unfold putFR at this
    split at this
    · cases this
    · split at this
      · cases this
      · exact this
  obtain ⟨c1, c2, _⟩ := coins_rise h2
  refine ⟨by show (addCs cs (newCs t h m os os.length)).length ≤ 40; rw [addCs_len]; exact hp.2, fun j hj => ?_⟩
  have hj2 : j < cs.length + os.length := by
    have : j < (addCs cs (newCs t h m os os.length)).length := hj
    rwa [addCs_len] at this
  exact addCs_lens (Nat.le_refl _) c2 (outs_more ho) j hj2
theorem putR_zero {cs : List Co} {t h : Int} {m : Bool} {os : List Ou} (h0 : (putR cs t os h m).1 ≠ 0) : (putR cs t os h m).2 = [] := by
  unfold putR at h0 ⊢
  split
  · rfl
  · split
    · rfl
    · rename_i h1 h2
      rw [if_neg h1, if_neg h2] at h0
      exact absurd rfl h0

theorem putR_len2 (cs : List Co) (t h : Int) (m : Bool) (os : List Ou) : (putR cs t os h m).2.length ≤ 40 ∧ ∀ j, j < (putR cs t os h m).2.length → ((putR cs t os h m).2.getD j C0).l.length ≤ 3 := by
  by_cases hz : (putR cs t os h m).1 = 0
  · exact putR_lens hz
  · rw [putR_zero hz]
    exact ⟨by simp, fun j hj => by simp at hj⟩

/-- Coins under way, drawn since v. -/
structure DcS (w v V : World) (SB : Nat) (ca : Option Addr) (cn cc t : Nat) (va : Option Addr) (vc : Nat) (cs : List Co) : Prop where
  src : Src w V SB ca cn cc t
  chg : Chg v V SB (SB + 1)
  own : ∃ kv, COwn V v.heap.size V.heap.size (.slice va cs.length vc) cs.length (fun j => cs.getD j C0) kv
  len : cs.length ≤ 42 ∧ ∀ j, j < cs.length → (cs.getD j C0).l.length ≤ 3
  ord : SB < v.heap.size
section
variable {w v V V' : World} {SB cn cc t t' vc : Nat} {ca va : Option Addr} {cs : List Co}
theorem DcS.draw (h : DcS w v V SB ca cn cc t va vc cs) (hS : Src w V' SB ca cn cc t') (hc : Chg V V' SB (SB + 1)) : DcS w v V' SB ca cn cc t' va vc cs := by
  obtain ⟨kv, hk⟩ := h.own
  exact ⟨hS, h.chg.trans hc, ⟨kv, (hk.chg hc (.inr h.ord)).mono hc.size⟩, h.len, h.ord⟩
theorem DcS.step (h : DcS w v V SB ca cn cc t va vc cs) (hb : Below V.heap.size V V') : DcS w v V' SB ca cn cc t va vc cs := h.draw (h.src.step hb) (Chg.of_below hb _ _)
theorem DcS.at (h : DcS w v V SB ca cn cc t va vc cs) : CAt V va cs.length cs := by
  obtain ⟨kv, hk⟩ := h.own
  exact own_at2 hk rfl fun j hj => by have := h.len.2 j hj; omega
theorem DcS.first (hS : Src w v SB ca cn cc t) : DcS w v (v.alloc (.cells #[] 75)) SB ca cn cc t (some ⟨v.heap.size, 0, none⟩) 0 [] :=
  ⟨hS.step (below_box _), Chg.of_below (below_box _) _ _, ⟨fun _ => .slice none 0 0, ⟨⟨[], ⟨rfl, .inr ⟨v.heap.size, 0, #[], rfl, Nat.le_refl _, heap_alloc_new _ _, Nat.le_refl _, by unfold maxLen; omega, rfl, rfl⟩⟩, fun j hj => (by simp at hj)⟩, fun b hb => (by simp [Value.ownBlock] at hb; simp; omega), fun j hj => (by simp at hj), fun i j _ hj => (by simp at hj)⟩⟩, ⟨by simp, fun j hj => (by simp at hj)⟩, hS.lt⟩
end

/-- Coins that were drawn. -/
def OutDc (w v : World) (SB : Nat) (ca : Option Addr) (cn cc T : Nat) (e : Ending) (v' : World) : Prop :=
  ∃ (cs : List Co) (va : Option Addr) (n vc t' : Nat), e = .returned (.slice va n vc) ∧ n = cs.length ∧ t' ≤ T ∧ Hid (DcS w v v' SB ca cn cc t' va vc cs)

/-- What PutCoins of coins that were drawn leaves, boxed. -/
theorem put_box {w v U V : World} {SB cn cc t vc : Nat} {ca va : Option Addr} {cs rs : List Co} {cd : Int} {u : Value} {kv : Nat → Value} (h : DcS w v U SB ca cn cc t va vc cs) (hO : COwn V U.heap.size V.heap.size u rs.length (fun j => rs.getD j C0) kv) (hb : Below U.heap.size U V) (hl : rs.length ≤ 40 ∧ ∀ j, j < rs.length → (rs.getD j C0).l.length ≤ 3) :
    ∃ ua uc, u = .slice ua rs.length uc ∧ Hid (DcS w v (V.alloc (.cells #[.int .i64 cd, u] 32)) SB ca cn cc t va vc cs ∧ DcS w v (V.alloc (.cells #[.int .i64 cd, u] 32)) SB ca cn cc t ua uc rs) ∧ (V.alloc (.cells #[.int .i64 cd, u] 32)).heap[V.heap.size]? = some (.cells #[.int .i64 cd, u] 32 (0, 0)) := by
  have hbx : Below U.heap.size U (V.alloc (.cells #[.int .i64 cd, u] 32)) := hb.trans ((below_box _).mono hb.size)
  obtain ⟨ua, uc, hu⟩ : ∃ ua uc, u = .slice ua rs.length uc := by
    obtain ⟨xs, hr, _⟩ := hO.row
    rcases hr.2 with ⟨q, q0⟩ | ⟨g, cap, cur, q, _⟩
    · exact ⟨none, 0, by rw [q, q0]⟩
    · exact ⟨_, cap, q⟩
  subst hu
  have h1 := h.step hbx
  refine ⟨ua, uc, rfl, ⟨h1, h1.src, h1.chg, ⟨kv, ?_⟩, ⟨by omega, hl.2⟩, h.ord⟩, heap_alloc_new _ _⟩
  exact (hO.below (below_box _)).lower h.chg.size (by simp)

set_option maxRecDepth 20000 in
set_option maxHeartbeats 8000000 in
theorem l4Right_any (SB cn cc t : Nat) (ca : Option Addr) (l0 : List Int) (w v : World) (ht : t ≤ 600) (hcn : cn ≤ 1048577) (hB : BAt w ca cn l0) (h : Src w v SB ca cn cc t) :
    Calls Tryz.prog 67 #[.pointer (some ⟨SB, 0, none⟩)] v fun e v' => OutDc w v SB ca cn cc (t + 141) e v' := by
  have HBA : Hid (BAt w ca cn l0) := hB
  have HD0 : Hid (DcS w v (v.alloc (.cells #[] 75)) SB ca cn cc t (some ⟨v.heap.size, 0, none⟩) 0 []) := DcS.first h
  have h1 := l1Next_any SB cn cc t ca l0 6 w (v.alloc (.cells #[] 75)) (by omega) (by omega) hcn hB HD0.out.src
  clear hB h
  go_enter Tryz.func67, Tryz.ntmps67
  go_wp2_with (first
    | (go_at_call 16; have hq := h1; clear h1; (with_reducible refine hq.mono ?_); clear hq; rintro e v2 ⟨r1, rfl, ⟨a1, b1⟩, hS2, hc2⟩; have b1' : r1 < 6 := b1 (by omega); clear b1; have HD2 : Hid (DcS w v v2 SB ca cn cc (t + 1) (some ⟨v.heap.size, 0, none⟩) 0 []) := HD0.out.draw hS2 hc2; clear hS2 hc2 HD0))
  obtain ⟨k2, rfl⟩ := Int.eq_ofNat_of_zero_le a1
  go_loopw [3, 4] (fun u i wr => ∃ k : Nat, k ≤ 5 ∧ i = .int .i64 k ∧ ∃ (va : Option Addr) (m vc : Nat), u = .slice va m vc ∧ Hid (∃ (t' : Nat) (cs : List Co), m = cs.length ∧ DcS w v wr SB ca cn cc t' va vc cs ∧ t' + 28 * k ≤ t + 141)) (fun _ i _ => (intOf i).toNat)
  case atStart => exact ⟨k2, by omega, rfl, some ⟨v.heap.size, 0, none⟩, 0, 0, rfl, _, [], rfl, HD2.out, by omega⟩
  case round =>
    obtain ⟨k, hk, rfl, va, m, vc, rfl, HI⟩ := hrel
    obtain ⟨t', cs, hm, hD, htk⟩ := HI.out
    have HD : Hid (DcS w v wr SB ca cn cc t' va vc cs) := hD
    by_cases hk0 : 0 < k
    · obtain ⟨k', rfl⟩ : ∃ k', k = k' + 1 := ⟨k - 1, by omega⟩
      have hki : (0 : Int) < ((k' + 1 : Nat) : Int) := by omega
      have hx := l1Next_any SB cn cc t' ca l0 6 w wr (by omega) (by omega) hcn HBA.out hD.src
      subst hm
      clear HI hD
      go_wp2_with (first
        | (go_at_call 16; have hq := hx; clear hx; (with_reducible refine hq.mono ?_); clear hq; rintro e v3 ⟨r3, rfl, ⟨a3, b3⟩, hS3, hc3⟩; have b3' : r3 < 6 := b3 (by omega); clear b3; have hw3 := IntWalk.i64_in (1 + r3) (by omega); have HD3 : Hid (DcS w v v3 SB ca cn cc (t' + 1) va vc cs) := HD.out.draw hS3 hc3; have hx2 := l4DrawOuts_any SB cn cc (t' + 1) ca l0 w v3 (by omega) hcn HBA.out hS3; clear hS3 hc3)
        | (go_at_call 108; have hq := hx2; clear hx2; (with_reducible refine hq.mono ?_); clear hq; rintro e v4 ⟨os, oa, oc, t4, rfl, ho3, ht4, HO4⟩; have HD4 : Hid (DcS w v v4 SB ca cn cc t4 va vc cs) := HD3.out.draw HO4.out.src HO4.out.chg; have hx3 := l1Next_any SB cn cc t4 ca l0 6 w v4 (by omega) (by omega) hcn HBA.out HO4.out.src)
        | (go_at_call 16; have hq := hx3; clear hx3; (with_reducible refine hq.mono ?_); clear hq; rintro e v5 ⟨r5, rfl, ⟨a5, b5⟩, hS5, hc5⟩; have b5' : r5 < 6 := b5 (by omega); clear b5; have HD5 : Hid (DcS w v v5 SB ca cn cc (t4 + 1) va vc cs) := HD4.out.draw hS5 hc5; have HO5 : Hid (DoS w v3 v5 SB ca cn cc (t4 + 1) v4.heap.size oa oc os) := HO4.out.draw hS5 hc5; have hx4 := l1Chance_any SB cn cc (t4 + 1) ca l0 3 w v5 (by omega) (by omega) hcn HBA.out hS5; clear hS5 hc5)
        | (go_at_call 72; have hq := hx4; clear hx4; (with_reducible refine hq.mono ?_); clear hq; rintro e v6 ⟨r6, rfl, hS6, hc6⟩; have HD6 : Hid (DcS w v v6 SB ca cn cc (t4 + 1 + 1) va vc cs) := HD5.out.draw hS6 hc6; have HO6 : Hid (DoS w v3 v6 SB ca cn cc (t4 + 1 + 1) v4.heap.size oa oc os) := HO5.out.draw hS6 hc6; have hlc := HD6.out.len; have hx5 := sPutCoins_any cs.length vc os.length oc va oa cs (1 + r3) r5 r6 os v6 (by omega) (fun j hj => by have := hlc.2 j hj; omega) (by omega) (fun j hj => by have := HO6.out.keys j hj; omega) HD6.out.at HO6.out.at; clear hS6 hc6)
        | (go_at_call 23; have hq := hx5; clear hx5; (with_reducible refine hq.mono ?_); clear hq; rintro e v7 ⟨u7, kv7, he7, hO7, hb7⟩; have hl7 := putR_len2 cs (1 + r3) r5 r6 os; obtain ⟨rs, hrs⟩ : ∃ rs, rs = (putR cs (1 + r3) os r5 r6).2 := ⟨_, rfl⟩; obtain ⟨cd, hcd⟩ : ∃ cd, cd = (putR cs (1 + r3) os r5 r6).1 := ⟨_, rfl⟩; rw [← hrs] at hO7 hl7; rw [← hcd] at he7; subst he7; clear hrs hcd; obtain ⟨ua, uc, hu, HP7, hbx7⟩ := put_box (cd := cd) HD6.out hO7 hb7 hl7; subst hu; obtain ⟨q0, q1⟩ := cells2 hbx7; clear hO7 hb7 hbx7 hl7))
      · go_roundw
        case rel => exact ⟨k', by omega, by go_num, ua, rs.length, uc, rfl, _, rs, rfl, HP7.out.2, by omega⟩
        case measure => simp [intOf]
      · go_roundw
        case rel => exact ⟨k', by omega, by go_num, va, cs.length, vc, rfl, _, cs, rfl, HP7.out.1, by omega⟩
        case measure => simp [intOf]
    · obtain rfl : k = 0 := by omega
      subst hm
      go_wp2
      go_ret
      exact ⟨cs, va, _, vc, t', rfl, rfl, by omega, HD.out⟩

end Go.Proofs.YthjolannlefbcaaGreatDoor
