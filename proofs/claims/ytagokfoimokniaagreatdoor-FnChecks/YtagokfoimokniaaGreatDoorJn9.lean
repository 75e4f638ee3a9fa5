/- The specification's PutCoins. The specification's PutCoins keeps its contract. Coins that are drawn right, in memory of their own. The specification's l5Tx keeps its contract. The specification's copy of a ledger whose slices may be nil. The specification's NoteText on a ledger whose slices may be nil. What the specification's SignId answers. The specification's SignId on a ledger whose slices may be nil. The ledgers that are drawn. A right ledger is drawn. A ledger is drawn, right or wrong. -/
import Derived.Test.YtagokfoimokniaaGreatDoorJn8
import Derived.Deep.DeepCutAuto
import Derived.Test.YtagokfoimokniaaGreatDoorJn6
import Derived.Test.YtagokfoimokniaaGreatDoorJn7
import Derived.Test.YtagokfoimokniaaGreatDoorJn2
import Derived.Test.YtagokfoimokniaaGreatDoorJn1
import Derived.Laws.OwnMore
import Derived.Deep.RegionWith
import Derived.Test.YtagokfoimokniaaGreatDoorJn5
namespace Go.Proofs.YtagokfoimokniaaGreatDoor
open Go.RowKit Go.Maps Go.WideMaps

theorem addC_len {x : Co} : ∀ {ts : List Co}, (addC ts x).length = ts.length + 1
  | [] => rfl
  | a :: l => by
    unfold addC
    by_cases e : cmpR (a.p, a.q) (x.p, x.q) < 0
    · rw [if_pos e, List.length_cons, addC_len, List.length_cons]
    · rw [if_neg e]; rfl
theorem addCs_succ (cs : List Co) (t h : Int) (m : Bool) (os : List Ou) (k : Nat) : addCs cs (newCs t h m os (k + 1)) = addC (addCs cs (newCs t h m os k)) (newC t h m (os.getD k O0) k) := by
  rw [newCs_succ]
  unfold addCs
  rw [List.foldl_append]
  rfl
theorem addCs_len (cs : List Co) (t h : Int) (m : Bool) (os : List Ou) : ∀ k, (addCs cs (newCs t h m os k)).length = cs.length + k
  | 0 => rfl
  | k + 1 => by rw [addCs_succ, addC_len, addCs_len]; rfl
theorem addCs_lens {cs : List Co} {t h : Int} {m : Bool} {os : List Ou} {k : Nat} (hk : k ≤ os.length) (h1 : ∀ c ∈ cs, coinR c = 0) (h2 : ∀ o ∈ os, 1 ≤ o.l.length ∧ o.l.length ≤ 3) : ∀ j, j < cs.length + k → ((addCs cs (newCs t h m os k)).getD j C0).l.length ≤ 3 := fun j hj => by
  have hm : (addCs cs (newCs t h m os k)).getD j C0 ∈ addCs cs (newCs t h m os k) := get_mem (addCs_len cs t h m os k) hj
  rw [addCs_mem, List.mem_append] at hm
  rcases hm with hm | hm
  · exact (coin_more (h1 _ hm)).2.2.2
  · obtain ⟨i, hi, e⟩ := List.mem_map.1 hm
    rw [← e]
    have hi' := List.mem_range.1 hi
    refine (h2 (os.getD i O0) ?_).2
    rw [List.getD, List.getElem?_eq_getElem (by omega)]
    exact List.getElem_mem _

set_option maxHeartbeats 1000000 in
theorem l4Copy0_any (c : Nat) (a : Option Addr) (w : World) :
    Calls Tryz.prog 119 #[.slice a 0 c] w fun e w' => e = .returned (.slice (some ⟨w.heap.size, 0, none⟩) 0 0) ∧ w' = w.alloc (.cells #[] 54) := by
  go_enter Tryz.func119, Tryz.ntmps119
  go_wp2
  refine wp_loop_rounds 1 ?_
  rw [rounds_succ]
  go_wp2
  go_ret
  exact ⟨rfl, rfl⟩
theorem l4CopyS_any (n c : Nat) (a : Option Addr) (cs : List Co) (w : World) (hn : n ≤ 40) (hk : ∀ j, j < n → coinR (cs.getD j C0) = 0) (hC : CAt w a n cs) :
    Calls Tryz.prog 119 #[.slice a n c] w fun e w' => ∃ g uc, e = .returned (.slice (some ⟨g, 0, none⟩) n uc) ∧ Hid (∃ kv, COwn w' w.heap.size w'.heap.size (.slice (some ⟨g, 0, none⟩) n uc) n (fun j => cs.getD j C0) kv) ∧ Hid (Below w.heap.size w w') := by
  by_cases h0 : n = 0
  · subst h0
    refine (l4Copy0_any c a w).mono fun e w' ⟨h1, h2⟩ => ?_
    subst h2
    refine ⟨w.heap.size, 0, h1, ⟨fun _ => .slice none 0 0, ⟨[], own_empty (heap_alloc_new _ _) (Nat.le_refl _), fun j hj => (by omega)⟩, fun b hb => ?_, fun j hj => (by omega), fun i j _ hj => (by omega)⟩, below_box _⟩
    have e : some w.heap.size = some b := hb
    cases e
    simp
  · refine (l4Copy_any n c a cs w (by omega) hk hC).mono fun e w' ⟨v, kv, h1, h2, h3⟩ => ?_
    obtain ⟨xs, q, _⟩ := h2.row
    rcases q.2 with ⟨_, e⟩ | ⟨g, cap, cur, e, _⟩
    · exact absurd e h0
    · subst e; exact ⟨g, cap, h1, ⟨kv, h2⟩, h3⟩

/-- An out of its own, in a block. -/
def PutMid (wr wc : World) (R : Nat) (ov : Int) (ol : List Int) (ox oy : Int) : Prop :=
  ∃ g gc, wc.heap[R]? = some (.cells #[.int .i64 ov, .slice (some ⟨g, 0, none⟩) ol.length gc, .int .i64 ox, .int .i64 oy] 52 (0, 0)) ∧ wc.ownsRow wr.heap.size 2 1 (.slice (some ⟨g, 0, none⟩) ol.length gc) ol.length (ints ol) ∧ Below wr.heap.size wr wc
theorem put_new {wr w2 : World} {g gc : Nat} {ov : Int} {ol : List Int} {ox oy : Int} (hb : Below wr.heap.size wr w2) (hr : w2.ownsRow wr.heap.size 2 1 (.slice (some ⟨g, 0, none⟩) ol.length gc) ol.length (ints ol)) :
    PutMid wr (w2.alloc (.cells #[.int .i64 ov, .slice (some ⟨g, 0, none⟩) ol.length gc, .int .i64 ox, .int .i64 oy] 52)) w2.heap.size ov ol ox oy :=
  ⟨g, gc, heap_alloc_new _ _, hr.alloc _, hb.trans ((below_box _).mono hb.size)⟩
theorem put_set {wr w2 : World} {R g gc : Nat} {ov : Int} {ol : List Int} {ox oy : Int} (hR : R = wr.heap.size) (hX : w2.heap[R]? = some (.cells #[.int .i64 0, .slice none 0 0, .int .i64 0, .int .i64 0] 52 (0, 0))) (hb : Below wr.heap.size wr w2) (hr : w2.ownsRow (wr.heap.size + 1) 2 1 (.slice (some ⟨g, 0, none⟩) ol.length gc) ol.length (ints ol)) :
    PutMid wr ((((w2.setCell ⟨R, 0, none⟩ (.int .i64 ov)).setCell ⟨R, 1, none⟩ (.slice (some ⟨g, 0, none⟩) ol.length gc)).setCell ⟨R, 2, none⟩ (.int .i64 ox)).setCell ⟨R, 3, none⟩ (.int .i64 oy)) R ov ol ox oy := by
  subst hR
  have s1 := Joins.block_setCell (i := 0) hX (.int .i64 ov)
  have s2 := Joins.block_setCell (i := 1) s1 (.slice (some ⟨g, 0, none⟩) ol.length gc)
  have s3 := Joins.block_setCell (i := 2) s2 (.int .i64 ox)
  have s4 := Joins.block_setCell (i := 3) s3 (.int .i64 oy)
  have st : ∀ (W : World) (i : Nat) (u : Value), W.ownsRow (wr.heap.size + 1) 2 1 (.slice (some ⟨g, 0, none⟩) ol.length gc) ol.length (ints ol) → (W.setCell ⟨wr.heap.size, i, none⟩ u).ownsRow (wr.heap.size + 1) 2 1 (.slice (some ⟨g, 0, none⟩) ol.length gc) ol.length (ints ol) := fun W i u hW => ownsRow_setCell_below hW (a := ⟨wr.heap.size, i, none⟩) (show wr.heap.size < _ by omega) u
  refine ⟨g, gc, by simpa using s4, Joins.ownsRow_le (st _ _ _ (st _ _ _ (st _ _ _ (st _ _ _ hr)))) (by omega), ?_⟩
  exact (((hb.setCell (p := ⟨wr.heap.size, 0, none⟩) (Nat.le_refl _) _).setCell (p := ⟨wr.heap.size, 1, none⟩) (Nat.le_refl _) _).setCell (p := ⟨wr.heap.size, 2, none⟩) (Nat.le_refl _) _).setCell (p := ⟨wr.heap.size, 3, none⟩) (Nat.le_refl _) _

theorem keepS1 {W : World} {b i R k : Nat} {v u : Value} (h : W.cell? ⟨b, i, none⟩ = some v) (hne : b < R) : (W.setCell ⟨R, k, none⟩ u).cell? ⟨b, i, none⟩ = some v :=
  (World.cell?_of_block (Below.heap_setCell W ⟨R, k, none⟩ u b (show b ≠ R by omega))).trans h
theorem keepS4 {W : World} {b i R : Nat} {v u0 u1 u2 u3 : Value} (h : W.cell? ⟨b, i, none⟩ = some v) (hne : b < R) : ((((W.setCell ⟨R, 0, none⟩ u0).setCell ⟨R, 1, none⟩ u1).setCell ⟨R, 2, none⟩ u2).setCell ⟨R, 3, none⟩ u3).cell? ⟨b, i, none⟩ = some v := by
  have h1 := keepS1 (k := 0) (u := u0) h hne
  have h2 := keepS1 (k := 1) (u := u1) h1 hne
  have h3 := keepS1 (k := 2) (u := u2) h2 hne
  exact keepS1 (k := 3) (u := u3) h3 hne

set_option maxRecDepth 20000 in
set_option maxHeartbeats 8000000 in
theorem l4Put_any (n c n2 c2 : Nat) (a a2 : Option Addr) (cs : List Co) (t h : Int) (m : Bool) (os : List Ou) (w : World) (hn : n ≤ 40) (hok : ∀ c ∈ cs, coinR c = 0) (hn2 : n2 ≤ 4) (hos : ∀ o ∈ os, 1 ≤ o.l.length ∧ o.l.length ≤ 3) (hC : CAt w a n cs) (hO : OAt w a2 n2 os) :
    Calls Tryz.prog 146 #[.slice a n c, .int .i64 t, .slice a2 n2 c2, .int .i64 h, .bool m] w fun e w' => AddO w w' e w.heap.size (n + n2) (addCs cs (newCs t h m os n2)) := by
  have hcp := l4CopyS_any n c a cs w hn (fun j hj => hok _ (get_mem hC.1 hj)) hC
  have HOK : Hid (∀ c ∈ cs, coinR c = 0) := hok
  have HOS : Hid (∀ o ∈ os, 1 ≤ o.l.length ∧ o.l.length ≤ 3) := hos
  have HCL : Hid (cs.length = n) := hC.1
  have HOL : Hid (os.length = n2) := hO.1
  have HOO : Hid (OAt w a2 n2 os) := hO
  clear hok hos hC hO
  go_enter Tryz.func146, Tryz.ntmps146
  go_wp2_with (first
    | (go_at_call 119; (with_reducible refine hcp.mono ?_); clear hcp; rintro e w1 ⟨g0, u0, rfl, HO1, HB1⟩))
  go_loopw [11, 12] (fun v i wr => ∃ j : Nat, j ≤ n2 ∧ i = .int .i64 j ∧ Below w.heap.size w wr ∧ ∃ g uc, v = .slice (some ⟨g, 0, none⟩) (n + j) uc ∧ Hid (∃ kv, COwn wr w.heap.size wr.heap.size (.slice (some ⟨g, 0, none⟩) (n + j) uc) (n + j) (fun q => (addCs cs (newCs t h m os j)).getD q C0) kv)) (fun _ i _ => n2 - (intOf i).toNat)
  case atStart => exact ⟨0, Nat.zero_le _, rfl, HB1.out, g0, u0, rfl, HO1.out⟩
  case round =>
    obtain ⟨j, hj, rfl, hbel, g, uc, rfl, HM⟩ := hrel
    by_cases hlt : j < n2
    · rcases HOO.out.2 with h0 | ⟨b, off, e0, l0, d0⟩
      · omega
      subst e0
      obtain ⟨o, ho⟩ : ∃ o, o = os.getD j O0 := ⟨_, rfl⟩
      obtain ⟨ka, kn, kc, p0, p1, p2, p3, p4, p5⟩ := d0 j hlt
      have hom := HOS.out o (by rw [ho, List.getD, List.getElem?_eq_getElem (by rw [HOL.out]; exact hlt)]; exact List.getElem_mem _)
      rw [← ho] at p0 p2 p3 p5
      have HS : Hid (o = os.getD j O0) := ho
      obtain ⟨ov, ol, ox, oy⟩ := o
      simp only at p0 p2 p3 p5 hom
      obtain rfl := p5.1
      rcases p5.2 with h0 | ⟨kb, ko, ek, hkl, _⟩
      · omega
      subst ek
      have x0 := (hbel.cell (p := ⟨b, off + j * 4, none⟩) l0).trans p0
      have x1 := (hbel.cell (p := ⟨b, off + j * 4 + 1, none⟩) l0).trans p1
      have x2 := (hbel.cell (p := ⟨b, off + j * 4 + 2, none⟩) l0).trans p2
      have x3 := (hbel.cell (p := ⟨b, off + j * 4 + 3, none⟩) l0).trans p3
      have hlw : b < wr.heap.size := Nat.lt_of_lt_of_le l0 hbel.size
      have hki : (j : Int) < (n2 : Int) := by omega
      have HI : Hid (IAt wr (some ⟨kb, ko, none⟩) ol.length ol) := p5.below hbel (Nat.le_refl _)
      have hL2 : ∀ W, Below wr.heap.size wr W → Calls Tryz.prog 149 #[.agg #[.slice (some ⟨kb, ko, none⟩) ol.length kc, .int .i64 ox, .int .i64 oy]] W fun e w' => ∃ g c, e = .returned (.agg #[.slice (some ⟨g, 0, none⟩) ol.length c, .int .i64 ox, .int .i64 oy]) ∧ Hid (w'.ownsRow W.heap.size 2 1 (.slice (some ⟨g, 0, none⟩) ol.length c) ol.length (ints ol)) ∧ Hid (Below W.heap.size W w') ∧ Hid (Below wr.heap.size wr w') := fun W hW =>
        (l2Copy_any kb ko ol.length kc ol ox oy W (by omega) (HI.out.below hW (Nat.le_refl _))).mono fun e w' ⟨g, c, q1, q2, q3⟩ => ⟨g, c, q1, Joins.ownsRow_le q2 (by omega), q3, hW.trans (q3.mono hW.size)⟩
      have bz0 : Below wr.heap.size wr wr.drew := (Below.refl _ _).drew
      have bz1 : Below wr.heap.size wr (wr.alloc (.cells #[.int .i64 0, .slice none 0 0, .int .i64 0, .int .i64 0] 52)).drew := (below_box _).trans ((Below.refl _ _).drew)
      have HZ0 : Hid ((wr.alloc (.cells #[.int .i64 0, .slice none 0 0, .int .i64 0, .int .i64 0] 52)).drew.heap[wr.heap.size]? = some (.cells #[.int .i64 0, .slice none 0 0, .int .i64 0, .int .i64 0] 52 (0, 0))) := heap_alloc_new _ _
      have hzs : (wr.alloc (.cells #[.int .i64 0, .slice none 0 0, .int .i64 0, .int .i64 0] 52)).drew.heap.size = wr.heap.size + 1 := by simp
      have HZS : Hid ((wr.alloc (.cells #[.int .i64 0, .slice none 0 0, .int .i64 0, .int .i64 0] 52)).drew.heap.size = wr.heap.size + 1) := hzs
      clear d0 ho p0 p1 p2 p3 p4 p5 hzs
      go_wp2
      go_cut [13] (fun s wc => ∃ R, s = .pointer (some ⟨R, 0, none⟩) ∧ Hid (PutMid wr wc R ov ol ox oy))
      case first =>
        go_region_held3 (fun w' => w'.cell? ⟨b, off + j * 4, none⟩ = some (.int .i64 ov) ∧ w'.cell? ⟨b, off + j * 4 + 1, none⟩ = some (.slice (some ⟨kb, ko, none⟩) ol.length kc) ∧ w'.cell? ⟨b, off + j * 4 + 2, none⟩ = some (.int .i64 ox) ∧ w'.cell? ⟨b, off + j * 4 + 3, none⟩ = some (.int .i64 oy)) (first | go_keep | exact ⟨keepS4 z0 hlw, keepS4 z1 hlw, keepS4 z2 hlw, keepS4 z3 hlw⟩)
          (first
            | (go_at_call 149; (first
                | ((with_reducible refine (hL2 wr.drew bz0).mono ?_); rintro e w2 ⟨g2, gc2, rfl, HROW, _, HB2⟩; have z0 := (HB2.out.cell (p := ⟨b, off + j * 4, none⟩) hlw).trans x0; have z1 := (HB2.out.cell (p := ⟨b, off + j * 4 + 1, none⟩) hlw).trans x1; have z2 := (HB2.out.cell (p := ⟨b, off + j * 4 + 2, none⟩) hlw).trans x2; have z3 := (HB2.out.cell (p := ⟨b, off + j * 4 + 3, none⟩) hlw).trans x3)
                | ((with_reducible refine (hL2 (wr.alloc (.cells #[.int .i64 0, .slice none 0 0, .int .i64 0, .int .i64 0] 52)).drew bz1).mono ?_); rintro e w2 ⟨g2, gc2, rfl, HROW, HBZ, HB2⟩; have HZ2 := keepb HZ0.out HBZ.out; obtain ⟨y0, y1, y2, y3, f0, f1, f2, f3⟩ := cells4 HZ2.out; have z0 := (HB2.out.cell (p := ⟨b, off + j * 4, none⟩) hlw).trans x0; have z1 := (HB2.out.cell (p := ⟨b, off + j * 4 + 1, none⟩) hlw).trans x1; have z2 := (HB2.out.cell (p := ⟨b, off + j * 4 + 2, none⟩) hlw).trans x2; have z3 := (HB2.out.cell (p := ⟨b, off + j * 4 + 3, none⟩) hlw).trans x3))))
        all_goals
          go_wp2
          go_meet
          first
            | exact ⟨_, rfl, put_set rfl HZ2.out HB2.out (by rw [← HZS.out]; exact HROW.out)⟩
            | exact ⟨_, rfl, put_new HB2.out HROW.out⟩
      case rest =>
        obtain ⟨R, rfl, HMID⟩ := hcut
        obtain ⟨g2, gc2, hblk, hrow2, hb2⟩ := HMID.out
        obtain ⟨kv, hO⟩ := HM.out
        have hs2 := hb2.size
        have hbl := hbel.size
        have HA := l4Add_any g (n + j) uc w.heap.size gc2 (some ⟨g2, 0, none⟩) (addCs cs (newCs t h m os j)) kv t (j : Int) ov ol ox oy h m wc (by rw [addCs_len, HCL.out]) (by omega) (fun q hq => by have := addCs_lens (t := t) (h := h) (m := m) (k := j) (by rw [HOL.out]; omega) HOK.out HOS.out q (by rw [HCL.out]; exact hq); omega) (by omega) ((hO.below hb2).mono hs2) (Joins.ownsRow_le hrow2 hbl) (fun i hi b' hb' e => by
          have h1 := (hO.keys i hi).2 b' hb'
          have h2 := (hrow2.lt b' e).1
          omega)
        obtain ⟨y0, y1, y2, y3, _⟩ := cells4 hblk
        have HBC : Hid (Below w.heap.size w wc) := hbel.trans (hb2.mono hbel.size)
        have HXT : Hid (addC (addCs cs (newCs t h m os j)) (⟨t, (j : Int), ov, ol, ox, oy, h, m⟩ : Co) = addCs cs (newCs t h m os (j + 1))) := by
          show _ = _
          rw [addCs_succ, ← HS.out]
          rfl
        clear hblk hrow2 hb2 hO HMID HM hs2 hbl hL2 bz0 bz1 x0 x1 x2 x3
        go_wp2_with (first
          | (go_at_call 165; (with_reducible refine HA.mono ?_); clear HA; rintro e w5 ⟨g5, c5, rfl, HO5, hb5⟩; have HB5 : Hid (Below w.heap.size w w5) := HBC.out.trans hb5; have HO5' : Hid (∃ kv, COwn w5 w.heap.size w5.heap.size (.slice (some ⟨g5, 0, none⟩) (n + j + 1) c5) (n + j + 1) (fun q => (addCs cs (newCs t h m os (j + 1))).getD q C0) kv) := (by rw [← HXT.out]; exact HO5); clear HO5 hb5))
        go_roundw
        case rel => exact ⟨j + 1, by omega, by go_num, HB5.out, g5, c5, rfl, HO5'.out⟩
        case measure => simp [intOf]; omega
    · obtain rfl : j = n2 := by omega
      have HFI : Hid (AddO w wr (.returned (.slice (some ⟨g, 0, none⟩) (n + j) uc)) w.heap.size (n + j) (addCs cs (newCs t h m os j))) := ⟨g, uc, rfl, HM.out, hbel⟩
      go_wp2
      go_ret
      exact HFI.out

end Go.Proofs.YtagokfoimokniaaGreatDoor

namespace Go.Proofs.YtagokfoimokniaaGreatDoor
open Go.RowKit Go.Maps Go.WideMaps

theorem out_coinsN {w W : World} {R lo N : Nat} {cs : List Co} {va : Option Addr} {vc : Nat} (hN : cs.length = N) (hR : w.heap.size ≤ R) (hlo : R < lo) (hb : Below w.heap.size w W) (hO : ∃ kv, COwn W lo W.heap.size (.slice va N vc) N (fun j => cs.getD j C0) kv) :
    OutCs w ((W.setCell ⟨R, 0, none⟩ (.int .i64 0)).setCell ⟨R, 1, none⟩ (.slice va N vc)) (.returned (.agg #[.int .i64 0, .slice va N vc])) 0 cs := by
  subst hN
  exact out_coins hR hlo hb hO
theorem outs_bad {o : Ou} {t : List Ou} {r : Int} (h : outR o.v o.l o.x o.y = r) (h0 : ¬ r = 0) : outsR (o :: t) = r := by
  unfold outR at h
  rw [outsR]
  by_cases h1 : inB o.v 1 1000000 = false
  · rw [if_pos h1] at h ⊢; exact h
  · rw [if_neg h1] at h ⊢; rw [h, if_pos h0]
theorem outs_go {o : Ou} {t : List Ou} (h : outR o.v o.l o.x o.y = 0) : outsR (o :: t) = outsR t := by
  unfold outR at h
  rw [outsR]
  by_cases h1 : inB o.v 1 1000000 = false
  · rw [if_pos h1] at h; cases h
  · rw [if_neg h1] at h ⊢; rw [h, if_neg (by simp)]
theorem putR_code {cs : List Co} {t h : Int} {m : Bool} {os : List Ou} {r : Int} (h0 : coinsR cs = 0) (hp : putsR cs.length (hasT cs t) t os h = r) (hr : ¬ r = 0) : putR cs t os h m = (r, []) := by
  unfold putR
  rw [if_neg (by simp [h0]), hp, if_pos hr]
theorem putR_ok {cs : List Co} {t h : Int} {m : Bool} {os : List Ou} (h0 : coinsR cs = 0) (hp : putsR cs.length (hasT cs t) t os h = 0) : putR cs t os h m = (0, addCs cs (newCs t h m os os.length)) := by
  unfold putR
  rw [if_neg (by simp [h0]), hp, if_neg (by simp)]
theorem puts_fault {n : Nat} {ti : Bool} {t h : Int} {os : List Ou} {r : Int} (hp : putFR t os h = r) (hr : ¬ r = 0) : putsR n ti t os h = r := by
  unfold putsR
  rw [hp, if_pos hr]
theorem puts_rest {n : Nat} {ti : Bool} {t h : Int} {os : List Ou} (hp : putFR t os h = 0) : putsR n ti t os h = if ti = true then 7 else if 40 < n + os.length then 2 else 0 := by
  unfold putsR
  rw [hp, if_neg (by simp)]
theorem putF_range {t h : Int} {os : List Ou} (hh : inB t 1 60 = false ∨ inB h 0 999 = false) : putFR t os h = 3 := by unfold putFR; rw [if_pos hh]
theorem putF_many {t h : Int} {os : List Ou} (hh : ¬ (inB t 1 60 = false ∨ inB h 0 999 = false)) (h4 : 4 < os.length) : putFR t os h = 2 := by unfold putFR; rw [if_neg hh, if_pos h4]
theorem putF_outs {t h : Int} {os : List Ou} (hh : ¬ (inB t 1 60 = false ∨ inB h 0 999 = false)) (h4 : ¬ 4 < os.length) : putFR t os h = outsR os := by unfold putFR; rw [if_neg hh, if_neg h4]

set_option maxRecDepth 20000 in
set_option maxHeartbeats 8000000 in
theorem sPutCoins_any (n c n2 c2 : Nat) (a a2 : Option Addr) (cs : List Co) (t h : Int) (m : Bool) (os : List Ou) (w : World) (hn : n ≤ 1048576) (hk : ∀ j, j < n → (cs.getD j C0).l.length ≤ 1048576) (hn2 : n2 ≤ 1048576) (hk2 : ∀ j, j < n2 → (os.getD j O0).l.length ≤ 1048576) (hC : CAt w a n cs) (hO : OAt w a2 n2 os) :
    Calls Tryz.prog 100 #[.slice a n c, .int .i64 t, .slice a2 n2 c2, .int .i64 h, .bool m] w fun e w' => OutCs w w' e (putR cs t os h m).1 (putR cs t os h m).2 := by
  have hbx : Below w.heap.size w (w.alloc (.cells #[.int .i64 0, .slice none 0 0] 39)) := below_box _
  have hF := l4Fault_any n c a cs (w.alloc (.cells #[.int .i64 0, .slice none 0 0] 39)) hn hk (hC.below hbx (Nat.le_refl _))
  have HBX : Hid (Below w.heap.size w (w.alloc (.cells #[.int .i64 0, .slice none 0 0] 39))) := hbx
  have T1 : Hid ((w.alloc (.cells #[.int .i64 0, .slice none 0 0] 39)).heap[w.heap.size]? = some (.cells #[.int .i64 0, .slice none 0 0] 39 (0, 0))) := heap_alloc_new _ _
  have HC : Hid (CAt w a n cs) := hC
  have HO : Hid (OAt w a2 n2 os) := hO
  have HCL : Hid (cs.length = n) := hC.1
  have HOL : Hid (os.length = n2) := hO.1
  have HK2 : Hid (∀ j, j < n2 → (os.getD j O0).l.length ≤ 1048576) := hk2
  obtain ⟨cd, hcd⟩ : ∃ r, r = coinsR cs := ⟨_, rfl⟩
  rw [← hcd] at hF
  clear hbx hk hk2
  by_cases h0 : cd = 0
  · subst h0
    obtain ⟨h40, hok, hri⟩ := coins_rise hcd.symm
    rw [hC.1] at h40
    have HCD : Hid (coinsR cs = 0) := hcd.symm
    have HOK : Hid (∀ c ∈ cs, coinR c = 0) := hok
    obtain ⟨kt, hkt⟩ : ∃ k, k = inB t 1 60 := ⟨_, rfl⟩
    obtain ⟨kh, hkh⟩ : ∃ k, k = inB h 0 999 := ⟨_, rfl⟩
    have hin : ∀ u, Calls Tryz.prog 60 #[.int .i64 t, .int .i64 1, .int .i64 60] u fun e w' => e = .returned (.bool kt) ∧ w' = u := fun u => by rw [hkt]; exact l1In_any _ _ _ u
    have hht : ∀ v, Calls Tryz.prog 29 #[.int .i64 h] v fun e w' => e = .returned (.bool kh) ∧ w' = v := fun v => by rw [hkh]; exact l2Height_any _ v
    have HKT : Hid (kt = inB t 1 60) := hkt
    have HKH : Hid (kh = inB h 0 999) := hkh
    clear hcd hC hO hok hri hkt hkh
    cases kt
    · rw [putR_code HCD.out (puts_fault (putF_range (.inl HKT.out.symm)) (by simp)) (by simp)]
      go_enter Tryz.func100, Tryz.ntmps100
      go_wp2_with (first | (go_at_call 27; (with_reducible refine hF.mono ?_); clear hF; rintro e w2 ⟨rfl, hb2⟩; have HT1 := keepb T1.out hb2; have HB2 : Hid (Below w.heap.size w w2) := HBX.out.trans (hb2.mono HBX.out.size); obtain ⟨y0, y1⟩ := cells2 HT1.out; have f0 := Joins.unfrozen_of_block HT1.out 0; have f1 := Joins.unfrozen_of_block HT1.out 1; clear hb2) | (go_at_call 60; (with_reducible refine (hin _).mono ?_); rintro e w' ⟨rfl, hw⟩; have hw2 := hw.symm; subst hw2; clear hw))
      obtain ⟨_, j1⟩ := two_set HT1.out (.int .i64 3) (.slice none 0 0)
      exact bodyPost_ret (v := .agg #[.int .i64 3, .slice none 0 0]) (by simp [results, Tryz.results100, go_sem, j1]) rfl (out_code (Nat.le_refl _) HB2.out)
    cases kh
    · rw [putR_code HCD.out (puts_fault (putF_range (.inr HKH.out.symm)) (by simp)) (by simp)]
      go_enter Tryz.func100, Tryz.ntmps100
      go_wp2_with (first | (go_at_call 27; (with_reducible refine hF.mono ?_); clear hF; rintro e w2 ⟨rfl, hb2⟩; have HT1 := keepb T1.out hb2; have HB2 : Hid (Below w.heap.size w w2) := HBX.out.trans (hb2.mono HBX.out.size); obtain ⟨y0, y1⟩ := cells2 HT1.out; have f0 := Joins.unfrozen_of_block HT1.out 0; have f1 := Joins.unfrozen_of_block HT1.out 1; clear hb2) | (go_at_call 60; (with_reducible refine (hin _).mono ?_); rintro e w' ⟨rfl, hw⟩; have hw2 := hw.symm; subst hw2; clear hw) | (go_at_call 29; (with_reducible refine (hht _).mono ?_); rintro e w' ⟨rfl, hw⟩; have hw2 := hw.symm; subst hw2; clear hw))
      obtain ⟨_, j1⟩ := two_set HT1.out (.int .i64 3) (.slice none 0 0)
      exact bodyPost_ret (v := .agg #[.int .i64 3, .slice none 0 0]) (by simp [results, Tryz.results100, go_sem, j1]) rfl (out_code (Nat.le_refl _) HB2.out)
    have HRA : Hid (¬ (inB t 1 60 = false ∨ inB h 0 999 = false)) := by
      rintro (q | q)
      · rw [← HKT.out] at q; cases q
      · rw [← HKH.out] at q; cases q
    by_cases h4 : 4 < n2
    · rw [putR_code HCD.out (puts_fault (putF_many HRA.out (by rw [HOL.out]; exact h4)) (by simp)) (by simp)]
      have h4i : (4 : Int) < (n2 : Int) := by omega
      go_enter Tryz.func100, Tryz.ntmps100
      go_wp2_with (first | (go_at_call 27; (with_reducible refine hF.mono ?_); clear hF; rintro e w2 ⟨rfl, hb2⟩; have HT1 := keepb T1.out hb2; have HB2 : Hid (Below w.heap.size w w2) := HBX.out.trans (hb2.mono HBX.out.size); obtain ⟨y0, y1⟩ := cells2 HT1.out; have f0 := Joins.unfrozen_of_block HT1.out 0; have f1 := Joins.unfrozen_of_block HT1.out 1; clear hb2) | (go_at_call 60; (with_reducible refine (hin _).mono ?_); rintro e w' ⟨rfl, hw⟩; have hw2 := hw.symm; subst hw2; clear hw) | (go_at_call 29; (with_reducible refine (hht _).mono ?_); rintro e w' ⟨rfl, hw⟩; have hw2 := hw.symm; subst hw2; clear hw))
      obtain ⟨_, j1⟩ := two_set HT1.out (.int .i64 2) (.slice none 0 0)
      exact bodyPost_ret (v := .agg #[.int .i64 2, .slice none 0 0]) (by simp [results, Tryz.results100, go_sem, j1]) rfl (out_code (Nat.le_refl _) HB2.out)
    have h4i : ¬ (4 : Int) < (n2 : Int) := by omega
    have HPF : Hid (putFR t os h = outsR os) := putF_outs HRA.out (by rw [HOL.out]; exact h4)
    obtain ⟨rc, hrc⟩ : ∃ x, x = (putR cs t os h m).1 := ⟨_, rfl⟩
    obtain ⟨rr, hrr⟩ : ∃ x, x = (putR cs t os h m).2 := ⟨_, rfl⟩
    rw [← hrc, ← hrr]
    have HRC : Hid (rc = (putR cs t os h m).1) := hrc
    have HRR : Hid (rr = (putR cs t os h m).2) := hrr
    obtain ⟨r1, hr1⟩ : ∃ r, r = outsR os := ⟨_, rfl⟩
    have HR1 : Hid (r1 = outsR os) := hr1
    obtain ⟨ht, hht'⟩ : ∃ k, k = hasT cs t := ⟨_, rfl⟩
    have HHT : Hid (ht = hasT cs t) := hht'
    have HOF : Hid (∀ W, Below w.heap.size w W → Calls Tryz.prog 145 #[.slice a n c, .int .i64 t] W fun e w' => e = .returned (.bool ht) ∧ w' = W) := fun W hW => by rw [HHT.out]; exact l4Of_any n c a cs t W hn (HC.out.below hW (Nat.le_refl _))
    clear hrc hrr hr1 hht'
    go_enter Tryz.func100, Tryz.ntmps100
    go_wp2_with (first | (go_at_call 27; (with_reducible refine hF.mono ?_); clear hF; rintro e w2 ⟨rfl, hb2⟩; have HT1 := keepb T1.out hb2; have HB2 : Hid (Below w.heap.size w w2) := HBX.out.trans (hb2.mono HBX.out.size); obtain ⟨y0, y1⟩ := cells2 HT1.out; have f0 := Joins.unfrozen_of_block HT1.out 0; have f1 := Joins.unfrozen_of_block HT1.out 1; clear hb2) | (go_at_call 60; (with_reducible refine (hin _).mono ?_); rintro e w' ⟨rfl, hw⟩; have hw2 := hw.symm; subst hw2; clear hw) | (go_at_call 29; (with_reducible refine (hht _).mono ?_); rintro e w' ⟨rfl, hw⟩; have hw2 := hw.symm; subst hw2; clear hw))
    clear y0 y1 f0 f1 hin hht
    go_loopw [12] (fun i wr => ∃ j : Nat, j ≤ n2 ∧ i = .int .i64 j ∧ Below w2.heap.size w2 wr ∧ Hid (r1 = outsR (os.drop j))) (fun i _ => n2 - (intOf i).toNat)
    case atStart => exact ⟨0, Nat.zero_le _, rfl, Below.refl _ _, HR1.out⟩
    case round =>
      obtain ⟨j, hj, rfl, hbel, HT⟩ := hrel
      have HB3 : Hid (Below w.heap.size w wr) := HB2.out.trans (hbel.mono HB2.out.size)
      have HT3 := keepb HT1.out hbel
      by_cases hlt : j < n2
      · rcases HO.out.2 with h0 | ⟨b, off, e0, l0, d0⟩
        · omega
        subst e0
        obtain ⟨o, ho⟩ : ∃ o, o = os.getD j O0 := ⟨_, rfl⟩
        obtain ⟨ka, kn, kc, p0, p1, p2, p3, p4, p5⟩ := d0 j hlt
        have hol := HK2.out j hlt
        rw [← ho] at p0 p2 p3 p5 hol
        have HNX : Hid (os.drop j = o :: os.drop (j + 1)) := drop_next HOL.out hlt ho
        obtain ⟨ov, ol, ox, oy⟩ := o
        simp only at p0 p2 p3 p5 hol
        obtain rfl := p5.1
        have x0 := (HB3.out.cell (p := ⟨b, off + j * 4, none⟩) l0).trans p0
        have x1 := (HB3.out.cell (p := ⟨b, off + j * 4 + 1, none⟩) l0).trans p1
        have x2 := (HB3.out.cell (p := ⟨b, off + j * 4 + 2, none⟩) l0).trans p2
        have x3 := (HB3.out.cell (p := ⟨b, off + j * 4 + 3, none⟩) l0).trans p3
        have hlw : b < wr.heap.size := Nat.lt_of_lt_of_le l0 HB3.out.size
        have hlo := l4Out_any b (off + j * 4) ol.length kc ka ov ol ox oy wr hol (p5.below HB3.out (Nat.le_refl _)) hlw x0 x1 x2 x3
        obtain ⟨cx, hcx⟩ : ∃ c, c = outR ov ol ox oy := ⟨_, rfl⟩
        rw [← hcx] at hlo
        have HCX : Hid (outR ov ol ox oy = cx) := hcx.symm
        have hki : (j : Int) < (n2 : Int) := by omega
        clear d0 ho p0 p1 p2 p3 p4 p5 hcx x0 x1 x2 x3 hlw hol
        by_cases hc0 : cx = 0
        · have HTN : Hid (r1 = outsR (os.drop (j + 1))) := by
            show _ = _
            rw [HT.out, HNX.out]
            exact outs_go (HCX.out.trans hc0)
          subst hc0
          go_wp2_with (first | (go_at_call 63; (with_reducible refine hlo.mono ?_); clear hlo; rintro e w4 ⟨rfl, hb4⟩))
          go_roundw
          case rel => exact ⟨j + 1, by omega, by go_num, hbel.trans (hb4.mono hbel.size), HTN⟩
          case measure => simp [intOf]; omega
        · have hr : putR cs t os h m = (cx, []) := putR_code HCD.out (puts_fault (HPF.out.trans (HR1.out.symm.trans (HT.out.trans (by rw [HNX.out]; exact outs_bad HCX.out hc0)))) hc0) hc0
          obtain rfl : cx = rc := by rw [HRC.out, hr]
          obtain rfl : rr = [] := by rw [HRR.out, hr]
          clear hr
          go_wp2_with (first | (go_at_call 63; (with_reducible refine hlo.mono ?_); clear hlo; rintro e w4 ⟨rfl, hb4⟩; have HT4 := keepb HT3.out hb4; have HB4 : Hid (Below w.heap.size w w4) := HB3.out.trans (hb4.mono HB3.out.size); obtain ⟨y0, y1⟩ := cells2 HT4.out; have f0 := Joins.unfrozen_of_block HT4.out 0; have f1 := Joins.unfrozen_of_block HT4.out 1; clear hb4))
          obtain ⟨_, j1⟩ := two_set HT4.out (.int .i64 cx) (.slice none 0 0)
          exact bodyPost_ret (v := .agg #[.int .i64 cx, .slice none 0 0]) (by simp [results, Tryz.results100, go_sem, j1]) rfl (out_code (Nat.le_refl _) HB4.out)
      · have HRZ : Hid (outsR os = 0) := by
          show _ = _
          rw [← HR1.out, HT.out, List.drop_eq_nil_of_le (by rw [HOL.out]; omega)]; rfl
        have hki : ¬ (j : Int) < (n2 : Int) := by omega
        obtain ⟨y0, y1⟩ := cells2 HT3.out
        have f0 := Joins.unfrozen_of_block HT3.out 0
        have f1 := Joins.unfrozen_of_block HT3.out 1
        have HRE : Hid (putsR cs.length (hasT cs t) t os h = if ht = true then 7 else if 40 < n + n2 then 2 else 0) := by
          show _ = _
          rw [puts_rest (HPF.out.trans HRZ.out), ← HHT.out, HCL.out, HOL.out]
        cases ht
        · by_cases h402 : 40 < n + n2
          · have hr : putR cs t os h m = (2, []) := putR_code HCD.out (HRE.out.trans (by rw [if_neg (by simp), if_pos h402])) (by simp)
            obtain rfl : rc = 2 := by rw [HRC.out, hr]
            obtain rfl : rr = [] := by rw [HRR.out, hr]
            have h40i : (40 : Int) < (n : Int) + (n2 : Int) := by omega
            clear hr
            go_wp2_with (first | (go_at_call 145; (with_reducible refine (HOF.out _ HB3.out).mono ?_); rintro e w' ⟨rfl, hw⟩; have hw2 := hw.symm; subst hw2; clear hw))
            obtain ⟨_, j1⟩ := two_set HT3.out (.int .i64 2) (.slice none 0 0)
            exact bodyPost_ret (v := .agg #[.int .i64 2, .slice none 0 0]) (by simp [results, Tryz.results100, go_sem, j1]) rfl (out_code (Nat.le_refl _) HB3.out)
          · have hr : putR cs t os h m = (0, addCs cs (newCs t h m os n2)) := by rw [putR_ok HCD.out (HRE.out.trans (by rw [if_neg (by simp), if_neg h402])), HOL.out]
            obtain rfl : rc = 0 := by rw [HRC.out, hr]
            have HRS : Hid (rr = addCs cs (newCs t h m os n2)) := by show _ = _; rw [HRR.out, hr]
            have HRL : Hid (rr.length = n + n2) := by show _ = _; rw [HRS.out, addCs_len, HCL.out]
            have h40i : ¬ (40 : Int) < (n : Int) + (n2 : Int) := by omega
            have HPU := l4Put_any n c n2 c2 a a2 cs t h m os wr h40 HOK.out (by omega) (outs_more HRZ.out) (HC.out.below HB3.out (Nat.le_refl _)) (HO.out.below HB3.out (Nat.le_refl _))
            clear hr
            go_wp2_with (first
              | (go_at_call 145; (with_reducible refine (HOF.out _ HB3.out).mono ?_); rintro e w' ⟨rfl, hw⟩; have hw2 := hw.symm; subst hw2; clear hw)
              | (go_at_call 146; (with_reducible refine HPU.mono ?_); clear HPU; rintro e w5 ⟨g5, c5, rfl, HO5, hb5⟩; have HO5' : Hid (∃ kv, COwn w5 wr.heap.size w5.heap.size (.slice (some ⟨g5, 0, none⟩) (n + n2) c5) (n + n2) (fun q => rr.getD q C0) kv) := (by rw [HRS.out]; exact HO5); have HT5 := keepb HT3.out hb5; have HB5 : Hid (Below w.heap.size w w5) := HB3.out.trans (hb5.mono HB3.out.size); clear y0 y1 f0 f1 HO5 hb5; obtain ⟨y0, y1⟩ := cells2 HT5.out; have f0 := Joins.unfrozen_of_block HT5.out 0; have f1 := Joins.unfrozen_of_block HT5.out 1))
            obtain ⟨_, j1⟩ := two_set HT5.out (.int .i64 0) (.slice (some ⟨g5, 0, none⟩) (n + n2) c5)
            exact bodyPost_ret (v := .agg #[.int .i64 0, .slice (some ⟨g5, 0, none⟩) (n + n2) c5]) (by simp [results, Tryz.results100, go_sem, j1]) rfl (out_coinsN HRL.out (Nat.le_refl _) (lt_of_block HT3.out) HB5.out HO5'.out)
        · have hr : putR cs t os h m = (7, []) := putR_code HCD.out (HRE.out.trans (by rw [if_pos rfl])) (by simp)
          obtain rfl : rc = 7 := by rw [HRC.out, hr]
          obtain rfl : rr = [] := by rw [HRR.out, hr]
          clear hr
          go_wp2_with (first | (go_at_call 145; (with_reducible refine (HOF.out _ HB3.out).mono ?_); rintro e w' ⟨rfl, hw⟩; have hw2 := hw.symm; subst hw2; clear hw))
          obtain ⟨_, j1⟩ := two_set HT3.out (.int .i64 7) (.slice none 0 0)
          exact bodyPost_ret (v := .agg #[.int .i64 7, .slice none 0 0]) (by simp [results, Tryz.results100, go_sem, j1]) rfl (out_code (Nat.le_refl _) HB3.out)
  · have hr : putR cs t os h m = (cd, []) := by unfold putR; rw [← hcd, if_pos h0]
    rw [hr]
    clear hr hcd hC hO
    go_enter Tryz.func100, Tryz.ntmps100
    go_wp2_with (first | (go_at_call 27; (with_reducible refine hF.mono ?_); clear hF; rintro e w2 ⟨rfl, hb2⟩; have HT1 := keepb T1.out hb2; have HB2 : Hid (Below w.heap.size w w2) := HBX.out.trans (hb2.mono HBX.out.size); obtain ⟨y0, y1⟩ := cells2 HT1.out; have f0 := Joins.unfrozen_of_block HT1.out 0; have f1 := Joins.unfrozen_of_block HT1.out 1; clear hb2))
    obtain ⟨_, j1⟩ := two_set HT1.out (.int .i64 cd) (.slice none 0 0)
    exact bodyPost_ret (v := .agg #[.int .i64 cd, .slice none 0 0]) (by simp [results, Tryz.results100, go_sem, j1]) rfl (out_code (Nat.le_refl _) HB2.out)

end Go.Proofs.YtagokfoimokniaaGreatDoor

namespace Go.Proofs.YtagokfoimokniaaGreatDoor
open Go.RowKit Go.Shelf Go.Maps Go.WideMaps

theorem putR_lens {cs : List Co} {t h : Int} {m : Bool} {os : List Ou} (h0 : (putR cs t os h m).1 = 0) : (putR cs t os h m).2.length ≤ 40 ∧ ∀ j, j < (putR cs t os h m).2.length → ((putR cs t os h m).2.getD j C0).l.length ≤ 3 := by
  unfold putR at h0 ⊢
  by_cases h1 : coinsR cs ≠ 0
  · rw [if_pos h1] at h0; exact absurd h0 h1
  rw [if_neg h1] at h0 ⊢
  have h2 : coinsR cs = 0 := by simpa using h1
  by_cases h3 : putsR cs.length (hasT cs t) t os h ≠ 0
  · rw [if_pos h3] at h0; exact absurd h0 h3
  rw [if_neg h3]
  have h4 : putsR cs.length (hasT cs t) t os h = 0 := by simpa using h3
  have hp : putFR t os h = 0 ∧ cs.length + os.length ≤ 40 := by
    unfold putsR at h4
    by_cases a : putFR t os h ≠ 0
    · rw [if_pos a] at h4; exact absurd h4 a
    rw [if_neg a] at h4
    split at h4
    · cases h4
    · split at h4
      · cases h4
      · exact ⟨by simpa using a, by omega⟩
  have ho : outsR os = 0 := by
    have := hp.1
    unfold putFR at this
    split at this
    · cases this
    · split at this
      · cases this
      · exact this
  obtain ⟨c1, c2, _⟩ := coins_rise h2
  refine ⟨by show (addCs cs (newCs t h m os os.length)).length ≤ 40; rw [addCs_len]; exact hp.2, fun j hj => ?_⟩
  have hj2 : j < cs.length + os.length := by
    have : j < (addCs cs (newCs t h m os os.length)).length := hj
    rwa [addCs_len] at this
  exact addCs_lens (Nat.le_refl _) c2 (outs_more ho) j hj2
theorem putR_zero {cs : List Co} {t h : Int} {m : Bool} {os : List Ou} (h0 : (putR cs t os h m).1 ≠ 0) : (putR cs t os h m).2 = [] := by
  unfold putR at h0 ⊢
  split
  · rfl
  · split
    · rfl
    · rename_i h1 h2
      rw [if_neg h1, if_neg h2] at h0
      exact absurd rfl h0

theorem putR_len2 (cs : List Co) (t h : Int) (m : Bool) (os : List Ou) : (putR cs t os h m).2.length ≤ 40 ∧ ∀ j, j < (putR cs t os h m).2.length → ((putR cs t os h m).2.getD j C0).l.length ≤ 3 := by
  by_cases hz : (putR cs t os h m).1 = 0
  · exact putR_lens hz
  · rw [putR_zero hz]
    exact ⟨by simp, fun j hj => by simp at hj⟩

/-- Coins under way, drawn since v. -/
structure DcS (w v V : World) (SB : Nat) (ca : Option Addr) (cn cc t : Nat) (va : Option Addr) (vc : Nat) (cs : List Co) : Prop where
  src : Src w V SB ca cn cc t
  chg : Chg v V SB (SB + 1)
  own : ∃ kv, COwn V v.heap.size V.heap.size (.slice va cs.length vc) cs.length (fun j => cs.getD j C0) kv
  len : cs.length ≤ 42 ∧ ∀ j, j < cs.length → (cs.getD j C0).l.length ≤ 3
  ord : SB < v.heap.size
section
variable {w v V V' : World} {SB cn cc t t' vc : Nat} {ca va : Option Addr} {cs : List Co}
theorem DcS.draw (h : DcS w v V SB ca cn cc t va vc cs) (hS : Src w V' SB ca cn cc t') (hc : Chg V V' SB (SB + 1)) : DcS w v V' SB ca cn cc t' va vc cs := by
  obtain ⟨kv, hk⟩ := h.own
  exact ⟨hS, h.chg.trans hc, ⟨kv, (hk.chg hc (.inr h.ord)).mono hc.size⟩, h.len, h.ord⟩
theorem DcS.step (h : DcS w v V SB ca cn cc t va vc cs) (hb : Below V.heap.size V V') : DcS w v V' SB ca cn cc t va vc cs := h.draw (h.src.step hb) (Chg.of_below hb _ _)
theorem DcS.at (h : DcS w v V SB ca cn cc t va vc cs) : CAt V va cs.length cs := by
  obtain ⟨kv, hk⟩ := h.own
  exact own_at2 hk rfl fun j hj => by have := h.len.2 j hj; omega
theorem DcS.first (hS : Src w v SB ca cn cc t) : DcS w v (v.alloc (.cells #[] 54)) SB ca cn cc t (some ⟨v.heap.size, 0, none⟩) 0 [] :=
  ⟨hS.step (below_box _), Chg.of_below (below_box _) _ _, ⟨fun _ => .slice none 0 0, ⟨⟨[], ⟨rfl, .inr ⟨v.heap.size, 0, #[], rfl, Nat.le_refl _, heap_alloc_new _ _, Nat.le_refl _, by unfold maxLen; omega, rfl, rfl⟩⟩, fun j hj => (by simp at hj)⟩, fun b hb => (by simp [Value.ownBlock] at hb; simp; omega), fun j hj => (by simp at hj), fun i j _ hj => (by simp at hj)⟩⟩, ⟨by simp, fun j hj => (by simp at hj)⟩, hS.lt⟩
end

/-- Coins that were drawn. -/
def OutDc (w v : World) (SB : Nat) (ca : Option Addr) (cn cc T : Nat) (e : Ending) (v' : World) : Prop :=
  ∃ (cs : List Co) (va : Option Addr) (n vc t' : Nat), e = .returned (.slice va n vc) ∧ n = cs.length ∧ t' ≤ T ∧ Hid (DcS w v v' SB ca cn cc t' va vc cs)

/-- What PutCoins of coins that were drawn leaves, boxed. -/
theorem put_box {w v U V : World} {SB cn cc t vc : Nat} {ca va : Option Addr} {cs rs : List Co} {cd : Int} {u : Value} {kv : Nat → Value} (h : DcS w v U SB ca cn cc t va vc cs) (hO : COwn V U.heap.size V.heap.size u rs.length (fun j => rs.getD j C0) kv) (hb : Below U.heap.size U V) (hl : rs.length ≤ 40 ∧ ∀ j, j < rs.length → (rs.getD j C0).l.length ≤ 3) :
    ∃ ua uc, u = .slice ua rs.length uc ∧ Hid (DcS w v (V.alloc (.cells #[.int .i64 cd, u] 39)) SB ca cn cc t va vc cs ∧ DcS w v (V.alloc (.cells #[.int .i64 cd, u] 39)) SB ca cn cc t ua uc rs) ∧ (V.alloc (.cells #[.int .i64 cd, u] 39)).heap[V.heap.size]? = some (.cells #[.int .i64 cd, u] 39 (0, 0)) := by
  have hbx : Below U.heap.size U (V.alloc (.cells #[.int .i64 cd, u] 39)) := hb.trans ((below_box _).mono hb.size)
  obtain ⟨ua, uc, hu⟩ : ∃ ua uc, u = .slice ua rs.length uc := by
    obtain ⟨xs, hr, _⟩ := hO.row
    rcases hr.2 with ⟨q, q0⟩ | ⟨g, cap, cur, q, _⟩
    · exact ⟨none, 0, by rw [q, q0]⟩
    · exact ⟨_, cap, q⟩
  subst hu
  have h1 := h.step hbx
  refine ⟨ua, uc, rfl, ⟨h1, h1.src, h1.chg, ⟨kv, ?_⟩, ⟨by omega, hl.2⟩, h.ord⟩, heap_alloc_new _ _⟩
  exact (hO.below (below_box _)).lower h.chg.size (by simp)

set_option maxRecDepth 20000 in
set_option maxHeartbeats 8000000 in
theorem l4Right_any (SB cn cc t : Nat) (ca : Option Addr) (l0 : List Int) (w v : World) (ht : t ≤ 600) (hcn : cn ≤ 1048577) (hB : BAt w ca cn l0) (h : Src w v SB ca cn cc t) :
    Calls Tryz.prog 45 #[.pointer (some ⟨SB, 0, none⟩)] v fun e v' => OutDc w v SB ca cn cc (t + 141) e v' := by
  have HBA : Hid (BAt w ca cn l0) := hB
  have HD0 : Hid (DcS w v (v.alloc (.cells #[] 54)) SB ca cn cc t (some ⟨v.heap.size, 0, none⟩) 0 []) := DcS.first h
  have h1 := l1Next_any SB cn cc t ca l0 6 w (v.alloc (.cells #[] 54)) (by omega) (by omega) hcn hB HD0.out.src
  clear hB h
  go_enter Tryz.func45, Tryz.ntmps45
  go_wp2_with (first
    | (go_at_call 18; have hq := h1; clear h1; (with_reducible refine hq.mono ?_); clear hq; rintro e v2 ⟨r1, rfl, ⟨a1, b1⟩, hS2, hc2⟩; have b1' : r1 < 6 := b1 (by omega); clear b1; have HD2 : Hid (DcS w v v2 SB ca cn cc (t + 1) (some ⟨v.heap.size, 0, none⟩) 0 []) := HD0.out.draw hS2 hc2; clear hS2 hc2 HD0))
  obtain ⟨k2, rfl⟩ := Int.eq_ofNat_of_zero_le a1
  go_loopw [3, 4] (fun u i wr => ∃ k : Nat, k ≤ 5 ∧ i = .int .i64 k ∧ ∃ (va : Option Addr) (m vc : Nat), u = .slice va m vc ∧ Hid (∃ (t' : Nat) (cs : List Co), m = cs.length ∧ DcS w v wr SB ca cn cc t' va vc cs ∧ t' + 28 * k ≤ t + 141)) (fun _ i _ => (intOf i).toNat)
  case atStart => exact ⟨k2, by omega, rfl, some ⟨v.heap.size, 0, none⟩, 0, 0, rfl, _, [], rfl, HD2.out, by omega⟩
  case round =>
    obtain ⟨k, hk, rfl, va, m, vc, rfl, HI⟩ := hrel
    obtain ⟨t', cs, hm, hD, htk⟩ := HI.out
    have HD : Hid (DcS w v wr SB ca cn cc t' va vc cs) := hD
    by_cases hk0 : 0 < k
    · obtain ⟨k', rfl⟩ : ∃ k', k = k' + 1 := ⟨k - 1, by omega⟩
      have hki : (0 : Int) < ((k' + 1 : Nat) : Int) := by omega
      have hx := l1Next_any SB cn cc t' ca l0 6 w wr (by omega) (by omega) hcn HBA.out hD.src
      subst hm
      clear HI hD
      go_wp2_with (first
        | (go_at_call 18; have hq := hx; clear hx; (with_reducible refine hq.mono ?_); clear hq; rintro e v3 ⟨r3, rfl, ⟨a3, b3⟩, hS3, hc3⟩; have b3' : r3 < 6 := b3 (by omega); clear b3; have hw3 := IntWalk.i64_in (1 + r3) (by omega); have HD3 : Hid (DcS w v v3 SB ca cn cc (t' + 1) va vc cs) := HD.out.draw hS3 hc3; have hx2 := l4DrawOuts_any SB cn cc (t' + 1) ca l0 w v3 (by omega) hcn HBA.out hS3; clear hS3 hc3)
        | (go_at_call 101; have hq := hx2; clear hx2; (with_reducible refine hq.mono ?_); clear hq; rintro e v4 ⟨os, oa, oc, t4, rfl, ho3, ht4, HO4⟩; have HD4 : Hid (DcS w v v4 SB ca cn cc t4 va vc cs) := HD3.out.draw HO4.out.src HO4.out.chg; have hx3 := l1Next_any SB cn cc t4 ca l0 6 w v4 (by omega) (by omega) hcn HBA.out HO4.out.src)
        | (go_at_call 18; have hq := hx3; clear hx3; (with_reducible refine hq.mono ?_); clear hq; rintro e v5 ⟨r5, rfl, ⟨a5, b5⟩, hS5, hc5⟩; have b5' : r5 < 6 := b5 (by omega); clear b5; have HD5 : Hid (DcS w v v5 SB ca cn cc (t4 + 1) va vc cs) := HD4.out.draw hS5 hc5; have HO5 : Hid (DoS w v3 v5 SB ca cn cc (t4 + 1) v4.heap.size oa oc os) := HO4.out.draw hS5 hc5; have hx4 := l1Chance_any SB cn cc (t4 + 1) ca l0 3 w v5 (by omega) (by omega) hcn HBA.out hS5; clear hS5 hc5)
        | (go_at_call 49; have hq := hx4; clear hx4; (with_reducible refine hq.mono ?_); clear hq; rintro e v6 ⟨r6, rfl, hS6, hc6⟩; have HD6 : Hid (DcS w v v6 SB ca cn cc (t4 + 1 + 1) va vc cs) := HD5.out.draw hS6 hc6; have HO6 : Hid (DoS w v3 v6 SB ca cn cc (t4 + 1 + 1) v4.heap.size oa oc os) := HO5.out.draw hS6 hc6; have hlc := HD6.out.len; have hx5 := sPutCoins_any cs.length vc os.length oc va oa cs (1 + r3) r5 r6 os v6 (by omega) (fun j hj => by have := hlc.2 j hj; omega) (by omega) (fun j hj => by have := HO6.out.keys j hj; omega) HD6.out.at HO6.out.at; clear hS6 hc6)
        | (go_at_call 100; have hq := hx5; clear hx5; (with_reducible refine hq.mono ?_); clear hq; rintro e v7 ⟨u7, kv7, he7, hO7, hb7⟩; have hl7 := putR_len2 cs (1 + r3) r5 r6 os; obtain ⟨rs, hrs⟩ : ∃ rs, rs = (putR cs (1 + r3) os r5 r6).2 := ⟨_, rfl⟩; obtain ⟨cd, hcd⟩ : ∃ cd, cd = (putR cs (1 + r3) os r5 r6).1 := ⟨_, rfl⟩; rw [← hrs] at hO7 hl7; rw [← hcd] at he7; subst he7; clear hrs hcd; obtain ⟨ua, uc, hu, HP7, hbx7⟩ := put_box (cd := cd) HD6.out hO7 hb7 hl7; subst hu; obtain ⟨q0, q1⟩ := cells2 hbx7; clear hO7 hb7 hbx7 hl7))
      · go_roundw
        case rel => exact ⟨k', by omega, by go_num, ua, rs.length, uc, rfl, _, rs, rfl, HP7.out.2, by omega⟩
        case measure => simp [intOf]
      · go_roundw
        case rel => exact ⟨k', by omega, by go_num, va, cs.length, vc, rfl, _, cs, rfl, HP7.out.1, by omega⟩
        case measure => simp [intOf]
    · obtain rfl : k = 0 := by omega
      subst hm
      go_wp2
      go_ret
      exact ⟨cs, va, _, vc, t', rfl, rfl, by omega, HD.out⟩

end Go.Proofs.YtagokfoimokniaaGreatDoor

namespace Go.Proofs.YtagokfoimokniaaGreatDoor
open Go.RowKit Go.Shelf Go.Maps Go.WideMaps

theorem l1Max_any (a b : Int) (w : World) : Calls Tryz.prog 102 #[.int .i64 a, .int .i64 b] w fun e w' => ∃ z : Int, e = .returned (.int .i64 z) ∧ w' = w := by
  by_cases h : b < a
  · go_enter Tryz.func102, Tryz.ntmps102
    go_wp2
    go_ret
    exact ⟨a, rfl, rfl⟩
  · go_enter Tryz.func102, Tryz.ntmps102
    go_wp2
    go_ret
    first | exact ⟨b, rfl, rfl⟩ | exact ⟨⟨b, rfl⟩, rfl⟩
section
variable {w v V V' : World} {SB : Nat} {ca : Option Addr} {cn cc t t' T : Nat} {k f : Int} {ia : Option Addr} {ic : Nat} {rs : List (Int × Int)} {oa : Option Addr} {oc : Nat} {os : List Ou}
/-- An in more; what is no row of refs and not the transaction stays. -/
theorem TqD.moreK (H : TqD w v V SB ca cn cc t T k f ia ic rs oa oc os) (p q : Int) (hl : rs.length ≤ 500) :
    ∃ g cap w5, (Builtin.append_ #[29, 29] 29 #[.slice ia rs.length ic, .slice (some ⟨V.heap.size, 0, none⟩) 1 1]).run Tryz.prog (V.alloc (.cells #[.int .i64 p, .int .i64 q] 47)) = .ok (.slice (some ⟨g, 0, none⟩) (rs.length + 1) cap) w5 ∧
      (w5.cell? ⟨T, 2, none⟩ = some (.slice ia rs.length ic) ∧ w5.frozen? ⟨T, 2, none⟩ = false) ∧ Hid (TqD w v (w5.setCell ⟨T, 2, none⟩ (.slice (some ⟨g, 0, none⟩) (rs.length + 1) cap)) SB ca cn cc t T k f (some ⟨g, 0, none⟩) cap (rs ++ [(p, q)]) oa oc os) ∧
      (∀ b o, V.heap[b]? = some o → b ≠ T → (∀ cs fz, o ≠ .cells cs 47 fz) → (w5.setCell ⟨T, 2, none⟩ (.slice (some ⟨g, 0, none⟩) (rs.length + 1) cap)).heap[b]? = some o) := by
  have H1 := H.step (below_box (.cells #[.int .i64 p, .int .i64 q] 47))
  have hvs := H1.b.chg.size
  obtain ⟨g, cap, w5, hrun, HG⟩ := ref_added (p := p) (q := q) (X := V.heap.size) H1.ref (heap_alloc_new _ _) (by omega) (by have := H.b.chg.size; simp; omega)
  obtain ⟨hown, hgr⟩ := HG.out
  have HB := H1.b.grow hgr H1.ref (by decide)
  obtain ⟨_, _, c2, _⟩ := cells4 HB.box
  have hlen : (rs ++ [(p, q)]).length = rs.length + 1 := by simp
  obtain ⟨kv, hk⟩ := H1.out
  obtain ⟨xs, q1, _⟩ := hk.row
  refine ⟨g, cap, w5, hrun, ⟨c2, Joins.unfrozen_of_block HB.box 2⟩, ?_, fun b o hb hbT ho => ?_⟩
  · rw [← hlen] at hown ⊢
    exact (TqD.put HB hown ⟨kv, (hk.turn hgr (fun b hb e => rows_apart (by decide) H1.ref q1 b e hb) (fun j hj b hb e => rows_apart (by decide) H1.ref (hk.keys j hj).1 b e hb)).up hgr.size⟩ (by simp))
  · have hbl := lt_of_block hb
    have h1 : (V.alloc (.cells #[.int .i64 p, .int .i64 q] 47)).heap[b]? = some o := ((below_box _).block b hbl).trans hb
    refine (Below.heap_setCell _ ⟨T, 2, none⟩ _ b hbT).trans ((hgr.block b (lt_of_block h1) fun e => ?_).trans h1)
    rcases H1.ref.2 with ⟨e1, _⟩ | ⟨g', c', cur, e1, _, hh, _⟩
    · rw [e1] at e; cases e
    · rw [e1] at e
      have e2 : b = g' := by simpa [Value.ownBlock] using e
      subst e2
      rw [h1] at hh
      exact ho _ _ (Option.some.inj hh)
/-- One out, its keys drawn since V0. -/
theorem TqD.oneO {V0 : World} {t0 kc : Nat} {x y z : Int} {l : List Int} {ka : Option Addr} (H0 : TqD w v V0 SB ca cn cc t0 T k f ia ic rs oa oc os) (hS : Src w V SB ca cn cc t) (hc : Chg V0 V SB (SB + 1)) (hr : V.ownsRow V0.heap.size 2 1 (.slice ka l.length kc) l.length (ints l)) :
    TqD w v ((V.alloc (.cells #[.int .i64 z, .slice ka l.length kc, .int .i64 x, .int .i64 y] 52)).setCell ⟨T, 3, none⟩ (.slice (some ⟨V.heap.size, 0, none⟩) 1 1)) SB ca cn cc t T k f ia ic rs (some ⟨V.heap.size, 0, none⟩) 1 [⟨z, l, x, y⟩] := by
  have hb := below_box (w := V) (.cells #[.int .i64 z, .slice ka l.length kc, .int .i64 x, .int .i64 y] 52)
  have H1 := (H0.draw hS hc).step hb
  have hV0 : v.heap.size + 1 ≤ V0.heap.size := by have := H0.b.ord; have := H0.lt; omega
  have hVV := hc.size
  have hrow : (V.alloc (.cells #[.int .i64 z, .slice ka l.length kc, .int .i64 x, .int .i64 y] 52)).ownsRow (v.heap.size + 1) 52 4 (.slice (some ⟨V.heap.size, 0, none⟩) 1 1) 1 [.int .i64 z, .slice ka l.length kc, .int .i64 x, .int .i64 y] :=
    ⟨rfl, .inr ⟨V.heap.size, 1, _, rfl, by omega, heap_alloc_new _ _, Nat.le_refl _, by unfold maxLen; omega, rfl, rfl⟩⟩
  refine H1.setO (os' := [⟨z, l, x, y⟩]) ⟨fun _ => .slice ka l.length kc, ⟨⟨_, hrow, fun j hj => ?_⟩, fun b hb => (hrow.lt b hb).2, fun j hj => ?_, fun i j hij hj => ?_⟩⟩
  · obtain rfl : j = 0 := by simp at hj; omega
    exact ⟨rfl, rfl, rfl, rfl⟩
  · obtain rfl : j = 0 := by simp at hj; omega
    exact ⟨Joins.ownsRow_le (hr.alloc _) hV0, fun b hb => ((hr.alloc _).lt b hb).2⟩
  · simp at hj; omega
end
theorem cat_coin {V : World} {a : Option Addr} {n j : Nat} {cs : List Co} (h : CAt V a n cs) (hj : j < n) : ∃ b off ka kc, a = some ⟨b, off, none⟩ ∧ CoAt V b (off + j * 8) (cs.getD j C0) ka kc := by
  obtain ⟨_, h | ⟨b, off, e, _, hc⟩⟩ := h
  · omega
  · obtain ⟨ka, kc, h0, _⟩ := hc j hj
    exact ⟨b, off, ka, kc, e, h0⟩

set_option maxRecDepth 20000 in
set_option maxHeartbeats 8000000 in
theorem l5Tx_any (SB cn cc t n vc : Nat) (ca va : Option Addr) (l0 : List Int) (cs : List Co) (w v : World) (ht : t ≤ 600) (hcn : cn ≤ 1048577) (hB : BAt w ca cn l0) (h : Src w v SB ca cn cc t) (hn : n ≤ 100) (hC : ∀ V, Chg v V SB (SB + 1) → CAt V va n cs) :
    Calls Tryz.prog 46 #[.pointer (some ⟨SB, 0, none⟩), .slice va n vc] v fun e v' => OutT w v SB ca cn cc (t + 70) e v' KTB := by
  have HBA : Hid (BAt w ca cn l0) := hB
  have HCC : Hid (∀ V, Chg v V SB (SB + 1) → CAt V va n cs) := hC
  have hlt := h.lt
  have h1 := l3Draw_any SB cn cc t ca l0 w (v.alloc (.cells #[.int .i64 0, .int .i64 0, .slice none 0 0, .slice none 0 0] 32)) (by omega) hcn hB (h.step (below_box _))
  clear hB h hC
  go_enter Tryz.func46, Tryz.ntmps46
  go_upto_region 2 with (first
    | (go_at_call 52; (with_reducible refine h1.mono ?_); clear h1; rintro e v3 ⟨k, f, ia, ic, rs, oa, oc, os, t3, rfl, ht3, HK3, HO3⟩; have HD3' := TqD.first (k := k) (f := f) HO3.out hlt))
  have HFEW : Hid (KTB k f rs os) := ⟨by have := HK3.out.2.1.1; omega, by have := HK3.out.2.2.1; omega, fun o ho => (by have := (HK3.out.2.2.2 o ho).2.1; omega)⟩
  have hno5 : os.length ≤ 2 := HK3.out.2.2.1.2
  obtain ⟨T, hT⟩ : ∃ x, x = v3.heap.size := ⟨_, rfl⟩
  obtain ⟨V3, hV3⟩ : ∃ x, x = v3.alloc (.cells #[.int .i64 k, .int .i64 f, .slice ia rs.length ic, .slice oa os.length oc] 32) := ⟨_, rfl⟩
  rw [← hV3, ← hT] at HD3'
  rw [← hV3, ← hT]
  have HD3 : Hid (TqD w v V3 SB ca cn cc t3 T k f ia ic rs oa oc os) := HD3'
  clear hV3 hT HD3' HO3 HK3
  by_cases hn0 : 0 < n
  rotate_left
  · have hni : ¬ (0 : Int) < (n : Int) := by omega
    obtain ⟨c0, c1, c2, c3⟩ := HD3.out.cells
    obtain ⟨r0, r1, r2, r3, r4, r5, r6, r7⟩ := cells4 HD3.out.b.res
    go_wp2
    obtain ⟨j0, j1, j2, j3⟩ := four_set HD3.out.b.res (.int .i64 k) (.int .i64 f) (.slice ia rs.length ic) (.slice oa os.length oc)
    refine bodyPost_ret (v := .agg #[.int .i64 k, .int .i64 f, .slice ia rs.length ic, .slice oa os.length oc]) (by simp [results, Tryz.results46, go_sem, j0, j1, j2, j3]) rfl ?_
    exact HD3.out.ret (by omega) HFEW.out rfl _ _ _ _
  have hni : (0 : Int) < (n : Int) := by omega
  have hch := l1Chance_any SB cn cc t3 ca l0 8 w V3 (by omega) (by omega) hcn HBA.out HD3.out.b.src
  go_wp2_with fail
  refine hch.mono ?_
  clear hch
  rintro e v4 ⟨b, rfl, hS4, hc4⟩
  have HD4 : Hid (TqD w v v4 SB ca cn cc (t3 + 1) T k f ia ic rs oa oc os) := HD3.out.draw hS4 hc4
  clear hS4 hc4 HD3
  cases b
  rotate_left
  · obtain ⟨c0, c1, c2, c3⟩ := HD4.out.cells
    obtain ⟨r0, r1, r2, r3, r4, r5, r6, r7⟩ := cells4 HD4.out.b.res
    go_wp2
    obtain ⟨j0, j1, j2, j3⟩ := four_set HD4.out.b.res (.int .i64 k) (.int .i64 f) (.slice ia rs.length ic) (.slice oa os.length oc)
    refine bodyPost_ret (v := .agg #[.int .i64 k, .int .i64 f, .slice ia rs.length ic, .slice oa os.length oc]) (by simp [results, Tryz.results46, go_sem, j0, j1, j2, j3]) rfl ?_
    exact HD4.out.ret (by omega) HFEW.out rfl _ _ _ _
  have HD5 : Hid (TqD w v (v4.setCell ⟨T, 2, none⟩ (.slice none 0 0)) SB ca cn cc (t3 + 1) T k f none 0 [] oa oc os) := HD4.out.noR
  obtain ⟨c0, c1, c2, c3⟩ := HD4.out.cells
  have f2 := HD4.out.fz 2
  have hx := l1Next_any SB cn cc (t3 + 1) ca l0 2 w (v4.setCell ⟨T, 2, none⟩ (.slice none 0 0)) (by omega) (by omega) hcn HBA.out HD5.out.b.src
  go_wp2_with (first
    | (go_at_call 18; (with_reducible refine hx.mono ?_); clear hx; rintro e v6 ⟨r, rfl, ⟨a6, b6⟩, hS6, hc6⟩; have b6' : r < 2 := b6 (by omega); clear b6; have hw6 := IntWalk.i64_in (1 + r) (by omega); have HD6 : Hid (TqD w v v6 SB ca cn cc (t3 + 1 + 1) T k f none 0 [] oa oc os) := HD5.out.draw hS6 hc6; clear hS6 hc6))
  obtain ⟨k6, hk6⟩ : ∃ q : Nat, 1 + r = (q : Int) := ⟨(1 + r).toNat, by omega⟩
  rw [hk6]
  have hk6b : k6 ≤ 2 := by omega
  clear hk6 hw6 a6 b6' HD5 HD4 c0 c1 c2 c3 f2
  go_loopw [6, 7, 8] (fun s i z wr => ∃ (q : Nat) (sm : Int), q ≤ 2 ∧ s = .int .i64 sm ∧ i = .int .i64 (q : Int) ∧ Hid (∃ (t' : Nat) (ia : Option Addr) (ic : Nat) (rs : List (Int × Int)), TqD w v wr SB ca cn cc t' T k f ia ic rs oa oc os ∧ rs.length + q ≤ 2 ∧ t' + q ≤ t + 40)) (fun s i z _ => (intOf i).toNat)
  case atStart => exact ⟨k6, 0, hk6b, rfl, rfl, t3 + 1 + 1, none, 0, [], HD6.out, by simp only [List.length_nil]; omega, by omega⟩
  case round =>
    obtain ⟨q, sm, hq, rfl, rfl, HI⟩ := hrel
    obtain ⟨t', ia, ic, rs, hD, hl2, htk⟩ := HI.out
    have HD : Hid (TqD w v wr SB ca cn cc t' T k f ia ic rs oa oc os) := hD
    clear HI hD HD6
    by_cases hq0 : 0 < q
    · obtain ⟨q', rfl⟩ : ∃ q', q = q' + 1 := ⟨q - 1, by omega⟩
      have hki : (0 : Int) < ((q' + 1 : Nat) : Int) := by omega
      have hx := l1Next_any SB cn cc t' ca l0 (n : Int) w wr (by omega) (by omega) hcn HBA.out HD.out.b.src
      go_wp2_with fail
      refine hx.mono ?_
      clear hx
      rintro e v7 ⟨r7, rfl, ⟨a7, b7⟩, hS7, hc7⟩
      have b7' := b7 (by omega)
      obtain ⟨j, hj⟩ : ∃ j : Nat, r7 = (j : Int) := ⟨r7.toNat, by omega⟩
      subst hj
      have hjn : j < n := by omega
      have HD7 : Hid (TqD w v v7 SB ca cn cc (t' + 1) T k f ia ic rs oa oc os) := HD.out.draw hS7 hc7
      clear hS7 hc7 b7 HD
      obtain ⟨b, off, ka, kc, hva, hco⟩ := cat_coin (HCC.out v7 HD7.out.b.chg) hjn
      obtain ⟨x, hx⟩ : ∃ x, x = cs.getD j C0 := ⟨_, rfl⟩
      rw [← hx] at hco
      obtain ⟨y0, y1, y2, y3, y4, y5, y6, y7⟩ := hco
      subst hva
      clear hx
      have HX8 : Hid ((v7.alloc (.cells #[.int .i64 x.p, .int .i64 x.q, .int .i64 x.v, .slice ka x.l.length kc, .int .i64 x.x, .int .i64 x.y, .int .i64 x.h, .bool x.m] 54)).heap[v7.heap.size]? = some (.cells #[.int .i64 x.p, .int .i64 x.q, .int .i64 x.v, .slice ka x.l.length kc, .int .i64 x.x, .int .i64 x.y, .int .i64 x.h, .bool x.m] 54 (0, 0))) := heap_alloc_new _ _
      have HD8 : Hid (TqD w v (v7.alloc (.cells #[.int .i64 x.p, .int .i64 x.q, .int .i64 x.v, .slice ka x.l.length kc, .int .i64 x.x, .int .i64 x.y, .int .i64 x.h, .bool x.m] 54)) SB ca cn cc (t' + 1) T k f ia ic rs oa oc os) := HD7.out.step (below_box _)
      obtain ⟨⟨z0, z1, z2, z3, z4, z5, z6, z7⟩, _⟩ := cells8 HX8.out
      obtain ⟨c0, c1, c2, c3⟩ := HD8.out.cells
      have ham := l3Among_any ia rs.length ic rs x.p x.q (v7.alloc (.cells #[.int .i64 x.p, .int .i64 x.q, .int .i64 x.v, .slice ka x.l.length kc, .int .i64 x.x, .int .i64 x.y, .int .i64 x.h, .bool x.m] 54)) (by unfold maxLen; omega) HD8.out.gat
      obtain ⟨mb, hmb⟩ : ∃ b, b = memB rs (x.p, x.q) := ⟨_, rfl⟩
      rw [← hmb] at ham
      have hXl := lt_of_block HX8.out
      clear hmb
      go_upto_if 39 with (first
        | (go_at_call 65; (with_reducible refine ham.mono ?_); clear ham; rintro e v9 ⟨rfl, hb9⟩; have HD9 : Hid (TqD w v v9 SB ca cn cc (t' + 1) T k f ia ic rs oa oc os) := HD8.out.step hb9; have HX9 : Hid (v9.heap[v7.heap.size]? = some (.cells #[.int .i64 x.p, .int .i64 x.q, .int .i64 x.v, .slice ka x.l.length kc, .int .i64 x.x, .int .i64 x.y, .int .i64 x.h, .bool x.m] 54 (0, 0))) := (keepb HX8.out hb9).out; clear hb9 z0 z1 z2 z3 z4 z5 z6 z7 c0 c1 c2 c3; obtain ⟨⟨z0, z1, z2, z3, z4, z5, z6, z7⟩, _⟩ := cells8 HX9.out; obtain ⟨c0, c1, c2, c3⟩ := HD9.out.cells))
      have HT9 := HD9.out.lt
      cases mb
      · obtain ⟨g, cap, w5, hrun, ⟨k2, f2⟩, HD10, hkp⟩ := HD9.out.moreK x.p x.q (by omega)
        have hXT : v7.heap.size ≠ T := fun e => by
          have h1 := HX9.out
          have h2 := HD9.out.b.box
          rw [e, h2] at h1
          have := Option.some.inj h1
          injection this with _ e3
          exact absurd e3 (by decide)
        have HX10 : Hid ((w5.setCell ⟨T, 2, none⟩ (.slice (some ⟨g, 0, none⟩) (rs.length + 1) cap)).heap[v7.heap.size]? = some (.cells #[.int .i64 x.p, .int .i64 x.q, .int .i64 x.v, .slice ka x.l.length kc, .int .i64 x.x, .int .i64 x.y, .int .i64 x.h, .bool x.m] 54 (0, 0))) := hkp _ _ HX9.out hXT (fun cs fz e => by injection e with _ e3; exact absurd e3 (by decide))
        obtain ⟨⟨x0, x1, x2, x3, x4, x5, x6, x7⟩, _⟩ := cells8 HX10.out
        clear hkp
        go_wp2_with (first
          | (at_builtin; go_must (refine wpList_append_runC (by rfl) _ _ _ (by rfl) (by rfl) (by rfl) hrun ?_); clear hrun))
        go_roundw
        case rel => exact ⟨q', _, by omega, rfl, by go_num, t' + 1, _, _, rs ++ [(x.p, x.q)], HD10.out, by simp only [List.length_append, List.length_cons, List.length_nil]; omega, by omega⟩
        case measure => simp [intOf]
      · go_wp2
        go_roundw
        case rel => exact ⟨q', sm, by omega, rfl, by go_num, t' + 1, _, _, rs, HD9.out, by omega, by omega⟩
        case measure => simp [intOf]
    · obtain rfl : q = 0 := by omega
      have HF2 : Hid (KTB k f rs os) := ⟨by omega, HFEW.out.2⟩
      have hch := l1Chance_any SB cn cc t' ca l0 4 w wr (by omega) (by omega) hcn HBA.out HD.out.b.src
      go_wp2_with fail
      refine hch.mono ?_
      clear hch
      rintro e v6 ⟨b, rfl, hS6, hc6⟩
      have HD6 : Hid (TqD w v v6 SB ca cn cc (t' + 1) T k f ia ic rs oa oc os) := HD.out.draw hS6 hc6
      clear hS6 hc6 HD
      cases b
      rotate_left
      · obtain ⟨c0, c1, c2, c3⟩ := HD6.out.cells
        obtain ⟨r0, r1, r2, r3, r4, r5, r6, r7⟩ := cells4 HD6.out.b.res
        go_wp2
        obtain ⟨j0, j1, j2, j3⟩ := four_set HD6.out.b.res (.int .i64 k) (.int .i64 f) (.slice ia rs.length ic) (.slice oa os.length oc)
        refine bodyPost_ret (v := .agg #[.int .i64 k, .int .i64 f, .slice ia rs.length ic, .slice oa os.length oc]) (by simp [results, Tryz.results46, go_sem, j0, j1, j2, j3]) rfl ?_
        exact HD6.out.ret (by omega) HF2.out rfl _ _ _ _
      by_cases hs : 0 < sm
      rotate_left
      · obtain ⟨c0, c1, c2, c3⟩ := HD6.out.cells
        obtain ⟨r0, r1, r2, r3, r4, r5, r6, r7⟩ := cells4 HD6.out.b.res
        go_wp2
        obtain ⟨j0, j1, j2, j3⟩ := four_set HD6.out.b.res (.int .i64 k) (.int .i64 f) (.slice ia rs.length ic) (.slice oa os.length oc)
        refine bodyPost_ret (v := .agg #[.int .i64 k, .int .i64 f, .slice ia rs.length ic, .slice oa os.length oc]) (by simp [results, Tryz.results46, go_sem, j0, j1, j2, j3]) rfl ?_
        exact HD6.out.ret (by omega) HF2.out rfl _ _ _ _
      have hx := l1Next_any SB cn cc (t' + 1) ca l0 5 w v6 (by omega) (by omega) hcn HBA.out HD6.out.b.src
      go_wp2_with fail
      refine hx.mono ?_
      clear hx
      rintro e v7 ⟨r7, rfl, _, hS7, hc7⟩
      have HD7 : Hid (TqD w v v7 SB ca cn cc (t' + 1 + 1) T k f ia ic rs oa oc os) := HD6.out.draw hS7 hc7
      clear hS7 hc7 HD6
      go_wp2_with fail
      refine (l1Max_any _ _ v7).mono ?_
      rintro e v8 ⟨z, rfl, hv8⟩
      subst hv8
      have h2 := l2Draw_any SB cn cc (t' + 1 + 1) ca l0 w v8 (by omega) hcn HBA.out HD7.out.b.src
      go_wp2_with fail
      refine h2.mono ?_
      clear h2
      rintro e v9 ⟨l, x, y, ka, kc, t4, rfl, HR4, HK4, ht4, HS4, HC4⟩
      have HD9 : Hid (TqD w v (v9.alloc (.cells #[.int .i64 z, .slice ka l.length kc, .int .i64 x, .int .i64 y] 52)) SB ca cn cc t4 T k f ia ic rs oa oc os) := (HD7.out.draw HS4.out HC4.out).step (below_box _)
      have HE : Hid (TqD w v ((v9.alloc (.cells #[.int .i64 z, .slice ka l.length kc, .int .i64 x, .int .i64 y] 52)).setCell ⟨T, 3, none⟩ (.slice (some ⟨v9.heap.size, 0, none⟩) 1 1)) SB ca cn cc t4 T k f ia ic rs (some ⟨v9.heap.size, 0, none⟩) 1 [⟨z, l, x, y⟩]) := HD7.out.oneO HS4.out HC4.out HR4.out
      have HFE : Hid (KTB k f rs [⟨z, l, x, y⟩]) := ⟨by omega, by simp, fun o ho => (by simp at ho; subst ho; have := HK4.out.1.2; show l.length ≤ 4; omega)⟩
      obtain ⟨⟨u, y0, _⟩, _, hgv, hgT⟩ := HE.out.out0 (by simp)
      have y0' : ((v9.alloc (.cells #[.int .i64 z, .slice ka l.length kc, .int .i64 x, .int .i64 y] 52)).setCell ⟨T, 3, none⟩ (.slice (some ⟨v9.heap.size, 0, none⟩) 1 1)).cell? ⟨v9.heap.size, 0, none⟩ = some (.int .i64 z) := y0
      obtain ⟨c0, c1, c2, c3⟩ := HD9.out.cells
      have f3 := HD9.out.fz 3
      obtain ⟨d0, d1, d2, d3⟩ := HE.out.cells
      obtain ⟨r0, r1, r2, r3, r4, r5, r6, r7⟩ := cells4 HE.out.b.res
      clear y0 HD7 HR4 HK4 HS4 HC4
      by_cases hk1 : k = 1
      · have hkb : (k == 1) = true := by simp [hk1]
        by_cases hz : z < 100
        · have HG : Hid (TqD w v (((v9.alloc (.cells #[.int .i64 z, .slice ka l.length kc, .int .i64 x, .int .i64 y] 52)).setCell ⟨T, 3, none⟩ (.slice (some ⟨v9.heap.size, 0, none⟩) 1 1)).setCell ⟨T, 0, none⟩ (.int .i64 0)) SB ca cn cc t4 T 0 f ia ic rs (some ⟨v9.heap.size, 0, none⟩) 1 [⟨z, l, x, y⟩]) := HE.out.setk 0
          have HH : Hid (TqD w v ((((v9.alloc (.cells #[.int .i64 z, .slice ka l.length kc, .int .i64 x, .int .i64 y] 52)).setCell ⟨T, 3, none⟩ (.slice (some ⟨v9.heap.size, 0, none⟩) 1 1)).setCell ⟨T, 0, none⟩ (.int .i64 0)).setCell ⟨T, 1, none⟩ (.int .i64 0)) SB ca cn cc t4 T 0 0 ia ic rs (some ⟨v9.heap.size, 0, none⟩) 1 [⟨z, l, x, y⟩]) := HG.out.setf 0
          have g0 := HE.out.fz 0
          obtain ⟨e0, e1, e2, e3⟩ := HG.out.cells
          have g1 := HG.out.fz 1
          obtain ⟨h0, h1, h2, h3⟩ := HH.out.cells
          obtain ⟨s0, s1, s2, s3, s4, s5, s6, s7⟩ := cells4 HH.out.b.res
          clear r0 r1 r2 r3 r4 r5 r6 r7 hk1
          go_wp2
          obtain ⟨j0, j1, j2, j3⟩ := four_set HH.out.b.res (.int .i64 0) (.int .i64 0) (.slice ia rs.length ic) (.slice (some ⟨v9.heap.size, 0, none⟩) 1 1)
          refine bodyPost_ret (v := .agg #[.int .i64 0, .int .i64 0, .slice ia rs.length ic, .slice (some ⟨v9.heap.size, 0, none⟩) 1 1]) (by simp [results, Tryz.results46, go_sem, j0, j1, j2, j3]) rfl ?_
          exact HH.out.ret (by omega) HFE.out rfl _ _ _ _
        · clear hk1
          go_wp2
          obtain ⟨j0, j1, j2, j3⟩ := four_set HE.out.b.res (.int .i64 k) (.int .i64 f) (.slice ia rs.length ic) (.slice (some ⟨v9.heap.size, 0, none⟩) 1 1)
          refine bodyPost_ret (v := .agg #[.int .i64 k, .int .i64 f, .slice ia rs.length ic, .slice (some ⟨v9.heap.size, 0, none⟩) 1 1]) (by simp [results, Tryz.results46, go_sem, j0, j1, j2, j3]) rfl ?_
          exact HE.out.ret (by omega) HFE.out rfl _ _ _ _
      · have hkb : (k == 1) = false := by simp [hk1]
        clear hk1
        go_wp2
        obtain ⟨j0, j1, j2, j3⟩ := four_set HE.out.b.res (.int .i64 k) (.int .i64 f) (.slice ia rs.length ic) (.slice (some ⟨v9.heap.size, 0, none⟩) 1 1)
        refine bodyPost_ret (v := .agg #[.int .i64 k, .int .i64 f, .slice ia rs.length ic, .slice (some ⟨v9.heap.size, 0, none⟩) 1 1]) (by simp [results, Tryz.results46, go_sem, j0, j1, j2, j3]) rfl ?_
        exact HE.out.ret (by omega) HFE.out rfl _ _ _ _

end Go.Proofs.YtagokfoimokniaaGreatDoor

namespace Go.Proofs.YtagokfoimokniaaGreatDoor
open Go.RowKit Go.Maps Go.WideMaps
attribute [local go_sem ↓] Go.wp_at_zero Go.wp_at_succ

/-- append of what may be nil to a slice of the call's own that is not nil, as one step of a region that draws its order. -/
theorem step_append_opt {P : Program} (w : World) {ops : Array Oper} {o : Oper} {a : Act} {K : Act → World → Prop} {Q : Exit → Act → World → Prop} {E : Prop} (hgd : o.guard = none) (s x : Operand) (t : TypeId)
    (ho : o.op = .call { callee := .builtin .append, args := #[s, x], argTypes := #[t, t] })
    (base : Nat) (e : TypeId) (i : TypeInfo) (z : Value) (size bytes : Nat) (ht : P.underlying t = some (.slice e)) (hi : P.info? e = some i) (hz : i.zero = some z)
    (hsize : i.size = size) (hby : i.bytes = bytes) (hzs : z.cells.size = size) (hsz : 0 < size)
    (g0 c0 : Nat) (n : Nat) (xs : List Value) (hs : a.eval s = .slice (some ⟨g0, 0, none⟩) n c0) (hown : w.ownsRow base e size (.slice (some ⟨g0, 0, none⟩) n c0) n xs)
    (oa : Option Addr) (m c : Nat) (news : List Value) (hx : a.eval x = .slice oa m c) (hl : news.length = m * size) (hnil : oa = none → c = 0) (hsrc : ∀ ad, oa = some ad → ∀ j u, news[j]? = some u → w.cell? (ad.add j) = some u) (hm0 : oa = none → m = 0) (h1 : ∀ u ∈ news, u.oneCell' = true)
    (h63 : n + m ≤ maxLen) (hbytes : (n + m) * bytes ≤ 140737488355328) (hbase : base ≤ w.heap.size)
    (h : ∀ g cap w', w'.ownsRow base e size (.slice (some ⟨g, 0, none⟩) (n + m) cap) (n + m) (xs ++ news) → w.grownBy w' (some g0) → K (a.put o.dst (.slice (some ⟨g, 0, none⟩) (n + m) cap)) w') :
    if Region.wanted o (yielded ops a.tmps) = true then Oper.wp P o a w K Q else E := by
  cases oa with
  | some ad => exact step_append_some w hgd s x t ho base e i z size bytes ht hi hz hsize hby hzs hsz g0 c0 n xs hs hown ad m c news hx hl (hsrc ad rfl) h1 h63 hbytes hbase h
  | none =>
    obtain rfl := hnil rfl
    obtain rfl := hm0 rfl
    obtain rfl : news = [] := List.length_eq_zero_iff.1 (by omega)
    have hw : Region.wanted o (yielded ops a.tmps) = true := by simp [Region.wanted, hgd]
    rw [if_pos hw]
    have hrun := run_append_owned_none (P := P) (w := w) base t o.type e i size ht hi _ n xs hown
    have hk := h g0 c0 w (by simpa using hown) ⟨rfl, rfl, rfl, Nat.le_refl _, fun _ _ _ => rfl⟩
    unfold Oper.wp
    simp only [Nat.add_zero] at hk
    simp [execOp, ho, resolve, invoke, builtin, hs, hx, hrun, Result.andThen]
    exact hk

theorem srcS {w W : World} {ta : Option Addr} {n : Nat} {ss : List ByteArray} (h : SAt w ta n ss) (hb : Below w.heap.size w W) : ∀ ad, ta = some ad → ∀ j u, (ss.map Value.string)[j]? = some u → W.cell? (ad.add j) = some u := by
  intro ad e j u hj
  rcases id h.2 with h0 | ⟨b, off, rfl, _⟩
  · have h1 := h.1
    have := (List.getElem?_eq_some_iff.1 hj).1
    simp at this; omega
  · cases e
    exact news_texts h hb j u hj
theorem srcG {w W : World} {ta : Option Addr} {n : Nat} {gs : List (Int × Int)} (h : GAt w ta n gs) (hb : Below w.heap.size w W) : ∀ ad, ta = some ad → ∀ j u, (gcells gs)[j]? = some u → W.cell? (ad.add j) = some u := by
  intro ad e j u hj
  rcases id h.2 with h0 | ⟨b, off, rfl, _⟩
  · have h1 := h.1
    have := (List.getElem?_eq_some_iff.1 hj).1
    rw [gcells_length] at this; omega
  · cases e
    exact news_signs h hb j u hj
theorem nilS {w : World} {ta : Option Addr} {n : Nat} {ss : List ByteArray} (h : SAt w ta n ss) : ta = none → n = 0 := by
  rintro rfl
  rcases h.2 with h0 | ⟨_, _, e, _⟩
  · exact h0
  · cases e
theorem nilG {w : World} {ta : Option Addr} {n : Nat} {gs : List (Int × Int)} (h : GAt w ta n gs) : ta = none → n = 0 := by
  rintro rfl
  rcases h.2 with h0 | ⟨_, _, e, _⟩
  · exact h0
  · cases e

set_option maxRecDepth 20000 in
set_option maxHeartbeats 2000000 in
theorem l1Copy_opt (ta ga : Option Addr) (n m tc gc : Nat) (ss : List ByteArray) (gs : List (Int × Int)) (w : World) (hn : n ≤ 60) (hm : m ≤ 120) (hta : ta = none → tc = 0) (hga : ga = none → gc = 0) (h : LedAt w ta n ga m ss gs) :
    Calls Tryz.prog 104 #[.agg #[.slice ta n tc, .slice ga m gc]] w fun e w' => ∃ g0 k0 g1 k1, e = .returned (.agg #[.slice (some ⟨g0, 0, none⟩) n k0, .slice (some ⟨g1, 0, none⟩) m k1]) ∧ OwnL w' w.heap.size n m ss gs g0 k0 g1 k1 ∧ Below w.heap.size w w' := by
  obtain ⟨i0, hi, hz0, hz1, hz2⟩ := info_parts Tryz.infoStr
  obtain ⟨i1, hj, hy0, hy1, hy2⟩ := info_parts Tryz.infoSig
  have HL : Hid (LedAt w ta n ga m ss gs) := h
  have hsn : ss.length = n := h.s.1
  have hgn : (gcells gs).length = m * 2 := by rw [gcells_length, h.g.1]
  have HSN : Hid ((ss.map Value.string).length = n * 1) := by show _ = _; simp; omega
  have HGN : Hid ((gcells gs).length = m * 2) := hgn
  have HB1 : Hid (∀ o, Below (w.heap.size + 1 + 1) ((w.alloc (.cells #[.slice ta n tc, .slice ga m gc] 27)).alloc (.cells #[.slice none 0 0, .slice none 0 0] 27)) (((w.alloc (.cells #[.slice ta n tc, .slice ga m gc] 27)).alloc (.cells #[.slice none 0 0, .slice none 0 0] 27)).alloc o).drew) := fun o => ((Below.refl _ _).alloc (by simp) _).drew
  have HB2 : Hid (∀ o o', Below (w.heap.size + 1 + 1) ((w.alloc (.cells #[.slice ta n tc, .slice ga m gc] 27)).alloc (.cells #[.slice none 0 0, .slice none 0 0] 27)) ((((w.alloc (.cells #[.slice ta n tc, .slice ga m gc] 27)).alloc (.cells #[.slice none 0 0, .slice none 0 0] 27)).alloc o).alloc o').drew) := fun o o' => (((Below.refl _ _).alloc (by simp) _).alloc (by simp) _).drew
  have HCB : Hid (∀ W, Below (w.heap.size + 1 + 1) ((w.alloc (.cells #[.slice ta n tc, .slice ga m gc] 27)).alloc (.cells #[.slice none 0 0, .slice none 0 0] 27)) W → Below w.heap.size w W) := fun W hb => copy_below hb
  clear h hsn hgn
  go_enter Tryz.func104, Tryz.ntmps104
  go_wp2
  go_region_held3 (fun w' => w'.cell? ⟨w.heap.size, 0, none⟩ = some (.slice ta n tc) ∧ w'.cell? ⟨w.heap.size, 1, none⟩ = some (.slice ga m gc)) (go_keep)
    (first | (refine step_append_opt _ (by rfl) (.tmp 3) (.tmp 5) 24 (by rfl) (w.heap.size + 1 + 1) 9 i0 (.string ByteArray.empty) 1 16 Tryz.underlying24 hi hz0 hz1 hz2 rfl (by omega) _ _ 0 [] (by rfl) (own_empty (by first | exact heap_at _ _ _ (by simp) | exact heap_at2 _ _ _ _ (by simp) | assumption) (by first | omega | (simp; omega) | simp)) ta n tc (ss.map Value.string) (by rfl) HSN.out hta (srcS HL.out.s (HCB.out _ (by first | exact HB1.out _ | exact HB2.out _ _ | exact hbG | exact hbG.alloc hzG _ | exact hbS | exact hbS.alloc hzS _))) (nilS HL.out.s) one_texts (by unfold maxLen; omega) (by omega) (by first | omega | (simp; omega) | simp) ?_; intro gS kS wS hoS hgS; have hbS : Below (w.heap.size + 1 + 1) ((w.alloc (.cells #[.slice ta n tc, .slice ga m gc] 27)).alloc (.cells #[.slice none 0 0, .slice none 0 0] 27)) wS := Below.grown (by first | exact HB1.out _ | exact HB2.out _ _ | exact hbG | exact hbG.alloc hzG _ | exact hbS | exact hbS.alloc hzS _) hgS (by first | omega | (simp; omega) | simp) (fun k e => by cases e; first | omega | (simp; omega) | simp); obtain ⟨zS0, zS1, hzS, yS0, yS1, yS2, yS3, HRS⟩ := copy_cells hbS; (first | (have hXG : wS.heap[w.heap.size + 1 + 1]? = some (.cells #[] 111 (0, 0)) := (hgS.block _ (by simp) (by simp)).trans (heap_at2 _ _ _ _ (by simp))) | (have hXG : wS.heap[w.heap.size + 1 + 1 + 1]? = some (.cells #[] 111 (0, 0)) := (hgS.block _ (by simp) (by simp)).trans (heap_at _ _ _ (by simp))) | skip); (first | (have hoG2 := keep_row hgS (by first | exact heap_at _ _ _ (by simp) | exact heap_at2 _ _ _ _ (by simp) | assumption) hoG (by decide)) | (have hoG2 := keep_row hgS (by first | exact heap_at _ _ _ (by simp) | exact heap_at2 _ _ _ _ (by simp) | assumption) (hoG.alloc _) (by decide)) | skip)) | (refine step_append_opt _ (by rfl) (.tmp 7) (.tmp 9) 25 (by rfl) (w.heap.size + 1 + 1) 111 i1 (.agg #[.int .i64 0, .int .i64 0]) 2 16 Tryz.underlying25 hj hy0 hy1 hy2 rfl (by omega) _ _ 0 [] (by rfl) (own_empty (by first | exact heap_at _ _ _ (by simp) | exact heap_at2 _ _ _ _ (by simp) | assumption) (by first | omega | (simp; omega) | simp)) ga m gc (gcells gs) (by rfl) HGN.out hga (srcG HL.out.g (HCB.out _ (by first | exact HB1.out _ | exact HB2.out _ _ | exact hbG | exact hbG.alloc hzG _ | exact hbS | exact hbS.alloc hzS _))) (nilG HL.out.g) one_signs (by unfold maxLen; omega) (by omega) (by first | omega | (simp; omega) | simp) ?_; intro gG kG wG hoG hgG; have hbG : Below (w.heap.size + 1 + 1) ((w.alloc (.cells #[.slice ta n tc, .slice ga m gc] 27)).alloc (.cells #[.slice none 0 0, .slice none 0 0] 27)) wG := Below.grown (by first | exact HB1.out _ | exact HB2.out _ _ | exact hbG | exact hbG.alloc hzG _ | exact hbS | exact hbS.alloc hzS _) hgG (by first | omega | (simp; omega) | simp) (fun k e => by cases e; first | omega | (simp; omega) | simp); obtain ⟨zG0, zG1, hzG, yG0, yG1, yG2, yG3, HRG⟩ := copy_cells hbG; (first | (have hXS : wG.heap[w.heap.size + 1 + 1]? = some (.cells #[] 9 (0, 0)) := (hgG.block _ (by simp) (by simp)).trans (heap_at2 _ _ _ _ (by simp))) | (have hXS : wG.heap[w.heap.size + 1 + 1 + 1]? = some (.cells #[] 9 (0, 0)) := (hgG.block _ (by simp) (by simp)).trans (heap_at _ _ _ (by simp))) | skip); (first | (have hoS2 := keep_row hgG (by first | exact heap_at _ _ _ (by simp) | exact heap_at2 _ _ _ _ (by simp) | assumption) hoS (by decide)) | (have hoS2 := keep_row hgG (by first | exact heap_at _ _ _ (by simp) | exact heap_at2 _ _ _ _ (by simp) | assumption) (hoS.alloc _) (by decide)) | skip)))
  all_goals
    go_wp2
    obtain ⟨s0, s1, s2⟩ := two_set HRG.out (.slice (some ⟨gS, 0, none⟩) n kS) (.slice (some ⟨gG, 0, none⟩) m kG)
    simp only [Nat.zero_add, List.nil_append] at hoS2 hoG
    refine bodyPost_ret (v := .agg #[.slice (some ⟨gS, 0, none⟩) n kS, .slice (some ⟨gG, 0, none⟩) m kG]) (by simp [results, Tryz.results104, go_sem, s0, s1]) rfl ⟨gS, kS, gG, kG, rfl, ⟨?_, ?_⟩, below_res (HCB.out _ hbG) _ _⟩
    · exact Joins.ownsRow_le (ownsRow_setCell_below (ownsRow_setCell_below hoS2 (a := ⟨w.heap.size + 1, 0, none⟩) (show w.heap.size + 1 < _ by omega) _) (a := ⟨w.heap.size + 1, 1, none⟩) (show w.heap.size + 1 < _ by omega) _) (by omega)
    · exact Joins.ownsRow_le (ownsRow_setCell_below (ownsRow_setCell_below hoG (a := ⟨w.heap.size + 1, 0, none⟩) (show w.heap.size + 1 < _ by omega) _) (a := ⟨w.heap.size + 1, 1, none⟩) (show w.heap.size + 1 < _ by omega) _) (by omega)

end Go.Proofs.YtagokfoimokniaaGreatDoor

namespace Go.Proofs.YtagokfoimokniaaGreatDoor
open Go.RowKit Go.Maps Go.WideMaps

set_option maxRecDepth 20000 in
set_option maxHeartbeats 1000000 in
theorem sNoteText_opt (n m tc gc : Nat) (ta ga : Option Addr) (ss : List ByteArray) (gs : List (Int × Int)) (x : ByteArray) (w : World) (htc : n ≤ tc) (hgc : m ≤ gc) (htm : tc ≤ maxLen) (hgm : gc ≤ maxLen) (hta : ta = none → tc = 0) (hga : ga = none → gc = 0) (hf : Fine ss gs) (h : LedAt w ta n ga m ss gs) :
    Calls Tryz.prog 47 #[.agg #[.slice ta n tc, .slice ga m gc], .string x] w fun e w' => OutL w w' e (noteR ss gs x) := by
  have hfl := l1Fault_box4 n m tc gc _ _ ss gs w htc hgc htm hgm hf h
  have HL : Hid (LedAt w ta n ga m ss gs) := h
  have HNM : Hid (n ≤ maxLen) := Nat.le_trans htc htm
  have HN : Hid (ss.length = n) := h.s.1
  have HM : Hid (gs.length = m) := h.g.1
  clear h hf htc hgc htm hgm
  obtain ⟨c, hc⟩ : ∃ c, c = flt ss gs := ⟨_, rfl⟩
  rw [← hc] at hfl
  by_cases hcz : c = 0
  · subst hcz
    have hlen := flt_le hc
    rw [HN.out, HM.out] at hlen
    have h60 := hlen.1
    have h120 := hlen.2
    clear hlen
    by_cases hs : x.size < 1 ∨ 300 < x.size
    · rw [noteR_size hc hs]
      clear hc
      by_cases hs1 : x.size < 1
      all_goals
        have hs3 : x.size < 1 ∨ 300 < x.size := hs
        clear hs
        go_enter Tryz.func47, Tryz.ntmps47
        go_wp2_with (first | (go_at_call 26; refine hfl.mono ?_; rintro e w2 ⟨rfl, HB⟩; obtain ⟨q0, q1, q2, q3, q4, q5, q6, q7⟩ := cells4 HB.out.1))
        obtain ⟨s0, s1, s2, s3⟩ := four_set HB.out.1 (.int .i64 2) (.int .i64 0) (.slice none 0 0) (.slice none 0 0)
        exact bodyPost_ret (v := .agg #[.int .i64 2, .int .i64 0, .slice none 0 0, .slice none 0 0]) (by simp [results, Tryz.results47, go_sem, s0, s1, s2, s3]) rfl (OutL.empty (below_res4 HB.out.2.1 _ _ _ _))
    · have hx1 : 1 ≤ x.size := by omega
      have hx3 : x.size ≤ 300 := by omega
      obtain ⟨k, hk⟩ : ∃ k, k = num ss x := ⟨_, rfl⟩
      have HK : Hid (num ss x = k) := hk.symm
      have HS : Hid (¬ (x.size < 1 ∨ 300 < x.size)) := hs
      have HC : Hid (0 = flt ss gs) := hc
      clear hs hc hk
      obtain ⟨i0, hi, hz0, hz1, hz2⟩ := info_parts Tryz.infoStr
      go_enter Tryz.func47, Tryz.ntmps47
      go_wp2_with (first
        | (go_at_call 26; refine hfl.mono ?_; rintro e w2 ⟨rfl, HB⟩; obtain ⟨r0, r1⟩ := cells2 HB.out.2.2)
        | (go_at_call 104; refine (l1Copy_opt ta ga n m tc gc ss gs w2 h60 h120 hta hga (HL.out.below HB.out.2.1 (Nat.le_refl _))).mono ?_; rintro e w3 ⟨g0, k0, g1, k1, rfl, ho3, hb3⟩; have HB4 := (HB.out.step hb3).out.step (below_box (.cells #[.slice (some ⟨g0, 0, none⟩) n k0, .slice (some ⟨g1, 0, none⟩) m k1] 27)); clear r0 r1; obtain ⟨r0, r1⟩ := cells2 HB4.out.2.2; obtain ⟨q0, q1, q2, q3, q4, q5, q6, q7⟩ := cells4 HB4.out.1; have hat := l1At_any _ n tc ss x _ HNM.out (HL.out.s.below HB4.out.2.1 (Nat.le_refl _)); rw [HK.out] at hat; have hzz := HB.out.lt; have hz3 := hb3.size; have HO4 : Hid (OwnL (w3.alloc (.cells #[.slice (some ⟨g0, 0, none⟩) n k0, .slice (some ⟨g1, 0, none⟩) m k1] 27)) w2.heap.size n m ss gs g0 k0 g1 k1) := ho3.below (below_box _); have HX4 : Hid ((w3.alloc (.cells #[.slice (some ⟨g0, 0, none⟩) n k0, .slice (some ⟨g1, 0, none⟩) m k1] 27)).heap[w3.heap.size]? = some (.cells #[.slice (some ⟨g0, 0, none⟩) n k0, .slice (some ⟨g1, 0, none⟩) m k1] 27 (0, 0))) := heap_alloc_new _ _; clear ho3 hb3)
        | (go_at_call 31; refine hat.mono ?_; rintro e w4 ⟨rfl, hw⟩; subst hw)
        | (at_builtin; go_must (refine wpList_append_lies _ (by rfl) _ _ 24 (by rfl) w2.heap.size 9 i0 (.string ByteArray.empty) 1 16 Tryz.underlying24 hi hz0 hz1 hz2 rfl (by omega) (.slice (some ⟨g0, 0, none⟩) n k0) n (ss.map Value.string) (by rfl) (HO4.out.1.alloc _) ⟨w3.heap.size + 1, 0, none⟩ 1 1 [.string x] (by rfl) (by rfl) (newsT (heap_at _ _ _ (by simp))) oneS (by omega) (by unfold maxLen; omega) (by omega) (by simp; omega) (w3.heap.size + 2) (by simp) ?_; intro g cap w5 ho5 hg5 hat2 hlt2; obtain ⟨y0, y1, y2, m0, m1, HN5, z0, z1, z2, z3, z4, z5, z6, z7⟩ := nt_new HB4.out HO4.out HX4.out ho5 hg5 (by omega) hz3; clear r0 r1 q0 q1 q2 q3 q4 q5 q6 q7 ho5 hg5 hat2 hlt2)))
      · have hk0 : 0 < k := by assumption
        have hr := noteR_old HC.out HS.out HK.out.symm (by omega)
        obtain ⟨s0, s1, s2, s3⟩ := four_set HB4.out.1 (.int .i64 0) (.int .i64 k) (.slice (some ⟨g0, 0, none⟩) n k0) (.slice (some ⟨g1, 0, none⟩) m k1)
        refine bodyPost_ret (v := .agg #[.int .i64 0, .int .i64 k, .slice (some ⟨g0, 0, none⟩) n k0, .slice (some ⟨g1, 0, none⟩) m k1]) (by simp [results, Tryz.results47, go_sem, s0, s1, s2, s3]) rfl ?_
        rw [hr]
        refine ⟨below_res4 HB4.out.2.1 _ _ _ _, some ⟨g0, 0, none⟩, k0, some ⟨g1, 0, none⟩, k1, by simp only [HN.out, HM.out], ?_, ?_⟩
        · simp only [HN.out]
          exact row_res4 HO4.out.1 (by omega) (by omega) _ _ _ _
        · simp only [HM.out]
          exact row_res4 HO4.out.2 (by omega) (by omega) _ _ _ _
      · have hk0 : ¬ 0 < k := by assumption
        have hn60 : (60 : Int) ≤ (n : Int) := by assumption
        have hr := noteR_full HN.out HC.out HS.out (by rw [HK.out]; omega) (by omega)
        obtain ⟨s0, s1, s2, s3⟩ := four_set HB4.out.1 (.int .i64 2) (.int .i64 0) (.slice none 0 0) (.slice none 0 0)
        refine bodyPost_ret (v := .agg #[.int .i64 2, .int .i64 0, .slice none 0 0, .slice none 0 0]) (by simp [results, Tryz.results47, go_sem, s0, s1, s2, s3]) rfl ?_
        rw [hr]
        exact OutL.empty (below_res4 HB4.out.2.1 _ _ _ _)
      · have hk0 : ¬ 0 < k := by assumption
        have hn60 : (n : Int) < (60 : Int) := by assumption
        have hr := noteR_new HN.out HC.out HS.out (by rw [HK.out]; omega) (by omega)
        obtain ⟨s0, s1, s2, s3⟩ := four_set HN5.out.1.1 (.int .i64 0) (.int .i64 ((n : Int) + 1)) (.slice (some ⟨g, 0, none⟩) (n + 1) cap) (.slice (some ⟨g1, 0, none⟩) m k1)
        refine bodyPost_ret (v := .agg #[.int .i64 0, .int .i64 ((n : Int) + 1), .slice (some ⟨g, 0, none⟩) (n + 1) cap, .slice (some ⟨g1, 0, none⟩) m k1]) (by simp [results, Tryz.results47, go_sem, s0, s1, s2, s3]) rfl ?_
        rw [hr]
        have e1 : (ss ++ [x]).length = n + 1 := by simp [HN.out]
        refine ⟨below_res4 HN5.out.1.2.1 _ _ _ _, some ⟨g, 0, none⟩, cap, some ⟨g1, 0, none⟩, k1, by simp only [e1, HM.out], ?_, ?_⟩
        · simp only [e1, List.map_append]
          exact row_res4 HN5.out.2.1 (by omega) (by omega) _ _ _ _
        · simp only [HM.out]
          exact row_res4 HN5.out.2.2 (by omega) (by omega) _ _ _ _
  · rw [noteR_bad hc hcz]
    clear hc
    go_enter Tryz.func47, Tryz.ntmps47
    go_wp2_with (first | (go_at_call 26; refine hfl.mono ?_; rintro e w2 ⟨rfl, HB⟩; obtain ⟨q0, q1, q2, q3, q4, q5, q6, q7⟩ := cells4 HB.out.1))
    obtain ⟨s0, s1, s2, s3⟩ := four_set HB.out.1 (.int .i64 c) (.int .i64 0) (.slice none 0 0) (.slice none 0 0)
    exact bodyPost_ret (v := .agg #[.int .i64 c, .int .i64 0, .slice none 0 0, .slice none 0 0]) (by simp [results, Tryz.results47, go_sem, s0, s1, s2, s3]) rfl (OutL.empty (below_res4 HB.out.2.1 _ _ _ _))

end Go.Proofs.YtagokfoimokniaaGreatDoor

namespace Go.Proofs.YtagokfoimokniaaGreatDoor
open Go.RowKit Go.Maps Go.WideMaps

def signR (ss : List ByteArray) (gs : List (Int × Int)) (a b : Int) : LRes :=
  if flt ss gs ≠ 0 then ⟨flt ss gs, 0, [], []⟩ else if inB a 1 999 = false ∨ inB b 1 ss.length = false then ⟨3, 0, [], []⟩ else if memB gs (a, b) = true then ⟨0, b, ss, gs⟩ else if 120 ≤ gs.length then ⟨2, 0, [], []⟩ else ⟨0, b, ss, gs ++ [(a, b)]⟩

section
variable {ss : List ByteArray} {gs : List (Int × Int)} {a b : Int} {n m : Nat}
theorem signR_bad {c : Int} (h : c = flt ss gs) (h0 : c ≠ 0) : signR ss gs a b = ⟨c, 0, [], []⟩ := by unfold signR; rw [← h, if_pos h0]
theorem signR_range (hn : ss.length = n) (h : 0 = flt ss gs) (h1 : inB a 1 999 = false ∨ inB b 1 n = false) : signR ss gs a b = ⟨3, 0, [], []⟩ := by unfold signR; rw [← h, if_neg (by simp), hn, if_pos h1]
theorem signR_old (hn : ss.length = n) (h : 0 = flt ss gs) (h1 : inB a 1 999 = true) (h2 : inB b 1 n = true) (hk : true = memB gs (a, b)) : signR ss gs a b = ⟨0, b, ss, gs⟩ := by unfold signR; rw [← h, if_neg (by simp), hn, if_neg (by simp [h1, h2]), if_pos hk.symm]
theorem signR_full (hn : ss.length = n) (hm : gs.length = m) (h : 0 = flt ss gs) (h1 : inB a 1 999 = true) (h2 : inB b 1 n = true) (hk : false = memB gs (a, b)) (h120 : 120 ≤ m) : signR ss gs a b = ⟨2, 0, [], []⟩ := by unfold signR; rw [← h, if_neg (by simp), hn, if_neg (by simp [h1, h2]), if_neg (by simp [← hk]), hm, if_pos h120]
theorem signR_new (hn : ss.length = n) (hm : gs.length = m) (h : 0 = flt ss gs) (h1 : inB a 1 999 = true) (h2 : inB b 1 n = true) (hk : false = memB gs (a, b)) (h120 : ¬ 120 ≤ m) : signR ss gs a b = ⟨0, b, ss, gs ++ [(a, b)]⟩ := by unfold signR; rw [← h, if_neg (by simp), hn, if_neg (by simp [h1, h2]), if_neg (by simp [← hk]), hm, if_neg h120]
end

/-- What the append of a signature leaves. -/
theorem sg_new {w V w5 : World} {a0 a1 : Value} {n m g0 k0 g1 k1 g cap base K : Nat} {ss : List ByteArray} {gs : List (Int × Int)} {o : Obj} {zs : List Value}
    (HB : Box4 w V a0 a1 27) (HO : OwnL V base n m ss gs g0 k0 g1 k1) (HX : V.heap[K]? = some (.cells #[.slice (some ⟨g0, 0, none⟩) n k0, .slice (some ⟨g1, 0, none⟩) m k1] 27 (0, 0)))
    (ho : w5.ownsRow base 111 2 (.slice (some ⟨g, 0, none⟩) (m + 1) cap) (m + 1) zs) (hg : (V.alloc o).grownBy w5 (Value.ownBlock (.slice (some ⟨g1, 0, none⟩) m k1))) (h12 : w.heap.size + 1 < base) (h23 : base ≤ K) :
    w5.cell? ⟨K, 0, none⟩ = some (.slice (some ⟨g0, 0, none⟩) n k0) ∧ w5.cell? ⟨K, 1, none⟩ = some (.slice (some ⟨g1, 0, none⟩) m k1) ∧ w5.frozen? ⟨K, 1, none⟩ = false ∧
    (w5.setCell ⟨K, 1, none⟩ (.slice (some ⟨g, 0, none⟩) (m + 1) cap)).cell? ⟨K, 0, none⟩ = some (.slice (some ⟨g0, 0, none⟩) n k0) ∧
    (w5.setCell ⟨K, 1, none⟩ (.slice (some ⟨g, 0, none⟩) (m + 1) cap)).cell? ⟨K, 1, none⟩ = some (.slice (some ⟨g, 0, none⟩) (m + 1) cap) ∧
    Hid (Box4 w (w5.setCell ⟨K, 1, none⟩ (.slice (some ⟨g, 0, none⟩) (m + 1) cap)) a0 a1 27 ∧ (w5.setCell ⟨K, 1, none⟩ (.slice (some ⟨g, 0, none⟩) (m + 1) cap)).ownsRow base 9 1 (.slice (some ⟨g0, 0, none⟩) n k0) n (ss.map Value.string) ∧
      (w5.setCell ⟨K, 1, none⟩ (.slice (some ⟨g, 0, none⟩) (m + 1) cap)).ownsRow base 111 2 (.slice (some ⟨g, 0, none⟩) (m + 1) cap) (m + 1) zs) ∧
    (w5.setCell ⟨K, 1, none⟩ (.slice (some ⟨g, 0, none⟩) (m + 1) cap)).cell? ⟨w.heap.size + 1, 0, none⟩ = some (.int .i64 0) ∧ (w5.setCell ⟨K, 1, none⟩ (.slice (some ⟨g, 0, none⟩) (m + 1) cap)).cell? ⟨w.heap.size + 1, 1, none⟩ = some (.int .i64 0) ∧ (w5.setCell ⟨K, 1, none⟩ (.slice (some ⟨g, 0, none⟩) (m + 1) cap)).cell? ⟨w.heap.size + 1, 2, none⟩ = some (.slice none 0 0) ∧ (w5.setCell ⟨K, 1, none⟩ (.slice (some ⟨g, 0, none⟩) (m + 1) cap)).cell? ⟨w.heap.size + 1, 3, none⟩ = some (.slice none 0 0) ∧
    (w5.setCell ⟨K, 1, none⟩ (.slice (some ⟨g, 0, none⟩) (m + 1) cap)).frozen? ⟨w.heap.size + 1, 0, none⟩ = false ∧ (w5.setCell ⟨K, 1, none⟩ (.slice (some ⟨g, 0, none⟩) (m + 1) cap)).frozen? ⟨w.heap.size + 1, 1, none⟩ = false ∧ (w5.setCell ⟨K, 1, none⟩ (.slice (some ⟨g, 0, none⟩) (m + 1) cap)).frozen? ⟨w.heap.size + 1, 2, none⟩ = false ∧ (w5.setCell ⟨K, 1, none⟩ (.slice (some ⟨g, 0, none⟩) (m + 1) cap)).frozen? ⟨w.heap.size + 1, 3, none⟩ = false := by
  have hgX : ∃ cur, V.heap[g1]? = some (.cells cur 111 (0, 0)) := by
    rcases HO.2.2 with ⟨e, _⟩ | ⟨g', c', cur, e, _, hh, _⟩
    · cases e
    · simp at e
      obtain ⟨rfl, rfl⟩ := e
      exact ⟨cur, hh⟩
  obtain ⟨cur, hcur⟩ := hgX
  have kp : ∀ {b : Nat} {cs : Array Value} {t : TypeId}, V.heap[b]? = some (.cells cs t (0, 0)) → t ≠ 111 → w5.heap[b]? = some (.cells cs t (0, 0)) := by
    intro b cs t hb hne
    have hbl := lt_of_block hb
    have hbg : b ≠ g1 := by rintro rfl; rw [hb] at hcur; simp at hcur; exact hne hcur.2
    exact (hg.block b (by simp only [World.size_alloc]; omega) (by simpa [Value.ownBlock] using hbg)).trans ((Below.heap_alloc _ _ b hbl).trans hb)
  have hX5 := kp HX (by decide)
  have hR5 := kp HB.1 (by decide)
  have hA5 := kp HB.2.2 (by decide)
  have hne1 : w.heap.size + 1 ≠ K := by omega
  have hne0 : w.heap.size ≠ K := by omega
  have hB5 : Below w.heap.size w w5 := (HB.2.1.alloc HB.2.1.size _).grown hg (by have := HB.2.1.size; simp only [World.size_alloc] at this ⊢; omega) (fun j hj => by have := (HO.2.lt j hj).1; omega)
  have hX6 : (w5.setCell ⟨K, 1, none⟩ (.slice (some ⟨g, 0, none⟩) (m + 1) cap)).heap[K]? = some (.cells #[.slice (some ⟨g0, 0, none⟩) n k0, .slice (some ⟨g, 0, none⟩) (m + 1) cap] 27 (0, 0)) := by
    have := Joins.block_setCell (i := 1) hX5 (.slice (some ⟨g, 0, none⟩) (m + 1) cap)
    simpa using this
  have hR6 := (Below.heap_setCell w5 ⟨K, 1, none⟩ (.slice (some ⟨g, 0, none⟩) (m + 1) cap) (w.heap.size + 1) hne1).trans hR5
  have hA6 := (Below.heap_setCell w5 ⟨K, 1, none⟩ (.slice (some ⟨g, 0, none⟩) (m + 1) cap) w.heap.size hne0).trans hA5
  have hgr := keep_row (X := g1) hg ((Below.heap_alloc _ _ g1 (lt_of_block hcur)).trans hcur) (HO.1.alloc _) (by decide)
  refine ⟨(cells2 hX5).1, (cells2 hX5).2, Joins.unfrozen_of_block hX5 1, (cells2 hX6).1, (cells2 hX6).2, ⟨⟨hR6, hB5.setCell (p := ⟨K, 1, none⟩) (show w.heap.size ≤ K by omega) _, hA6⟩, row_set_other hgr hX5 (by decide) _, row_set_other ho hX5 (by decide) _⟩, cells4 hR6⟩

/-- What lies behind the copy and the signature's box. -/
structure Sx (w V : World) (a0 a1 : Value) (base K X n m : Nat) (ss : List ByteArray) (gs : List (Int × Int)) (g0 k0 g1 k1 : Nat) (a b : Int) : Prop where
  r : Box4 w V a0 a1 27
  o : OwnL V base n m ss gs g0 k0 g1 k1
  k : V.heap[K]? = some (.cells #[.slice (some ⟨g0, 0, none⟩) n k0, .slice (some ⟨g1, 0, none⟩) m k1] 27 (0, 0))
  x : V.heap[X]? = some (.cells #[.int .i64 a, .int .i64 b] 111 (0, 0))

theorem Sx.step {w V V' : World} {a0 a1 : Value} {base K X n m : Nat} {ss : List ByteArray} {gs : List (Int × Int)} {g0 k0 g1 k1 : Nat} {a b : Int} (h : Sx w V a0 a1 base K X n m ss gs g0 k0 g1 k1 a b) (hb : Below V.heap.size V V') : Sx w V' a0 a1 base K X n m ss gs g0 k0 g1 k1 a b :=
  ⟨(h.r.step hb).out, h.o.below hb, (keepb h.k hb).out, (keepb h.x hb).out⟩

theorem Sx.start {w w2 w3 : World} {a0 a1 : Value} {n m : Nat} {ss : List ByteArray} {gs : List (Int × Int)} {g0 k0 g1 k1 : Nat} {a b : Int} (h : Box4 w w2 a0 a1 27) (ho : OwnL w3 w2.heap.size n m ss gs g0 k0 g1 k1) (hb : Below w2.heap.size w2 w3) :
    Sx w ((w3.alloc (.cells #[.slice (some ⟨g0, 0, none⟩) n k0, .slice (some ⟨g1, 0, none⟩) m k1] 27)).alloc (.cells #[.int .i64 a, .int .i64 b] 111)) a0 a1 w2.heap.size w3.heap.size (w3.heap.size + 1) n m ss gs g0 k0 g1 k1 a b :=
  ⟨((h.step hb).out.step (below_box2 _ _)).out, ho.below (below_box2 _ _), block_at2, heap_at _ _ _ (by simp)⟩

end Go.Proofs.YtagokfoimokniaaGreatDoor

namespace Go.Proofs.YtagokfoimokniaaGreatDoor
open Go.RowKit Go.Maps Go.WideMaps

set_option maxRecDepth 20000 in
set_option maxHeartbeats 2000000 in
theorem sSignId_opt (n m tc gc : Nat) (ta ga : Option Addr) (ss : List ByteArray) (gs : List (Int × Int)) (a b : Int) (w : World) (htc : n ≤ tc) (hgc : m ≤ gc) (htm : tc ≤ maxLen) (hgm : gc ≤ maxLen) (hta : ta = none → tc = 0) (hga : ga = none → gc = 0) (hf : Fine ss gs) (h : LedAt w ta n ga m ss gs) :
    Calls Tryz.prog 50 #[.agg #[.slice ta n tc, .slice ga m gc], .int .i64 a, .int .i64 b] w fun e w' => OutL w w' e (signR ss gs a b) := by
  have hfl := l1Fault_box4 n m tc gc _ _ ss gs w htc hgc htm hgm hf h
  have HL : Hid (LedAt w ta n ga m ss gs) := h
  have HMM : Hid (m ≤ maxLen) := Nat.le_trans hgc hgm
  have HN : Hid (ss.length = n) := h.s.1
  have HM : Hid (gs.length = m) := h.g.1
  clear h hf htc hgc htm hgm
  obtain ⟨c, hc⟩ : ∃ c, c = flt ss gs := ⟨_, rfl⟩
  rw [← hc] at hfl
  by_cases hcz : c = 0
  · subst hcz
    have hlen := flt_le hc
    rw [HN.out, HM.out] at hlen
    have h60 := hlen.1
    have h120 := hlen.2
    clear hlen
    obtain ⟨ka, hka⟩ : ∃ ka, ka = inB a 1 999 := ⟨_, rfl⟩
    obtain ⟨kb, hkb⟩ : ∃ kb, kb = inB b 1 n := ⟨_, rfl⟩
    have hkey : ∀ v, Calls Tryz.prog 59 #[.int .i64 a] v fun e w' => e = .returned (.bool ka) ∧ w' = v := fun v => by rw [hka]; exact l1Key_any a v
    have hid : ∀ v, v.cell? ⟨w.heap.size, 0, none⟩ = some (.slice ta n tc) → Calls Tryz.prog 105 #[.pointer (some ⟨w.heap.size, 0, none⟩), .int .i64 b] v fun e w' => e = .returned (.bool kb) ∧ w' = v := fun v hv => by rw [hkb]; exact l1Id_any w.heap.size n tc _ b v hv
    by_cases hs : ka = false ∨ kb = false
    · have hr := signR_range (a := a) (b := b) HN.out hc (by rw [← hka, ← hkb]; exact hs)
      rw [hr]
      clear hc hr hka hkb
      have hs2 : ka = false ∨ ka = true ∧ kb = false := by rcases hs with h | h <;> cases ka <;> simp_all
      clear hs
      rcases hs2 with rfl | ⟨rfl, rfl⟩
      all_goals
        go_enter Tryz.func50, Tryz.ntmps50
        go_wp2_with (first
          | (go_at_call 26; refine hfl.mono ?_; rintro e w2 ⟨rfl, HB⟩; obtain ⟨r0, r1⟩ := cells2 HB.out.2.2; obtain ⟨q0, q1, q2, q3, q4, q5, q6, q7⟩ := cells4 HB.out.1)
          | (go_at_call 59; refine (hkey _).mono ?_; rintro e w' ⟨rfl, hw⟩; have hw2 := hw.symm; subst hw2)
          | (go_at_call 105; refine (hid _ r0).mono ?_; rintro e w' ⟨rfl, hw⟩; have hw2 := hw.symm; subst hw2))
        obtain ⟨s0, s1, s2, s3⟩ := four_set HB.out.1 (.int .i64 3) (.int .i64 0) (.slice none 0 0) (.slice none 0 0)
        exact bodyPost_ret (v := .agg #[.int .i64 3, .int .i64 0, .slice none 0 0, .slice none 0 0]) (by simp [results, Tryz.results50, go_sem, s0, s1, s2, s3]) rfl (OutL.empty (below_res4 HB.out.2.1 _ _ _ _))
    · obtain rfl : ka = true := by cases ka <;> simp_all
      obtain rfl : kb = true := by cases kb <;> simp_all
      obtain ⟨mb, hmb⟩ : ∃ mb, mb = memB gs (a, b) := ⟨_, rfl⟩
      have HK : Hid (memB gs (a, b) = mb) := hmb.symm
      have HA : Hid (inB a 1 999 = true) := hka.symm
      have HBB : Hid (inB b 1 n = true) := hkb.symm
      have HC : Hid (0 = flt ss gs) := hc
      clear hs hc hmb hka hkb
      obtain ⟨i0, hi, hz0, hz1, hz2⟩ := info_parts Tryz.infoSig
      cases mb with
      | true =>
        have hr := signR_old HN.out HC.out HA.out HBB.out HK.out.symm
        go_enter Tryz.func50, Tryz.ntmps50
        go_wp2_with (first
          | (go_at_call 26; refine hfl.mono ?_; rintro e w2 ⟨rfl, HB⟩; obtain ⟨r0, r1⟩ := cells2 HB.out.2.2)
          | (go_at_call 59; refine (hkey _).mono ?_; rintro e w' ⟨rfl, hw⟩; have hw2 := hw.symm; subst hw2)
          | (go_at_call 105; refine (hid _ r0).mono ?_; rintro e w' ⟨rfl, hw⟩; have hw2 := hw.symm; subst hw2)
          | (go_at_call 104; refine (l1Copy_opt ta ga n m tc gc ss gs w2 h60 h120 hta hga (HL.out.below HB.out.2.1 (Nat.le_refl _))).mono ?_; rintro e w3 ⟨g0, k0, g1, k1, rfl, ho3, hb3⟩; have HSX := Sx.start (a := a) (b := b) HB.out ho3 hb3; obtain ⟨y0, y1⟩ := cells2 HSX.r.2.2; obtain ⟨x0, x1⟩ := cells2 HSX.x; have hsg := l1Signed_any _ m gc gs a b _ HMM.out (HL.out.g.below HSX.r.2.1 (Nat.le_refl _)); rw [HK.out] at hsg; have hzz := HB.out.lt; have hz3 := hb3.size; have HS : Hid (Sx w ((w3.alloc (.cells #[.slice (some ⟨g0, 0, none⟩) n k0, .slice (some ⟨g1, 0, none⟩) m k1] 27)).alloc (.cells #[.int .i64 a, .int .i64 b] 111)) (.slice ta n tc) (.slice ga m gc) w2.heap.size w3.heap.size (w3.heap.size + 1) n m ss gs g0 k0 g1 k1 a b) := HSX; clear ho3 hb3 r0 r1 HSX)
          | (go_at_call 61; refine hsg.mono ?_; rintro e w5 ⟨rfl, hb5⟩; have HS5 : Hid (Sx w w5 (.slice ta n tc) (.slice ga m gc) w2.heap.size w3.heap.size (w3.heap.size + 1) n m ss gs g0 k0 g1 k1 a b) := HS.out.step hb5; clear y0 y1 x0 x1 hb5; obtain ⟨y0, y1⟩ := cells2 HS5.out.r.2.2; obtain ⟨x0, x1⟩ := cells2 HS5.out.x; obtain ⟨z0, z1⟩ := cells2 HS5.out.k; obtain ⟨q0, q1, q2, q3, q4, q5, q6, q7⟩ := cells4 HS5.out.r.1))
        obtain ⟨s0, s1, s2, s3⟩ := four_set HS5.out.r.1 (.int .i64 0) (.int .i64 b) (.slice (some ⟨g0, 0, none⟩) n k0) (.slice (some ⟨g1, 0, none⟩) m k1)
        refine bodyPost_ret (v := .agg #[.int .i64 0, .int .i64 b, .slice (some ⟨g0, 0, none⟩) n k0, .slice (some ⟨g1, 0, none⟩) m k1]) (by simp [results, Tryz.results50, go_sem, s0, s1, s2, s3]) rfl ?_
        rw [hr]
        refine ⟨below_res4 HS5.out.r.2.1 _ _ _ _, some ⟨g0, 0, none⟩, k0, some ⟨g1, 0, none⟩, k1, by simp only [HN.out, HM.out], ?_, ?_⟩
        · simp only [HN.out]
          exact row_res4 HS5.out.o.1 (by omega) (by omega) _ _ _ _
        · simp only [HM.out]
          exact row_res4 HS5.out.o.2 (by omega) (by omega) _ _ _ _
      | false =>
        go_enter Tryz.func50, Tryz.ntmps50
        go_wp2_with (first
          | (go_at_call 26; refine hfl.mono ?_; rintro e w2 ⟨rfl, HB⟩; obtain ⟨r0, r1⟩ := cells2 HB.out.2.2)
          | (go_at_call 59; refine (hkey _).mono ?_; rintro e w' ⟨rfl, hw⟩; have hw2 := hw.symm; subst hw2)
          | (go_at_call 105; refine (hid _ r0).mono ?_; rintro e w' ⟨rfl, hw⟩; have hw2 := hw.symm; subst hw2)
          | (go_at_call 104; refine (l1Copy_opt ta ga n m tc gc ss gs w2 h60 h120 hta hga (HL.out.below HB.out.2.1 (Nat.le_refl _))).mono ?_; rintro e w3 ⟨g0, k0, g1, k1, rfl, ho3, hb3⟩; have HSX := Sx.start (a := a) (b := b) HB.out ho3 hb3; obtain ⟨y0, y1⟩ := cells2 HSX.r.2.2; obtain ⟨x0, x1⟩ := cells2 HSX.x; have hsg := l1Signed_any _ m gc gs a b _ HMM.out (HL.out.g.below HSX.r.2.1 (Nat.le_refl _)); rw [HK.out] at hsg; have hzz := HB.out.lt; have hz3 := hb3.size; have HS : Hid (Sx w ((w3.alloc (.cells #[.slice (some ⟨g0, 0, none⟩) n k0, .slice (some ⟨g1, 0, none⟩) m k1] 27)).alloc (.cells #[.int .i64 a, .int .i64 b] 111)) (.slice ta n tc) (.slice ga m gc) w2.heap.size w3.heap.size (w3.heap.size + 1) n m ss gs g0 k0 g1 k1 a b) := HSX; clear ho3 hb3 r0 r1 HSX)
          | (go_at_call 61; refine hsg.mono ?_; rintro e w5 ⟨rfl, hb5⟩; have HS5 : Hid (Sx w w5 (.slice ta n tc) (.slice ga m gc) w2.heap.size w3.heap.size (w3.heap.size + 1) n m ss gs g0 k0 g1 k1 a b) := HS.out.step hb5; clear y0 y1 x0 x1 hb5; obtain ⟨y0, y1⟩ := cells2 HS5.out.r.2.2; obtain ⟨x0, x1⟩ := cells2 HS5.out.x; obtain ⟨z0, z1⟩ := cells2 HS5.out.k; obtain ⟨q0, q1, q2, q3, q4, q5, q6, q7⟩ := cells4 HS5.out.r.1)
          | (at_builtin; go_must (refine wpList_append_lies _ (by rfl) _ _ 25 (by rfl) w2.heap.size 111 i0 (.agg #[.int .i64 0, .int .i64 0]) 2 16 Tryz.underlying25 hi hz0 hz1 hz2 rfl (by omega) (.slice (some ⟨g1, 0, none⟩) m k1) m (gcells gs) (by rfl) (HS5.out.o.2.alloc _) ⟨w5.heap.size, 0, none⟩ 1 1 [.int .i64 a, .int .i64 b] (by rfl) (by rfl) (news2 (heap_at _ _ _ rfl)) one2 (by omega) (by unfold maxLen; omega) (by omega) (by have := HS5.out.r.lt; have := lt_of_block HS5.out.k; simp; omega) (w5.heap.size + 1) (by simp) ?_; intro g cap w6 ho6 hg6 hat2 hlt2; obtain ⟨u0, u1, u2, m0, m1, HN6, v0, v1, v2, v3, v4, v5, v6, v7⟩ := sg_new HS5.out.r HS5.out.o HS5.out.k ho6 hg6 (by omega) hz3; clear y0 y1 x0 x1 z0 z1 q0 q1 q2 q3 q4 q5 q6 q7 ho6 hg6 hat2 hlt2)))
        · have hn120 : (120 : Int) ≤ (m : Int) := by assumption
          have hr := signR_full HN.out HM.out HC.out HA.out HBB.out HK.out.symm (by omega)
          obtain ⟨s0, s1, s2, s3⟩ := four_set HS5.out.r.1 (.int .i64 2) (.int .i64 0) (.slice none 0 0) (.slice none 0 0)
          refine bodyPost_ret (v := .agg #[.int .i64 2, .int .i64 0, .slice none 0 0, .slice none 0 0]) (by simp [results, Tryz.results50, go_sem, s0, s1, s2, s3]) rfl ?_
          rw [hr]
          exact OutL.empty (below_res4 HS5.out.r.2.1 _ _ _ _)
        · have hn120 : (m : Int) < (120 : Int) := by assumption
          have hr := signR_new HN.out HM.out HC.out HA.out HBB.out HK.out.symm (by omega)
          obtain ⟨s0, s1, s2, s3⟩ := four_set HN6.out.1.1 (.int .i64 0) (.int .i64 b) (.slice (some ⟨g0, 0, none⟩) n k0) (.slice (some ⟨g, 0, none⟩) (m + 1) cap)
          refine bodyPost_ret (v := .agg #[.int .i64 0, .int .i64 b, .slice (some ⟨g0, 0, none⟩) n k0, .slice (some ⟨g, 0, none⟩) (m + 1) cap]) (by simp [results, Tryz.results50, go_sem, s0, s1, s2, s3]) rfl ?_
          rw [hr]
          have e1 : (gs ++ [(a, b)]).length = m + 1 := by simp [HM.out]
          have e2 : gcells (gs ++ [(a, b)]) = gcells gs ++ [.int .i64 a, .int .i64 b] := by simp [gcells]
          refine ⟨below_res4 HN6.out.1.2.1 _ _ _ _, some ⟨g0, 0, none⟩, k0, some ⟨g, 0, none⟩, cap, by simp only [e1, HN.out], ?_, ?_⟩
          · simp only [HN.out]
            exact row_res4 HN6.out.2.1 (by omega) (by omega) _ _ _ _
          · simp only [e1, e2]
            exact row_res4 HN6.out.2.2 (by omega) (by omega) _ _ _ _
  · rw [signR_bad hc hcz]
    clear hc
    go_enter Tryz.func50, Tryz.ntmps50
    go_wp2_with (first | (go_at_call 26; refine hfl.mono ?_; rintro e w2 ⟨rfl, HB⟩; obtain ⟨q0, q1, q2, q3, q4, q5, q6, q7⟩ := cells4 HB.out.1))
    obtain ⟨s0, s1, s2, s3⟩ := four_set HB.out.1 (.int .i64 c) (.int .i64 0) (.slice none 0 0) (.slice none 0 0)
    exact bodyPost_ret (v := .agg #[.int .i64 c, .int .i64 0, .slice none 0 0, .slice none 0 0]) (by simp [results, Tryz.results50, go_sem, s0, s1, s2, s3]) rfl (OutL.empty (below_res4 HB.out.2.1 _ _ _ _))

end Go.Proofs.YtagokfoimokniaaGreatDoor

namespace Go.Proofs.YtagokfoimokniaaGreatDoor
open Go.RowKit Go.Maps Go.WideMaps

theorem row_caps {v : World} {base n c size : Nat} {e : TypeId} {a : Option Addr} {xs : List Value} (h : v.ownsRow base e size (.slice a n c) n xs) : n ≤ c ∧ c ≤ maxLen ∧ (a = none → c = 0) := by
  rcases id h.2 with ⟨e, h0⟩ | ⟨g, cap, cur, e, _, _, h1, h2, _⟩
  · simp at e
    obtain ⟨rfl, rfl, rfl⟩ := e
    exact ⟨Nat.le_refl _, by unfold maxLen; omega, fun _ => rfl⟩
  · simp at e
    obtain ⟨rfl, rfl⟩ := e
    exact ⟨h1, h2, fun e => by cases e⟩
theorem satO {w : World} {base n c : Nat} {a : Option Addr} {ss : List ByteArray} (h : w.ownsRow base 9 1 (.slice a n c) n (ss.map Value.string)) : SAt w a n ss := by
  have hn : ss.length = n := by have := h.1; simpa using this
  rcases id h.2 with ⟨_, h0⟩ | ⟨g, cap, cur, e, _⟩
  · exact ⟨hn, .inl h0⟩
  · simp at e
    obtain ⟨rfl, rfl⟩ := e
    exact SAt.owned h hn
theorem gatO {w : World} {base n c : Nat} {a : Option Addr} {gs : List (Int × Int)} (h : w.ownsRow base 111 2 (.slice a n c) n (gcells gs)) : GAt w a n gs := by
  have hn : gs.length = n := by have := h.1; rw [gcells_length] at this; omega
  rcases id h.2 with ⟨_, h0⟩ | ⟨g, cap, cur, e, _⟩
  · exact ⟨hn, .inl h0⟩
  · simp at e
    obtain ⟨rfl, rfl⟩ := e
    exact GAt.owned h hn

theorem fine_nil : Fine [] [] := ⟨fun j => by simp [E0, maxLen], fun j => by simp [G0]; decide⟩
theorem getD_snoc {α : Type} (l : List α) (x d : α) (j : Nat) : (l ++ [x]).getD j d = l.getD j d ∨ (l ++ [x]).getD j d = x := by
  by_cases h : j < l.length
  · left; simp [List.getD, List.getElem?_append_left h]
  · by_cases h2 : j = l.length
    · right; subst h2; simp [List.getD]
    · left
      rw [List.getD, List.getD, List.getElem?_eq_none (by simp; omega), List.getElem?_eq_none (by omega)]
theorem Fine.text {ss : List ByteArray} {gs : List (Int × Int)} (h : Fine ss gs) {x : ByteArray} (hx : x.size ≤ maxLen) : Fine (ss ++ [x]) gs :=
  ⟨fun j => by
    rcases getD_snoc ss x E0 j with e | e
    · rw [e]; exact h.s j
    · rw [e]; exact hx, h.g⟩
theorem Fine.sign {ss : List ByteArray} {gs : List (Int × Int)} (h : Fine ss gs) {a b : Int} (ha : (Lit.int .i64 a).wf = true) (hb : (Lit.int .i64 b).wf = true) : Fine ss (gs ++ [(a, b)]) :=
  ⟨h.s, fun j => by
    rcases getD_snoc gs (a, b) G0 j with e | e
    · rw [e]; exact h.g j
    · rw [e]; exact ⟨ha, hb⟩⟩
theorem Fine.note {ss : List ByteArray} {gs : List (Int × Int)} (h : Fine ss gs) {x : ByteArray} (hx : x.size ≤ maxLen) : Fine (noteR ss gs x).s (noteR ss gs x).g := by
  unfold noteR
  split
  · exact fine_nil
  · split
    · exact fine_nil
    · split
      · exact h
      · split
        · exact fine_nil
        · exact h.text hx
theorem Fine.signR {ss : List ByteArray} {gs : List (Int × Int)} (h : Fine ss gs) {a b : Int} (ha : (Lit.int .i64 a).wf = true) (hb : (Lit.int .i64 b).wf = true) : Fine (signR ss gs a b).s (signR ss gs a b).g := by
  unfold Go.Proofs.YtagokfoimokniaaGreatDoor.signR
  split
  · exact fine_nil
  · split
    · exact fine_nil
    · split
      · exact h
      · split
        · exact fine_nil
        · exact h.sign ha hb

/-- A ledger under way in block LB, a result in block RB, the source in SB. -/
structure Lr (w v V : World) (SB : Nat) (ca : Option Addr) (cn cc t RB LB : Nat) (ta : Option Addr) (n tc : Nat) (ga : Option Addr) (m gc : Nat) (ss : List ByteArray) (gs : List (Int × Int)) : Prop where
  src : Src w V SB ca cn cc t
  chg : Chg v V SB (SB + 1)
  box : V.heap[LB]? = some (.cells #[.slice ta n tc, .slice ga m gc] 27 (0, 0))
  res : V.heap[RB]? = some (.cells #[.slice none 0 0, .slice none 0 0] 27 (0, 0))
  rs : V.ownsRow v.heap.size 9 1 (.slice ta n tc) n (ss.map Value.string)
  rg : V.ownsRow v.heap.size 111 2 (.slice ga m gc) m (gcells gs)
  fine : Fine ss gs
  ord : SB < v.heap.size ∧ v.heap.size ≤ RB ∧ RB < LB

section
variable {w v V V' : World} {SB : Nat} {ca : Option Addr} {cn cc t t' RB LB : Nat} {ta : Option Addr} {n tc : Nat} {ga : Option Addr} {m gc : Nat} {ss ss' : List ByteArray} {gs gs' : List (Int × Int)}
theorem Lr.step (h : Lr w v V SB ca cn cc t RB LB ta n tc ga m gc ss gs) (hb : Below V.heap.size V V') : Lr w v V' SB ca cn cc t RB LB ta n tc ga m gc ss gs :=
  ⟨h.src.step hb, h.chg.trans (Chg.of_below hb _ _), (keepb h.box hb).out, (keepb h.res hb).out, h.rs.kept (grown_of_below hb) (by cases Value.ownBlock (.slice ta n tc) <;> simp), h.rg.kept (grown_of_below hb) (by cases Value.ownBlock (.slice ga m gc) <;> simp), h.fine, h.ord⟩
theorem Lr.draw (h : Lr w v V SB ca cn cc t RB LB ta n tc ga m gc ss gs) (hS : Src w V' SB ca cn cc t') (hc : Chg V V' SB (SB + 1)) : Lr w v V' SB ca cn cc t' RB LB ta n tc ga m gc ss gs := by
  have := h.ord
  exact ⟨hS, h.chg.trans hc, hc.keep1 h.box (by omega), hc.keep1 h.res (by omega), hc.row1 h.rs (by omega), hc.row1 h.rg (by omega), h.fine, h.ord⟩
theorem Lr.led (h : Lr w v V SB ca cn cc t RB LB ta n tc ga m gc ss gs) : LedAt V ta n ga m ss gs := ⟨satO h.rs, gatO h.rg⟩
theorem Lr.caps (h : Lr w v V SB ca cn cc t RB LB ta n tc ga m gc ss gs) : (n ≤ tc ∧ m ≤ gc ∧ tc ≤ maxLen ∧ gc ≤ maxLen) ∧ (ta = none → tc = 0) ∧ (ga = none → gc = 0) :=
  ⟨⟨(row_caps h.rs).1, (row_caps h.rg).1, (row_caps h.rs).2.1, (row_caps h.rg).2.1⟩, (row_caps h.rs).2.2, (row_caps h.rg).2.2⟩
/-- A ledger of new memory is stored in the other's place. -/
theorem Lr.put (h : Lr w v V SB ca cn cc t RB LB ta n tc ga m gc ss gs) {a0 a1 : Option Addr} {n' c0 m' c1 base : Nat} (hs : V.ownsRow base 9 1 (.slice a0 n' c0) n' (ss'.map Value.string)) (hg : V.ownsRow base 111 2 (.slice a1 m' c1) m' (gcells gs')) (hbase : v.heap.size ≤ base) (hf : Fine ss' gs') :
    Lr w v ((V.setCell ⟨LB, 0, none⟩ (.slice a0 n' c0)).setCell ⟨LB, 1, none⟩ (.slice a1 m' c1)) SB ca cn cc t RB LB a0 n' c0 a1 m' c1 ss' gs' := by
  have ho := h.ord
  have hb1 : (V.setCell ⟨LB, 0, none⟩ (.slice a0 n' c0)).heap[LB]? = some (.cells #[.slice a0 n' c0, .slice ga m gc] 27 (0, 0)) := by
    have := Joins.block_setCell (i := 0) h.box (.slice a0 n' c0)
    simpa using this
  have hb2 : ((V.setCell ⟨LB, 0, none⟩ (.slice a0 n' c0)).setCell ⟨LB, 1, none⟩ (.slice a1 m' c1)).heap[LB]? = some (.cells #[.slice a0 n' c0, .slice a1 m' c1] 27 (0, 0)) := by
    have := Joins.block_setCell (i := 1) hb1 (.slice a1 m' c1)
    simpa using this
  have kp : ∀ b, b ≠ LB → ((V.setCell ⟨LB, 0, none⟩ (.slice a0 n' c0)).setCell ⟨LB, 1, none⟩ (.slice a1 m' c1)).heap[b]? = V.heap[b]? := fun b hb =>
    (Below.heap_setCell _ ⟨LB, 1, none⟩ _ b hb).trans (Below.heap_setCell _ ⟨LB, 0, none⟩ _ b hb)
  have hbel := h.src.bel
  have hvs := h.chg.size
  refine ⟨⟨(kp SB (by omega)).trans h.src.box, (hbel.setCell (p := ⟨LB, 0, none⟩) (show w.heap.size ≤ LB by have := h.src.sb; omega) _).setCell (p := ⟨LB, 1, none⟩) (show w.heap.size ≤ LB by have := h.src.sb; omega) _, h.src.sb⟩, ?_, hb2, (kp RB (by omega)).trans h.res, ?_, ?_, hf, ho⟩
  · exact ⟨h.chg.os, h.chg.tape, h.chg.output, by simpa using hvs, fun b hb hn => (kp b (by omega)).trans (h.chg.block b hb hn)⟩
  · exact Joins.ownsRow_le (row_set_other (row_set_other hs h.box (by decide) _) hb1 (by decide) _) hbase
  · exact Joins.ownsRow_le (row_set_other (row_set_other hg h.box (by decide) _) hb1 (by decide) _) hbase
/-- The result is written. -/
theorem Lr.ret (h : Lr w v V SB ca cn cc t RB LB ta n tc ga m gc ss gs) (x y : Value) : Src w ((V.setCell ⟨RB, 0, none⟩ x).setCell ⟨RB, 1, none⟩ y) SB ca cn cc t ∧ Chg v ((V.setCell ⟨RB, 0, none⟩ x).setCell ⟨RB, 1, none⟩ y) SB (SB + 1) ∧
    ((V.setCell ⟨RB, 0, none⟩ x).setCell ⟨RB, 1, none⟩ y).ownsRow v.heap.size 9 1 (.slice ta n tc) n (ss.map Value.string) ∧ ((V.setCell ⟨RB, 0, none⟩ x).setCell ⟨RB, 1, none⟩ y).ownsRow v.heap.size 111 2 (.slice ga m gc) m (gcells gs) := by
  have ho := h.ord
  have hb1 : (V.setCell ⟨RB, 0, none⟩ x).heap[RB]? = some (.cells #[x, .slice none 0 0] 27 (0, 0)) := by
    have := Joins.block_setCell (i := 0) h.res x
    simpa using this
  have kp : ∀ b, b ≠ RB → ((V.setCell ⟨RB, 0, none⟩ x).setCell ⟨RB, 1, none⟩ y).heap[b]? = V.heap[b]? := fun b hb =>
    (Below.heap_setCell _ ⟨RB, 1, none⟩ _ b hb).trans (Below.heap_setCell _ ⟨RB, 0, none⟩ _ b hb)
  have hvs := h.chg.size
  have hsb := h.src.sb
  refine ⟨⟨(kp SB (by omega)).trans h.src.box, (h.src.bel.setCell (p := ⟨RB, 0, none⟩) (show w.heap.size ≤ RB by omega) _).setCell (p := ⟨RB, 1, none⟩) (show w.heap.size ≤ RB by omega) _, hsb⟩, ?_, ?_, ?_⟩
  · exact ⟨h.chg.os, h.chg.tape, h.chg.output, by simpa using hvs, fun b hb hn => (kp b (by omega)).trans (h.chg.block b hb hn)⟩
  · exact row_set_other (row_set_other h.rs h.res (by decide) _) hb1 (by decide) _
  · exact row_set_other (row_set_other h.rg h.res (by decide) _) hb1 (by decide) _
theorem Lr.putH (h : Lr w v V SB ca cn cc t RB LB ta n tc ga m gc ss gs) {a0 a1 : Option Addr} {n' c0 m' c1 : Nat} (hr : ∃ base, v.heap.size ≤ base ∧ V.ownsRow base 9 1 (.slice a0 n' c0) n' (ss'.map Value.string) ∧ V.ownsRow base 111 2 (.slice a1 m' c1) m' (gcells gs')) (hf : Fine ss' gs') :
    Hid (Lr w v ((V.setCell ⟨LB, 0, none⟩ (.slice a0 n' c0)).setCell ⟨LB, 1, none⟩ (.slice a1 m' c1)) SB ca cn cc t RB LB a0 n' c0 a1 m' c1 ss' gs') := by
  obtain ⟨base, hb, h1, h2⟩ := hr
  exact h.put h1 h2 hb hf

/-- A result that has been laid and is not yet written. -/
def Zx (V : World) (RX LB : Nat) : Prop := LB < RX ∧ V.heap[RX]? = some (.cells #[.int .i64 0, .int .i64 0, .slice none 0 0, .slice none 0 0] 105 (0, 0))
theorem Zx.step {RX : Nat} (h : Zx V RX LB) (hb : Below V.heap.size V V') : Zx V' RX LB := ⟨h.1, (keepb h.2 hb).out⟩
theorem Zx.draw {RX : Nat} (h : Zx V RX LB) (hc : Chg V V' SB (SB + 1)) (hl : SB < LB) : Zx V' RX LB := ⟨h.1, hc.keep1 h.2 (by have := h.1; omega)⟩
theorem Zx.new (hl : LB < V.heap.size) : Zx (V.alloc (.cells #[.int .i64 0, .int .i64 0, .slice none 0 0, .slice none 0 0] 105)) V.heap.size LB := ⟨hl, heap_alloc_new _ _⟩

/-- The result written: laid behind the call. -/
theorem Lr.boxA (h : Lr w v V SB ca cn cc t RB LB ta n tc ga m gc ss gs) {a0 a1 : Option Addr} {n' c0 m' c1 : Nat} {c i : Int} (hr : ∃ base, v.heap.size ≤ base ∧ V.ownsRow base 9 1 (.slice a0 n' c0) n' (ss'.map Value.string) ∧ V.ownsRow base 111 2 (.slice a1 m' c1) m' (gcells gs')) :
    Hid (Lr w v (V.alloc (.cells #[.int .i64 c, .int .i64 i, .slice a0 n' c0, .slice a1 m' c1] 105)) SB ca cn cc t RB LB ta n tc ga m gc ss gs) ∧
    Hid (∃ base, v.heap.size ≤ base ∧ (V.alloc (.cells #[.int .i64 c, .int .i64 i, .slice a0 n' c0, .slice a1 m' c1] 105)).ownsRow base 9 1 (.slice a0 n' c0) n' (ss'.map Value.string) ∧ (V.alloc (.cells #[.int .i64 c, .int .i64 i, .slice a0 n' c0, .slice a1 m' c1] 105)).ownsRow base 111 2 (.slice a1 m' c1) m' (gcells gs')) ∧
    Hid ((V.alloc (.cells #[.int .i64 c, .int .i64 i, .slice a0 n' c0, .slice a1 m' c1] 105)).heap[V.heap.size]? = some (.cells #[.int .i64 c, .int .i64 i, .slice a0 n' c0, .slice a1 m' c1] 105 (0, 0))) := by
  obtain ⟨base, hb, h1, h2⟩ := hr
  exact ⟨h.step (below_box _), ⟨base, hb, h1.alloc _, h2.alloc _⟩, heap_alloc_new _ _⟩

/-- The result written: laid ahead of the call. -/
theorem Lr.boxZ (h : Lr w v V SB ca cn cc t RB LB ta n tc ga m gc ss gs) {RX : Nat} (hz : Zx V RX LB) {a0 a1 : Option Addr} {n' c0 m' c1 : Nat} (c i : Int) (hr : ∃ base, v.heap.size ≤ base ∧ V.ownsRow base 9 1 (.slice a0 n' c0) n' (ss'.map Value.string) ∧ V.ownsRow base 111 2 (.slice a1 m' c1) m' (gcells gs')) :
    Hid (Lr w v ((((V.setCell ⟨RX, 0, none⟩ (.int .i64 c)).setCell ⟨RX, 1, none⟩ (.int .i64 i)).setCell ⟨RX, 2, none⟩ (.slice a0 n' c0)).setCell ⟨RX, 3, none⟩ (.slice a1 m' c1)) SB ca cn cc t RB LB ta n tc ga m gc ss gs) ∧
    Hid (∃ base, v.heap.size ≤ base ∧ ((((V.setCell ⟨RX, 0, none⟩ (.int .i64 c)).setCell ⟨RX, 1, none⟩ (.int .i64 i)).setCell ⟨RX, 2, none⟩ (.slice a0 n' c0)).setCell ⟨RX, 3, none⟩ (.slice a1 m' c1)).ownsRow base 9 1 (.slice a0 n' c0) n' (ss'.map Value.string) ∧ ((((V.setCell ⟨RX, 0, none⟩ (.int .i64 c)).setCell ⟨RX, 1, none⟩ (.int .i64 i)).setCell ⟨RX, 2, none⟩ (.slice a0 n' c0)).setCell ⟨RX, 3, none⟩ (.slice a1 m' c1)).ownsRow base 111 2 (.slice a1 m' c1) m' (gcells gs')) ∧
    Hid (((((V.setCell ⟨RX, 0, none⟩ (.int .i64 c)).setCell ⟨RX, 1, none⟩ (.int .i64 i)).setCell ⟨RX, 2, none⟩ (.slice a0 n' c0)).setCell ⟨RX, 3, none⟩ (.slice a1 m' c1)).heap[RX]? = some (.cells #[.int .i64 c, .int .i64 i, .slice a0 n' c0, .slice a1 m' c1] 105 (0, 0))) := by
  obtain ⟨base, hb, h1, h2⟩ := hr
  have ho := h.ord
  have hz1 := hz.1
  have g1 : (V.setCell ⟨RX, 0, none⟩ (.int .i64 c)).heap[RX]? = some (.cells #[.int .i64 c, .int .i64 0, .slice none 0 0, .slice none 0 0] 105 (0, 0)) := by
    have := Joins.block_setCell (i := 0) hz.2 (.int .i64 c)
    simpa using this
  have g2 : ((V.setCell ⟨RX, 0, none⟩ (.int .i64 c)).setCell ⟨RX, 1, none⟩ (.int .i64 i)).heap[RX]? = some (.cells #[.int .i64 c, .int .i64 i, .slice none 0 0, .slice none 0 0] 105 (0, 0)) := by
    have := Joins.block_setCell (i := 1) g1 (.int .i64 i)
    simpa using this
  have g3 : (((V.setCell ⟨RX, 0, none⟩ (.int .i64 c)).setCell ⟨RX, 1, none⟩ (.int .i64 i)).setCell ⟨RX, 2, none⟩ (.slice a0 n' c0)).heap[RX]? = some (.cells #[.int .i64 c, .int .i64 i, .slice a0 n' c0, .slice none 0 0] 105 (0, 0)) := by
    have := Joins.block_setCell (i := 2) g2 (.slice a0 n' c0)
    simpa using this
  have g4 : ((((V.setCell ⟨RX, 0, none⟩ (.int .i64 c)).setCell ⟨RX, 1, none⟩ (.int .i64 i)).setCell ⟨RX, 2, none⟩ (.slice a0 n' c0)).setCell ⟨RX, 3, none⟩ (.slice a1 m' c1)).heap[RX]? = some (.cells #[.int .i64 c, .int .i64 i, .slice a0 n' c0, .slice a1 m' c1] 105 (0, 0)) := by
    have := Joins.block_setCell (i := 3) g3 (.slice a1 m' c1)
    simpa using this
  have kp : ∀ b, b ≠ RX → ((((V.setCell ⟨RX, 0, none⟩ (.int .i64 c)).setCell ⟨RX, 1, none⟩ (.int .i64 i)).setCell ⟨RX, 2, none⟩ (.slice a0 n' c0)).setCell ⟨RX, 3, none⟩ (.slice a1 m' c1)).heap[b]? = V.heap[b]? := fun b hb =>
    (Below.heap_setCell _ ⟨RX, 3, none⟩ _ b hb).trans ((Below.heap_setCell _ ⟨RX, 2, none⟩ _ b hb).trans ((Below.heap_setCell _ ⟨RX, 1, none⟩ _ b hb).trans (Below.heap_setCell _ ⟨RX, 0, none⟩ _ b hb)))
  have rw4 : ∀ {base : Nat} {e : TypeId} {size k : Nat} {u : Value} {xs : List Value}, V.ownsRow base e size u k xs → e ≠ 105 → ((((V.setCell ⟨RX, 0, none⟩ (.int .i64 c)).setCell ⟨RX, 1, none⟩ (.int .i64 i)).setCell ⟨RX, 2, none⟩ (.slice a0 n' c0)).setCell ⟨RX, 3, none⟩ (.slice a1 m' c1)).ownsRow base e size u k xs := fun h he =>
    row_set_other (row_set_other (row_set_other (row_set_other h hz.2 he _) g1 he _) g2 he _) g3 he _
  have hsb := h.src.sb
  have hvs := h.chg.size
  refine ⟨⟨⟨(kp SB (by omega)).trans h.src.box, (((h.src.bel.setCell (p := ⟨RX, 0, none⟩) (show w.heap.size ≤ RX by omega) _).setCell (p := ⟨RX, 1, none⟩) (show w.heap.size ≤ RX by omega) _).setCell (p := ⟨RX, 2, none⟩) (show w.heap.size ≤ RX by omega) _).setCell (p := ⟨RX, 3, none⟩) (show w.heap.size ≤ RX by omega) _, hsb⟩, ?_, (kp LB (by omega)).trans h.box, (kp RB (by omega)).trans h.res, rw4 h.rs (by decide), rw4 h.rg (by decide), h.fine, ho⟩, ⟨base, hb, rw4 h1 (by decide), rw4 h2 (by decide)⟩, g4⟩
  exact ⟨h.chg.os, h.chg.tape, h.chg.output, by simpa using hvs, fun b hb hn => (kp b (by omega)).trans (h.chg.block b hb hn)⟩
theorem Lr.boxA4 (h : Lr w v V SB ca cn cc t RB LB ta n tc ga m gc ss gs) {a0 a1 : Option Addr} {n' c0 m' c1 : Nat} (c i : Int) (hr : ∃ base, v.heap.size ≤ base ∧ V.ownsRow base 9 1 (.slice a0 n' c0) n' (ss'.map Value.string) ∧ V.ownsRow base 111 2 (.slice a1 m' c1) m' (gcells gs')) :
    ∃ W4, W4 = (V.alloc (.cells #[.int .i64 c, .int .i64 i, .slice a0 n' c0, .slice a1 m' c1] 105)) ∧ Hid (Lr w v W4 SB ca cn cc t RB LB ta n tc ga m gc ss gs) ∧
    Hid (∃ base, v.heap.size ≤ base ∧ W4.ownsRow base 9 1 (.slice a0 n' c0) n' (ss'.map Value.string) ∧ W4.ownsRow base 111 2 (.slice a1 m' c1) m' (gcells gs')) ∧
    Hid (W4.heap[V.heap.size]? = some (.cells #[.int .i64 c, .int .i64 i, .slice a0 n' c0, .slice a1 m' c1] 105 (0, 0))) :=
  ⟨_, rfl, h.boxA hr⟩
theorem Lr.boxZ4 (h : Lr w v V SB ca cn cc t RB LB ta n tc ga m gc ss gs) {RX : Nat} (hz : Zx V RX LB) {a0 a1 : Option Addr} {n' c0 m' c1 : Nat} (c i : Int) (hr : ∃ base, v.heap.size ≤ base ∧ V.ownsRow base 9 1 (.slice a0 n' c0) n' (ss'.map Value.string) ∧ V.ownsRow base 111 2 (.slice a1 m' c1) m' (gcells gs')) :
    ∃ W4, W4 = ((((V.setCell ⟨RX, 0, none⟩ (.int .i64 c)).setCell ⟨RX, 1, none⟩ (.int .i64 i)).setCell ⟨RX, 2, none⟩ (.slice a0 n' c0)).setCell ⟨RX, 3, none⟩ (.slice a1 m' c1)) ∧ Hid (Lr w v W4 SB ca cn cc t RB LB ta n tc ga m gc ss gs) ∧
    Hid (∃ base, v.heap.size ≤ base ∧ W4.ownsRow base 9 1 (.slice a0 n' c0) n' (ss'.map Value.string) ∧ W4.ownsRow base 111 2 (.slice a1 m' c1) m' (gcells gs')) ∧
    Hid (W4.heap[RX]? = some (.cells #[.int .i64 c, .int .i64 i, .slice a0 n' c0, .slice a1 m' c1] 105 (0, 0))) :=
  ⟨_, rfl, h.boxZ hz c i hr⟩
end

end Go.Proofs.YtagokfoimokniaaGreatDoor

namespace Go.Proofs.YtagokfoimokniaaGreatDoor
open Go.RowKit Go.Maps Go.WideMaps

/-- What a draw of a ledger leaves. -/
def OutDr (w v : World) (SB : Nat) (ca : Option Addr) (cn cc t : Nat) (e : Ending) (v' : World) : Prop :=
  ∃ t' ta n tc ga m gc ss gs, e = .returned (.agg #[.slice ta n tc, .slice ga m gc]) ∧ t' ≤ t ∧ Src w v' SB ca cn cc t' ∧ Chg v v' SB (SB + 1) ∧
    v'.ownsRow v.heap.size 9 1 (.slice ta n tc) n (ss.map Value.string) ∧ v'.ownsRow v.heap.size 111 2 (.slice ga m gc) m (gcells gs) ∧ Fine ss gs ∧ n ≤ 60 ∧ m ≤ 120

theorem wf_small {a : Int} (h0 : 0 ≤ a) (h1 : a ≤ 100000) : (Lit.int .i64 a).wf = true := by
  have e1 : IntKind.i64.min = -9223372036854775808 := by decide
  have e2 : IntKind.i64.max = 9223372036854775807 := by decide
  simp only [Lit.wf, e1, e2, Bool.and_eq_true, decide_eq_true_eq]
  omega

/-- The ledger that stands in a result. -/
theorem fieldLed (a b c d : Value) (W : World) : (Instr.field 105 (.agg #[a, b, c, d]) 2).run Tryz.prog W = .ok (.agg #[c, d]) W := by
  kernel_rfl

theorem flt_two {ss : List ByteArray} {gs : List (Int × Int)} (h : ¬ flt ss gs ≠ 0) : ss.length ≤ 60 ∧ gs.length ≤ 120 := by
  have h0 : flt ss gs = 0 := by simpa using h
  by_cases hb : 60 < ss.length ∨ 120 < gs.length
  · rw [flt_many rfl rfl hb] at h0; cases h0
  · omega
theorem noteR_small (ss : List ByteArray) (gs : List (Int × Int)) (x : ByteArray) : (noteR ss gs x).s.length ≤ 60 ∧ (noteR ss gs x).g.length ≤ 120 := by
  unfold noteR
  split
  · simp
  · have := flt_two (by assumption)
    split
    · simp
    · split
      · exact this
      · split
        · simp
        · simp; omega
theorem signR_small (ss : List ByteArray) (gs : List (Int × Int)) (a b : Int) : (signR ss gs a b).s.length ≤ 60 ∧ (signR ss gs a b).g.length ≤ 120 := by
  unfold Go.Proofs.YtagokfoimokniaaGreatDoor.signR
  split
  · simp
  · have := flt_two (by assumption)
    split
    · simp
    · split
      · exact this
      · split
        · simp
        · simp; omega

set_option maxRecDepth 20000 in
set_option maxHeartbeats 6000000 in
theorem l1Right_any (SB cn cc t : Nat) (ca : Option Addr) (l : List Int) (w v : World) (ht : t ≤ 800) (hcn : cn ≤ 1048577) (hB : BAt w ca cn l) (h : Src w v SB ca cn cc t) :
    Calls Tryz.prog 51 #[.pointer (some ⟨SB, 0, none⟩)] v fun e v' => OutDr w v SB ca cn cc (t + 20) e v' := by
  have hlt := h.lt
  have hL0 : Lr w v ((v.alloc (.cells #[.slice none 0 0, .slice none 0 0] 27)).alloc (.cells #[.slice none 0 0, .slice none 0 0] 27)) SB ca cn cc t v.heap.size (v.heap.size + 1) none 0 0 none 0 0 [] [] :=
    ⟨h.step (below_box2 _ _), Chg.of_below (below_box2 _ _) _ _, heap_at _ _ _ (by simp), block_at2, World.ownsRow_nil _ _ _ _, World.ownsRow_nil _ _ _ _, fine_nil, ⟨hlt, Nat.le_refl _, Nat.lt_succ_self _⟩⟩
  have HB : Hid (BAt w ca cn l) := hB
  have hfl := fieldLed
  have hnx := l1Next_any SB cn cc t ca l 6 w _ (by omega) (by omega) hcn hB hL0.src
  have HL0 : Hid (Lr w v ((v.alloc (.cells #[.slice none 0 0, .slice none 0 0] 27)).alloc (.cells #[.slice none 0 0, .slice none 0 0] 27)) SB ca cn cc t v.heap.size (v.heap.size + 1) none 0 0 none 0 0 [] []) := hL0
  clear hB h hL0
  go_enter Tryz.func51, Tryz.ntmps51
  go_wp2_with (go_at_call 18; refine hnx.mono ?_; clear hnx; rintro e v2 ⟨r, rfl, ⟨hr0, hr1⟩, hS2, hc2⟩; have hr2 : r < 6 := hr1 (by omega); obtain ⟨k0, rfl⟩ := Int.eq_ofNat_of_zero_le hr0; have HL2 : Hid (Lr w v v2 SB ca cn cc (t + 1) v.heap.size (v.heap.size + 1) none 0 0 none 0 0 [] []) := HL0.out.draw hS2 hc2; clear hS2 hc2 hr1 HL0)
  go_loopw [4] (fun i wr => ∃ k : Nat, k ≤ 5 ∧ i = .int .i64 k ∧ ∃ t' ta n tc ga m gc ss gs, t' + k ≤ t + 6 ∧ (n ≤ 60 ∧ m ≤ 120) ∧ Hid (Lr w v wr SB ca cn cc t' v.heap.size (v.heap.size + 1) ta n tc ga m gc ss gs)) (fun i _ => (intOf i).toNat)
  case atStart => exact ⟨k0, by omega, rfl, t + 1, none, 0, 0, none, 0, 0, [], [], by omega, ⟨by omega, by omega⟩, HL2⟩
  case round =>
    obtain ⟨k, hk, rfl, t', ta, n, tc, ga, m, gc, ss, gs, htk, hnm, HL⟩ := hrel
    by_cases hpos : 0 < k
    · have hLd := HL.out.step (Below.refl _ _).drew
      have hwd := l1Word_any SB cn cc t' ca l w _ (by omega) hcn HB.out hLd.src
      obtain ⟨q0, q1⟩ := cells2 HL.out.box
      have hLl := lt_of_block HL.out.box
      have HLD : Hid (Lr w v wr.drew SB ca cn cc t' v.heap.size (v.heap.size + 1) ta n tc ga m gc ss gs) := hLd
      clear hLd
      have hki : 0 < (k : Int) := by omega
      go_wp2
      go_region_with (first
        | (go_at_call 48; refine hwd.mono ?_; rintro e u1 ⟨x, rfl, hxs, hS1, hC1⟩; have HL1 : Hid (Lr w v u1 SB ca cn cc (t' + 1) v.heap.size (v.heap.size + 1) ta n tc ga m gc ss gs) := HLD.out.draw hS1 hC1; obtain ⟨y0, y1⟩ := cells2 HL1.out.box; clear hS1 hC1)
        | (go_at_call 47; obtain ⟨⟨c1, c2, c3, c4⟩, c5, c6⟩ := HL1.out.caps; refine (sNoteText_opt n m tc gc ta ga ss gs x u1 c1 c2 c3 c4 c5 c6 HL1.out.fine HL1.out.led).mono ?_; rintro e u2 ⟨hb2, a0, d0, a1, d1, rfl, ho2, hg2⟩; have HL2 : Hid (Lr w v u2 SB ca cn cc (t' + 1) v.heap.size (v.heap.size + 1) ta n tc ga m gc ss gs) := HL1.out.step hb2; have HP : Hid (Lr w v ((u2.setCell ⟨v.heap.size + 1, 0, none⟩ (.slice a0 (noteR ss gs x).s.length d0)).setCell ⟨v.heap.size + 1, 1, none⟩ (.slice a1 (noteR ss gs x).g.length d1)) SB ca cn cc (t' + 1) v.heap.size (v.heap.size + 1) a0 (noteR ss gs x).s.length d0 a1 (noteR ss gs x).g.length d1 (noteR ss gs x).s (noteR ss gs x).g) := HL2.out.put ho2 hg2 HL1.out.chg.size (HL1.out.fine.note (by unfold maxLen; omega)); obtain ⟨z0, z1⟩ := cells2 HL2.out.box; have z2 := Joins.unfrozen_of_block HL2.out.box 0; have z3 := Joins.unfrozen_of_block HL2.out.box 1; clear ho2 hg2 hb2 c1 c2 c3 c4 c5 c6))
      all_goals
        go_wp2
        go_roundw
        case rel => exact ⟨k - 1, by omega, by go_num, t' + 1, _, _, _, _, _, _, _, _, by omega, noteR_small _ _ _, HP⟩
        case measure => simp [intOf]; omega
    · obtain rfl : k = 0 := by omega
      clear hpos HL2
      have hn2 := l1Next_any SB cn cc t' ca l 6 w wr (by omega) (by omega) hcn HB.out HL.out.src
      go_wp2_with (go_at_call 18; refine hn2.mono ?_; clear hn2; rintro e v3 ⟨r, rfl, ⟨hr0, hr1⟩, hS2, hc2⟩; have hr3 : r < 6 := hr1 (by omega); obtain ⟨k1, rfl⟩ := Int.eq_ofNat_of_zero_le hr0; have HL3 : Hid (Lr w v v3 SB ca cn cc (t' + 1) v.heap.size (v.heap.size + 1) ta n tc ga m gc ss gs) := HL.out.draw hS2 hc2; clear hS2 hc2 hr1 HL)
      go_loopw [5] (fun i wq => ∃ k : Nat, k ≤ 5 ∧ i = .int .i64 k ∧ ∃ t' ta n tc ga m gc ss gs, t' + 2 * k ≤ t + 18 ∧ (n ≤ 60 ∧ m ≤ 120) ∧ Hid (Lr w v wq SB ca cn cc t' v.heap.size (v.heap.size + 1) ta n tc ga m gc ss gs)) (fun i _ => (intOf i).toNat)
      case atStart => exact ⟨k1, by omega, rfl, t' + 1, _, _, _, _, _, _, _, _, by omega, hnm, HL3⟩
      case round =>
        clear HL3 htk
        obtain ⟨k, hk, rfl, t2, ta, n, tc, ga, m, gc, ss, gs, htk, hnm, HL⟩ := hrel
        by_cases hpos : 0 < k
        · have hLd := HL.out.step (Below.refl _ _).drew
          obtain ⟨q0, q1⟩ := cells2 HL.out.box
          have hLl := lt_of_block HL.out.box
          have hSL : SB < v.heap.size + 1 := by omega
          have HLD : Hid (Lr w v wr.drew SB ca cn cc t2 v.heap.size (v.heap.size + 1) ta n tc ga m gc ss gs) := hLd
          clear hLd
          have HZD : Hid (Zx (wr.alloc (.cells #[.int .i64 0, .int .i64 0, .slice none 0 0, .slice none 0 0] 105)).drew wr.heap.size (v.heap.size + 1)) := (Zx.new hLl).step (Below.refl _ _).drew
          have hnx : ∀ (V : World) (tt : Nat) (kk : Int), kk ≤ 200 → tt ≤ 1000 → Lr w v V SB ca cn cc tt v.heap.size (v.heap.size + 1) ta n tc ga m gc ss gs → Calls Tryz.prog 18 #[.pointer (some ⟨SB, 0, none⟩), .int .i64 kk] V fun e v' => ∃ r : Int, e = .returned (.int .i64 r) ∧ (0 ≤ r ∧ (1 ≤ kk → r < kk)) ∧ Hid (Lr w v v' SB ca cn cc (tt + 1) v.heap.size (v.heap.size + 1) ta n tc ga m gc ss gs) ∧ Hid (Chg V v' SB (SB + 1)) := fun V tt kk h1 h2 h3 =>
            (l1Next_any SB cn cc tt ca l kk w V h1 h2 hcn HB.out h3.src).mono fun e v' ⟨r, e1, e2, e3, e4⟩ => ⟨r, e1, e2, h3.draw e3 e4, e4⟩
          have HNX : Hid (∀ (V : World) (tt : Nat) (kk : Int), kk ≤ 200 → tt ≤ 1000 → Lr w v V SB ca cn cc tt v.heap.size (v.heap.size + 1) ta n tc ga m gc ss gs → Calls Tryz.prog 18 #[.pointer (some ⟨SB, 0, none⟩), .int .i64 kk] V fun e v' => ∃ r : Int, e = .returned (.int .i64 r) ∧ (0 ≤ r ∧ (1 ≤ kk → r < kk)) ∧ Hid (Lr w v v' SB ca cn cc (tt + 1) v.heap.size (v.heap.size + 1) ta n tc ga m gc ss gs) ∧ Hid (Chg V v' SB (SB + 1))) := hnx
          clear hnx
          have hki : 0 < (k : Int) := by omega
          have HA : Hid True := trivial
          go_wp2
          go_region_held3 (fun w' => w'.cell? ⟨v.heap.size + 1, 0, none⟩ = some (.slice ta n tc) ∧ w'.cell? ⟨v.heap.size + 1, 1, none⟩ = some (.slice ga m gc)) (first | go_keep | (refine ⟨?_, ?_⟩ <;> (rw [World.cell?_of_block (w := u3) (k4 hneZ)]; assumption))) (first
            | (go_at_call 18; (first
                | (clear HA; (first | (with_reducible refine (HNX.out wr.drew t2 4 (by omega) (by omega) HLD.out).mono ?_; skip) | (with_reducible refine (HNX.out (wr.alloc (.cells #[.int .i64 0, .int .i64 0, .slice none 0 0, .slice none 0 0] 105)).drew t2 4 (by omega) (by omega) ((HL.out.step (below_box _)).step (Below.refl _ _).drew)).mono ?_; skip)); rintro e u1 ⟨i1, rfl, ⟨hi0, hi1⟩, HL1, HC1⟩; have hi2 : i1 < 4 := hi1 (by omega); have hw1 : IntKind.i64.wrap (1 + i1) = 1 + i1 := IntWalk.i64_in _ (by omega); obtain ⟨y0, y1⟩ := cells2 HL1.out.box; have hl1 := lt_of_block HL1.out.box; (first | (have HZ1 : Hid (Zx u1 wr.heap.size (v.heap.size + 1)) := HZD.out.draw HC1.out hSL) | skip); clear hi1)
                | ((first | (with_reducible refine (HNX.out u1 (t2 + 1) 5 (by omega) (by omega) HL1.out).mono ?_; skip) | (with_reducible refine (HNX.out (u1.alloc (.cells #[.int .i64 0, .int .i64 0, .slice none 0 0, .slice none 0 0] 105)) (t2 + 1) 5 (by omega) (by omega) (HL1.out.step (below_box _))).mono ?_; skip)); rintro e u2 ⟨i2, rfl, ⟨hj0, hj1⟩, HL2, HC2⟩; have hj2 : i2 < 5 := hj1 (by omega); have hw2 : IntKind.i64.wrap (1 + i2) = 1 + i2 := IntWalk.i64_in _ (by omega); obtain ⟨x0, x1⟩ := cells2 HL2.out.box; have hl2 := lt_of_block HL2.out.box; (first | (have HZ2 : Hid (Zx u2 wr.heap.size (v.heap.size + 1)) := HZ1.out.draw HC2.out hSL) | (have HZ2 : Hid (Zx u2 u1.heap.size (v.heap.size + 1)) := (Zx.new hl1).draw HC2.out hSL) | skip); clear hj1)))
            | (go_at_call 50; obtain ⟨⟨c1, c2, c3, c4⟩, c5, c6⟩ := HL2.out.caps; obtain ⟨rr, hrr⟩ : ∃ q, q = signR ss gs (1 + i1) (1 + i2) := ⟨_, rfl⟩; have HRR : Hid (rr = signR ss gs (1 + i1) (1 + i2)) := hrr; have hsp : ∀ V, LedAt V ta n ga m ss gs → Calls Tryz.prog 50 #[.agg #[.slice ta n tc, .slice ga m gc], .int .i64 (1 + i1), .int .i64 (1 + i2)] V fun e w' => OutL V w' e rr := (fun V hV => (by rw [hrr]; exact sSignId_opt n m tc gc ta ga ss gs (1 + i1) (1 + i2) V c1 c2 c3 c4 c5 c6 HL2.out.fine hV)); clear hrr; (first | ((with_reducible refine (hsp u2 HL2.out.led).mono ?_); clear hsp; rintro e u3 ⟨hb3, a0, d0, a1, d1, rfl, ho3, hg3⟩; have HL3 : Hid (Lr w v u3 SB ca cn cc (t2 + 1 + 1) v.heap.size (v.heap.size + 1) ta n tc ga m gc ss gs) := HL2.out.step hb3; (first | (have HZ3 : Hid (Zx u3 wr.heap.size (v.heap.size + 1)) := HZ2.out.step hb3) | (have HZ3 : Hid (Zx u3 u1.heap.size (v.heap.size + 1)) := HZ2.out.step hb3) | skip)) | ((with_reducible refine (hsp (u2.alloc (.cells #[.int .i64 0, .int .i64 0, .slice none 0 0, .slice none 0 0] 105)) (HL2.out.step (below_box _)).led).mono ?_); clear hsp; rintro e u3 ⟨hb3, a0, d0, a1, d1, rfl, ho3, hg3⟩; have HL3 : Hid (Lr w v u3 SB ca cn cc (t2 + 1 + 1) v.heap.size (v.heap.size + 1) ta n tc ga m gc ss gs) := (HL2.out.step (below_box _)).step hb3; have HZ3 : Hid (Zx u3 u2.heap.size (v.heap.size + 1)) := (Zx.new hl2).step hb3)); obtain ⟨z0, z1⟩ := cells2 HL3.out.box; have HROW : Hid (∃ base, v.heap.size ≤ base ∧ u3.ownsRow base 9 1 (.slice a0 rr.s.length d0) rr.s.length (rr.s.map Value.string) ∧ u3.ownsRow base 111 2 (.slice a1 rr.g.length d1) rr.g.length (gcells rr.g)) := ⟨_, by (have := HL2.out.chg.size; first | exact this | (simp; omega)), ho3, hg3⟩; (first | (have HO3 := HZ3; have hneZ := Nat.ne_of_lt HO3.out.1; obtain ⟨o0, o1, o2, o3, o4, o5, o6, o7⟩ := cells4 HO3.out.2) | skip)))
          all_goals
            (first
              | (have HO4 := HZ3; obtain ⟨W4, hW4, HL4, HRW, HRB⟩ := HL3.out.boxZ4 HO4.out rr.c rr.i HROW.out)
              | (obtain ⟨W4, hW4, HL4, HRW, HRB⟩ := HL3.out.boxA4 rr.c rr.i HROW.out))
            rw [← hW4]
            clear hW4
            have HP := HL4.out.putH HRW.out (by rw [HRR.out]; exact HL2.out.fine.signR (wf_small (by omega) (by omega)) (wf_small (by omega) (by omega)))
            clear z0 z1
            obtain ⟨z0, z1⟩ := cells2 HL4.out.box
            have z2 := Joins.unfrozen_of_block HL4.out.box 0
            have z3 := Joins.unfrozen_of_block HL4.out.box 1
            obtain ⟨b0, b1, b2, b3, _⟩ := cells4 HRB.out
            go_wp2
            all_goals
              go_roundw
              case rel => first | exact ⟨k - 1, by omega, by go_num, t2 + 1 + 1, _, _, _, _, _, _, _, _, by omega, (by rw [HRR.out]; exact signR_small _ _ _ _), HP⟩ | exact ⟨k - 1, by omega, by go_num, t2 + 1 + 1, _, _, _, _, _, _, _, _, by omega, hnm, HL4⟩
              case measure => simp [intOf]; omega
        · obtain rfl : k = 0 := by omega
          obtain ⟨z0, z1⟩ := cells2 HL.out.box
          obtain ⟨r0, r1⟩ := cells2 HL.out.res
          have f0 := Joins.unfrozen_of_block HL.out.res 0
          have f1 := Joins.unfrozen_of_block HL.out.res 1
          go_wp2
          obtain ⟨s0, s1, s2⟩ := two_set HL.out.res (.slice ta n tc) (.slice ga m gc)
          refine bodyPost_ret (v := .agg #[.slice ta n tc, .slice ga m gc]) (by simp [results, Tryz.results51, go_sem, s0, s1]) rfl ?_
          obtain ⟨h1, h2, h3, h4⟩ := HL.out.ret (.slice ta n tc) (.slice ga m gc)
          exact ⟨t2, ta, n, tc, ga, m, gc, ss, gs, rfl, by omega, h1, h2, h3, h4, HL.out.fine, hnm⟩

end Go.Proofs.YtagokfoimokniaaGreatDoor

namespace Go.Proofs.YtagokfoimokniaaGreatDoor
open Go.RowKit Go.Maps Go.WideMaps

theorem Tryz.infoSgn : (Tryz.prog.info? 111).map (fun i => (i.zero, i.size, i.bytes)) = some (some (.agg #[.int .i64 0, .int .i64 0]), 2, 16) := by kernel_rfl
theorem gcells_more (gs : List (Int × Int)) (p q : Int) : gcells (gs ++ [(p, q)]) = gcells gs ++ [.int .i64 p, .int .i64 q] := by
  simp [gcells]
theorem strx_added {W : World} {lo X j : Nat} {v : Value} {ss : List ByteArray} {x : ByteArray} (h : W.ownsRow lo 9 1 v j (ss.map Value.string)) (hX : W.heap[X]? = some (.cells #[.string x] 9 (0, 0))) (hj : j ≤ 1000) (hlo : lo ≤ W.heap.size) :
    ∃ g cap w5, (Builtin.append_ #[24, 24] 24 #[v, .slice (some ⟨X, 0, none⟩) 1 1]).run Tryz.prog W = .ok (.slice (some ⟨g, 0, none⟩) (j + 1) cap) w5 ∧
      Hid (w5.ownsRow lo 9 1 (.slice (some ⟨g, 0, none⟩) (j + 1) cap) (j + 1) ((ss ++ [x]).map Value.string) ∧ W.grownBy w5 v.ownBlock) := by
  obtain ⟨i0, hi, hz0, hz1, hz2⟩ := info_parts Tryz.infoStr
  obtain ⟨v', w5, hrun, hown', hgrow, hsome⟩ := run_append_own (P := Tryz.prog) W lo 24 24 9 i0 (.string ByteArray.empty) 1 16 Tryz.underlying24 hi hz0 hz1 hz2 rfl (by decide) v j (ss.map Value.string) h ⟨X, 0, none⟩ 1 1 [.string x] rfl (World.news_of_block hX) (by
    intro z hz
    simp only [List.mem_cons, List.not_mem_nil, or_false] at hz
    subst hz; rfl) (by unfold maxLen; omega) (by omega) hlo
  obtain ⟨g, cap, rfl⟩ := ownsRow_succ hown'
  refine ⟨g, cap, w5, hrun, ?_, hgrow⟩
  rw [List.map_append]
  exact hown'
theorem sgnx_added {W : World} {lo X j : Nat} {v : Value} {gs : List (Int × Int)} {p q : Int} (h : W.ownsRow lo 111 2 v j (gcells gs)) (hX : W.heap[X]? = some (.cells #[.int .i64 p, .int .i64 q] 111 (0, 0))) (hj : j ≤ 1000) (hlo : lo ≤ W.heap.size) :
    ∃ g cap w5, (Builtin.append_ #[25, 25] 25 #[v, .slice (some ⟨X, 0, none⟩) 1 1]).run Tryz.prog W = .ok (.slice (some ⟨g, 0, none⟩) (j + 1) cap) w5 ∧
      Hid (w5.ownsRow lo 111 2 (.slice (some ⟨g, 0, none⟩) (j + 1) cap) (j + 1) (gcells (gs ++ [(p, q)])) ∧ W.grownBy w5 v.ownBlock) := by
  obtain ⟨i0, hi, hz0, hz1, hz2⟩ := info_parts Tryz.infoSgn
  obtain ⟨v', w5, hrun, hown', hgrow, hsome⟩ := run_append_own (P := Tryz.prog) W lo 25 25 111 i0 (.agg #[.int .i64 0, .int .i64 0]) 2 16 Tryz.underlying25 hi hz0 hz1 hz2 rfl (by decide) v j (gcells gs) h ⟨X, 0, none⟩ 1 1 [.int .i64 p, .int .i64 q] rfl (World.news_of_block hX) (by
    intro z hz
    simp only [List.mem_cons, List.not_mem_nil, or_false] at hz
    rcases hz with rfl | rfl <;> rfl) (by unfold maxLen; omega) (by omega) hlo
  obtain ⟨g, cap, rfl⟩ := ownsRow_succ hown'
  refine ⟨g, cap, w5, hrun, ?_, hgrow⟩
  rw [gcells_more]
  exact hown'
/-- Rows of two kinds lie in two blocks. -/
theorem rows_ne {W : World} {b1 b2 s1 s2 n1 n2 : Nat} {e1 e2 : TypeId} {v1 v2 : Value} {xs ys : List Value} (h1 : W.ownsRow b1 e1 s1 v1 n1 xs) (h2 : W.ownsRow b2 e2 s2 v2 n2 ys) (hne : e1 ≠ e2) : ∀ b, v1.ownBlock = some b → v2.ownBlock ≠ some b := by
  intro b hb hb2
  rcases h1.2 with ⟨e, _⟩ | ⟨g, c, cur, e, _, k1, _⟩
  · rw [e] at hb; cases hb
  · rcases h2.2 with ⟨e', _⟩ | ⟨g', c', cur', e', _, k2, _⟩
    · rw [e'] at hb2; cases hb2
    · rw [e] at hb
      rw [e'] at hb2
      have a1 : g = b := by simpa [Value.ownBlock] using hb
      have a2 : g' = b := by simpa [Value.ownBlock] using hb2
      subst a1
      rw [a2, k1] at k2
      have := Option.some.inj k2
      injection this with _ e3
      exact hne e3
theorem row_box_ne {W : World} {b1 s1 n1 LB : Nat} {e1 t : TypeId} {v1 : Value} {xs : List Value} {cs : Array Value} {fz : Nat × Nat} (h1 : W.ownsRow b1 e1 s1 v1 n1 xs) (hb : W.heap[LB]? = some (.cells cs t fz)) (hne : e1 ≠ t) : ∀ b, v1.ownBlock = some b → b ≠ LB := by
  intro b hbb e
  subst e
  rcases h1.2 with ⟨e, _⟩ | ⟨g, c, cur, e, _, k1, _⟩
  · rw [e] at hbb; cases hbb
  · rw [e] at hbb
    have a1 : g = b := by simpa [Value.ownBlock] using hbb
    subst a1
    rw [k1] at hb
    have := Option.some.inj hb
    injection this with _ e3
    exact hne e3
theorem row_grown {W W' : World} {r : Option Nat} {b1 s1 n1 : Nat} {e1 : TypeId} {v1 : Value} {xs : List Value} (h : W.ownsRow b1 e1 s1 v1 n1 xs) (hg : W.grownBy W' r) (hr : ∀ b, r = some b → v1.ownBlock ≠ some b) : W'.ownsRow b1 e1 s1 v1 n1 xs := by
  refine ⟨h.1, ?_⟩
  rcases h.2 with hn | ⟨g, cap, cur, rfl, hb, hgg, rest⟩
  · exact .inl hn
  · refine .inr ⟨g, cap, cur, rfl, hb, ?_, rest⟩
    rw [hg.block g (lt_of_block hgg) (fun e => hr g e.symm rfl)]
    exact hgg

section
variable {w v V V' : World} {SB : Nat} {ca : Option Addr} {cn cc t t' RB LB : Nat} {ta : Option Addr} {n tc : Nat} {ga : Option Addr} {m gc : Nat} {ss : List ByteArray} {gs : List (Int × Int)}
theorem Lr.took (hS : Src w V SB ca cn cc t) (hc : Chg (v.alloc (.cells #[.slice none 0 0, .slice none 0 0] 27)) V SB (SB + 1)) (h1 : V.ownsRow (v.alloc (.cells #[.slice none 0 0, .slice none 0 0] 27)).heap.size 9 1 (.slice ta n tc) n (ss.map Value.string)) (h2 : V.ownsRow (v.alloc (.cells #[.slice none 0 0, .slice none 0 0] 27)).heap.size 111 2 (.slice ga m gc) m (gcells gs)) (hf : Fine ss gs) (hl : SB < v.heap.size) :
    Lr w v (V.alloc (.cells #[.slice ta n tc, .slice ga m gc] 27)) SB ca cn cc t v.heap.size V.heap.size ta n tc ga m gc ss gs := by
  have hz : v.heap.size ≤ (v.alloc (.cells #[.slice none 0 0, .slice none 0 0] 27)).heap.size := by simp
  have hr : V.heap[v.heap.size]? = some (.cells #[.slice none 0 0, .slice none 0 0] 27 (0, 0)) := hc.keep1 (heap_alloc_new _ _) (by omega)
  exact ⟨hS.step (below_box _), ((Chg.of_below (below_box _) _ _).trans hc).trans (Chg.of_below (below_box _) _ _), heap_alloc_new _ _, (keepb hr (below_box _)).out, (Joins.ownsRow_le h1 hz).alloc _, (Joins.ownsRow_le h2 hz).alloc _, hf, hl, Nat.le_refl _, lt_of_block hr⟩
theorem Lr.lt (h : Lr w v V SB ca cn cc t RB LB ta n tc ga m gc ss gs) : LB < V.heap.size := lt_of_block h.box
/-- What grows by a row of one's own: all else of it stays. -/
theorem Lr.grown {r : Option Nat} (H : Lr w v V SB ca cn cc t RB LB ta n tc ga m gc ss gs) (hg : V.grownBy V' r) (hr : ∀ b, r = some b → v.heap.size ≤ b ∧ b ≠ LB ∧ b ≠ RB) : Src w V' SB ca cn cc t ∧ Chg v V' SB (SB + 1) ∧ V'.heap[LB]? = some (.cells #[.slice ta n tc, .slice ga m gc] 27 (0, 0)) ∧ V'.heap[RB]? = some (.cells #[.slice none 0 0, .slice none 0 0] 27 (0, 0)) := by
  have ho := H.ord
  have hlt := H.lt
  have hlr := lt_of_block H.res
  have hls := H.src.lt
  have hvs := H.chg.size
  have hsb := H.src.sb
  have hws := H.src.bel.size
  have kp : ∀ b, b < V.heap.size → (b < v.heap.size ∨ b = LB ∨ b = RB) → V'.heap[b]? = V.heap[b]? := fun b hb hd => hg.block b hb (fun e => by have := hr b e.symm; omega)
  refine ⟨⟨(kp SB hls (by omega)).trans H.src.box, ⟨hg.os.trans H.src.bel.os, hg.tape.trans H.src.bel.tape, hg.output.trans H.src.bel.output, Nat.le_trans hws hg.size, fun b hb => (kp b (by omega) (by omega)).trans (H.src.bel.block b hb)⟩, hsb⟩, ⟨hg.os.trans H.chg.os, hg.tape.trans H.chg.tape, hg.output.trans H.chg.output, Nat.le_trans hvs hg.size, fun b hb hd => (kp b (by omega) (by omega)).trans (H.chg.block b hb hd)⟩, (kp LB hlt (by omega)).trans H.box, (kp RB hlr (by omega)).trans H.res⟩
/-- One text more. -/
theorem Lr.moreT {x : ByteArray} (H : Lr w v V SB ca cn cc t RB LB ta n tc ga m gc ss gs) (hn : n ≤ 500) (hx : x.size ≤ maxLen) :
    ∃ g cap w5, (Builtin.append_ #[24, 24] 24 #[.slice ta n tc, .slice (some ⟨V.heap.size, 0, none⟩) 1 1]).run Tryz.prog (V.alloc (.cells #[.string x] 9)) = .ok (.slice (some ⟨g, 0, none⟩) (n + 1) cap) w5 ∧
      (w5.cell? ⟨LB, 0, none⟩ = some (.slice ta n tc) ∧ w5.frozen? ⟨LB, 0, none⟩ = false) ∧ Hid (Lr w v (w5.setCell ⟨LB, 0, none⟩ (.slice (some ⟨g, 0, none⟩) (n + 1) cap)) SB ca cn cc t RB LB (some ⟨g, 0, none⟩) (n + 1) cap ga m gc (ss ++ [x]) gs) := by
  have H1 := H.step (below_box (.cells #[.string x] 9))
  have ho := H.ord
  have hvs := H.chg.size
  obtain ⟨g, cap, w5, hrun, HG⟩ := strx_added (x := x) (X := V.heap.size) H1.rs (heap_alloc_new _ _) (by omega) (by simp; omega)
  obtain ⟨hown, hgr⟩ := HG.out
  obtain ⟨k1, k2, k3, k4⟩ := H1.grown hgr (fun b hb => ⟨(H1.rs.lt b hb).1, row_box_ne H1.rs H1.box (by decide) b hb, row_box_ne H1.rs H1.res (by decide) b hb⟩)
  have hrg := row_grown H1.rg hgr (fun b hb => rows_ne H1.rs H1.rg (by decide) b hb)
  refine ⟨g, cap, w5, hrun, ⟨(cells2 k3).1, Joins.unfrozen_of_block k3 0⟩, ?_⟩
  have hsb := H.src.sb
  refine ⟨⟨(Below.heap_setCell _ ⟨LB, 0, none⟩ _ SB (show SB ≠ LB by omega)).trans k1.box, k1.bel.setCell (p := ⟨LB, 0, none⟩) (show w.heap.size ≤ LB by omega) _, hsb⟩, ⟨k2.os, k2.tape, k2.output, by simpa using k2.size, fun b hb hd => (Below.heap_setCell _ ⟨LB, 0, none⟩ _ b (show b ≠ LB by omega)).trans (k2.block b hb hd)⟩, ?_, (Below.heap_setCell _ ⟨LB, 0, none⟩ _ RB (show RB ≠ LB by omega)).trans k4, row_set_other hown k3 (by decide) _, row_set_other hrg k3 (by decide) _, H.fine.text hx, ho⟩
  have := Joins.block_setCell (i := 0) k3 (.slice (some ⟨g, 0, none⟩) (n + 1) cap)
  simpa using this
/-- One signature more. -/
theorem Lr.moreG {p q : Int} (H : Lr w v V SB ca cn cc t RB LB ta n tc ga m gc ss gs) (hn : m ≤ 500) (hp : (Lit.int .i64 p).wf = true) (hq : (Lit.int .i64 q).wf = true) :
    ∃ g cap w5, (Builtin.append_ #[25, 25] 25 #[.slice ga m gc, .slice (some ⟨V.heap.size, 0, none⟩) 1 1]).run Tryz.prog (V.alloc (.cells #[.int .i64 p, .int .i64 q] 111)) = .ok (.slice (some ⟨g, 0, none⟩) (m + 1) cap) w5 ∧
      (w5.cell? ⟨LB, 1, none⟩ = some (.slice ga m gc) ∧ w5.frozen? ⟨LB, 1, none⟩ = false) ∧ Hid (Lr w v (w5.setCell ⟨LB, 1, none⟩ (.slice (some ⟨g, 0, none⟩) (m + 1) cap)) SB ca cn cc t RB LB ta n tc (some ⟨g, 0, none⟩) (m + 1) cap ss (gs ++ [(p, q)])) := by
  have H1 := H.step (below_box (.cells #[.int .i64 p, .int .i64 q] 111))
  have ho := H.ord
  have hvs := H.chg.size
  obtain ⟨g, cap, w5, hrun, HG⟩ := sgnx_added (p := p) (q := q) (X := V.heap.size) H1.rg (heap_alloc_new _ _) (by omega) (by simp; omega)
  obtain ⟨hown, hgr⟩ := HG.out
  obtain ⟨k1, k2, k3, k4⟩ := H1.grown hgr (fun b hb => ⟨(H1.rg.lt b hb).1, row_box_ne H1.rg H1.box (by decide) b hb, row_box_ne H1.rg H1.res (by decide) b hb⟩)
  have hrs := row_grown H1.rs hgr (fun b hb => rows_ne H1.rg H1.rs (by decide) b hb)
  refine ⟨g, cap, w5, hrun, ⟨(cells2 k3).2, Joins.unfrozen_of_block k3 1⟩, ?_⟩
  have hsb := H.src.sb
  refine ⟨⟨(Below.heap_setCell _ ⟨LB, 1, none⟩ _ SB (show SB ≠ LB by omega)).trans k1.box, k1.bel.setCell (p := ⟨LB, 1, none⟩) (show w.heap.size ≤ LB by omega) _, hsb⟩, ⟨k2.os, k2.tape, k2.output, by simpa using k2.size, fun b hb hd => (Below.heap_setCell _ ⟨LB, 1, none⟩ _ b (show b ≠ LB by omega)).trans (k2.block b hb hd)⟩, ?_, (Below.heap_setCell _ ⟨LB, 1, none⟩ _ RB (show RB ≠ LB by omega)).trans k4, row_set_other hrs k3 (by decide) _, row_set_other hown k3 (by decide) _, H.fine.sign hp hq, ho⟩
  have := Joins.block_setCell (i := 1) k3 (.slice (some ⟨g, 0, none⟩) (m + 1) cap)
  simpa using this
/-- The texts are others, in new memory. -/
theorem Lr.otherT {a' : Option Addr} {n' c' : Nat} {ss' : List ByteArray} (H : Lr w v V SB ca cn cc t RB LB ta n tc ga m gc ss gs) (hb : Below V.heap.size V V') (hr : V'.ownsRow V.heap.size 9 1 (.slice a' n' c') n' (ss'.map Value.string)) (hf : Fine ss' gs) :
    Lr w v (V'.setCell ⟨LB, 0, none⟩ (.slice a' n' c')) SB ca cn cc t RB LB a' n' c' ga m gc ss' gs := by
  have H1 := H.step hb
  have ho := H.ord
  have hsb := H.src.sb
  have hvs := H.chg.size
  refine ⟨⟨(Below.heap_setCell _ ⟨LB, 0, none⟩ _ SB (show SB ≠ LB by omega)).trans H1.src.box, H1.src.bel.setCell (p := ⟨LB, 0, none⟩) (show w.heap.size ≤ LB by omega) _, hsb⟩, ⟨H1.chg.os, H1.chg.tape, H1.chg.output, by simpa using H1.chg.size, fun b hb hd => (Below.heap_setCell _ ⟨LB, 0, none⟩ _ b (show b ≠ LB by omega)).trans (H1.chg.block b hb hd)⟩, ?_, (Below.heap_setCell _ ⟨LB, 0, none⟩ _ RB (show RB ≠ LB by omega)).trans H1.res, row_set_other (Joins.ownsRow_le hr (by omega)) H1.box (by decide) _, row_set_other H1.rg H1.box (by decide) _, hf, ho⟩
  have := Joins.block_setCell (i := 0) H1.box (.slice a' n' c')
  simpa using this
end

end Go.Proofs.YtagokfoimokniaaGreatDoor
