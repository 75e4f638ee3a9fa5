/- The walk of the law FnUndos. -/
import Derived.Test.YthjolannlefbcaaGreatDoorIk
import Derived.Test.YthjolannlefbcaaGreatDoorQg
import Derived.Test.YthjolannlefbcaaGreatDoorQq
import Derived.Test.YthjolannlefbcaaGreatDoorQt
import Derived.Test.YthjolannlefbcaaGreatDoorJn4
import Derived.Test.YthjolannlefbcaaGreatDoorCnX
import Derived.Test.YthjolannlefbcaaGreatDoorLSpendTx
import Derived.Test.YthjolannlefbcaaGreatDoorLSpentBy
import Derived.Lib.QuietBelow
namespace Go.Proofs.YthjolannlefbcaaGreatDoor
open Go.RowKit Go.Shelf Go.Maps Go.WideMaps

theorem lwBigU_any (cn cc : Nat) (ca : Option Addr) (w : World) : Calls Tryz.prog 4 #[.slice ca cn cc] w fun e w' => e = .returned (.bool (decide ((1048576 : Int) < (cn : Int)))) ∧ w' = w := by
  go_enter Tryz.func4, Tryz.ntmps4
  go_wp2
  go_ret
  exact ⟨rfl, rfl⟩
theorem fieldU0 (c : Int) (v : Value) (W : World) : (Instr.field 32 (.agg #[.int .i64 c, v]) 0).run Tryz.prog W = .ok (.int .i64 c) W := by kernel_rfl
theorem fieldU1 (c : Int) (va : Option Addr) (n vc : Nat) (W : World) : (Instr.field 32 (.agg #[.int .i64 c, .slice va n vc]) 1).run Tryz.prog W = .ok (.slice va n vc) W := by kernel_rfl
theorem keepUd {V W : World} {p : Addr} {u : Value} (h : V.cell? p = some u) (hb : Below V.heap.size V W) : W.cell? p = some u := (hb.cell (block_lt_of_cell h)).trans h
theorem gat_cellsU {V : World} {a : Option Addr} {n j : Nat} {l : List (Int × Int)} (h : GAt V a n l) (hj : j < n) : ∃ b off, a = some ⟨b, off, none⟩ ∧ V.cell? ⟨b, off + j * 2, none⟩ = some (.int .i64 (l.getD j (0, 0)).1) ∧ V.cell? ⟨b, off + j * 2 + 1, none⟩ = some (.int .i64 (l.getD j (0, 0)).2) := by
  obtain ⟨_, h | ⟨b, off, e, _, hc⟩⟩ := h
  · omega
  · exact ⟨b, off, e, (hc j hj).1, (hc j hj).2⟩
theorem few_right {cs : List Co} (h : coinsR cs = 0) : cs.length ≤ 40 ∧ ∀ j, j < cs.length → (cs.getD j C0).l.length ≤ 1048576 := by
  obtain ⟨a, b, _⟩ := coins_rise h
  exact ⟨a, fun j hj => by have := (coin_more (b _ (getC_mem hj))).2.2.2; omega⟩
/-- What was drawn, what was spent. -/
structure Bu (w V : World) (T P : Nat) (z : Wr) (B : Nat) (ra : Option Addr) (rc : Nat) (out : List Co) : Prop where
  bel : Below w.heap.size w V
  q : DrQ V B z
  bT : V.heap[T]? = some (.cells #[.int .i64 z.k, .int .i64 z.f, .slice z.ia z.rs.length z.ic, .slice z.oa z.os.length z.oc] 28 (0, 0))
  bP : V.heap[P]? = some (.cells #[.int .i64 0, .slice ra out.length rc] 32 (0, 0))
  co : CAt V ra out.length out
theorem Bu.step {w V W : World} {T P : Nat} {z : Wr} {B : Nat} {ra : Option Addr} {rc : Nat} {out : List Co} (h : Bu w V T P z B ra rc out) (hb : Below V.heap.size V W) : Bu w W T P z B ra rc out :=
  ⟨h.bel.trans (hb.mono h.bel.size), h.q.turn (Chg.of_below hb 0 _), (keepb h.bT hb).out, (keepb h.bP hb).out, h.co.below hb (Nat.le_refl _)⟩
/-- What came back, too. -/
structure Bv (w V : World) (T P U : Nat) (z : Wr) (B : Nat) (ra : Option Addr) (rc : Nat) (out : List Co) (ua : Option Addr) (uc : Nat) : Prop where
  b : Bu w V T P z B ra rc out
  bU : V.heap[U]? = some (.cells #[.int .i64 0, .slice ua z.cs.length uc] 32 (0, 0))
  cu : CAt V ua z.cs.length z.cs
theorem Bv.step {w V W : World} {T P U : Nat} {z : Wr} {B : Nat} {ra : Option Addr} {rc : Nat} {out : List Co} {ua : Option Addr} {uc : Nat} (h : Bv w V T P U z B ra rc out ua uc) (hb : Below V.heap.size V W) : Bv w W T P U z B ra rc out ua uc :=
  ⟨h.b.step hb, (keepb h.bU hb).out, h.cu.below hb (Nat.le_refl _)⟩
structure R11 (w V0 : World) (T P : Nat) (z : Wr) (B : Nat) (ra : Option Addr) (rc : Nat) (out : List Co) (id : Int) (V : World) (b0 b1 b2 b3 b4 b5 b6 b7 b8 b9 b10 : Bool) (x0 x1 x2 x3 x4 x5 x6 x7 x8 x9 x10 : Value) : Prop where
  g0 : b0 = true → x0 = .pointer (some ⟨P, 1, none⟩)
  g1 : b1 = true → x1 = .slice ra out.length rc
  g2 : b2 = true → x2 = .agg #[.int .i64 z.k, .int .i64 z.f, .slice z.ia z.rs.length z.ic, .slice z.oa z.os.length z.oc]
  g3 : b3 = true → x3 = .int .i64 id
  g4 : b4 = true → x4 = .slice z.va z.cs.length z.vc
  g5 : b5 = true → x5 = .agg #[.int .i64 z.k, .int .i64 z.f, .slice z.ia z.rs.length z.ic, .slice z.oa z.os.length z.oc]
  o1_0 : b1 = true → b0 = true
  o6_4 : b6 = true → b4 = true
  o6_5 : b6 = true → b5 = true
  o7_6 : b7 = true → b6 = true
  o8_1 : b8 = true → b1 = true
  o8_2 : b8 = true → b2 = true
  o8_3 : b8 = true → b3 = true
  o8_7 : b8 = true → b7 = true
  o10_8 : b10 = true → b8 = true
  o10_9 : b10 = true → b9 = true
  m0 : Bu w V T P z B ra rc out ∧ Below V0.heap.size V0 V
  e6 : b6 = true → b10 = false → ∃ sa sc, x6 = .agg #[.int .i64 0, .slice sa (inC z.cs z.rs).length sc] ∧ CAt V sa (inC z.cs z.rs).length (inC z.cs z.rs)
  e7 : b7 = true → b10 = false → ∃ sa sc, x7 = .slice sa (inC z.cs z.rs).length sc ∧ CAt V sa (inC z.cs z.rs).length (inC z.cs z.rs)
  e8 : b8 = true → b10 = false → ∃ (ua : Option Addr) (uc : Nat) (kv : Nat → Value) (lo hi : Nat), x8 = .agg #[.int .i64 0, .slice ua z.cs.length uc] ∧ COwn V lo hi (.slice ua z.cs.length uc) z.cs.length (fun j => z.cs.getD j C0) kv ∧ hi ≤ V.heap.size ∧ (b9 = true → ∀ U : Nat, x9 = .pointer (some ⟨U, 0, none⟩) → U < lo ∨ hi ≤ U)
  e9 : b9 = true → ∃ U : Nat, x9 = .pointer (some ⟨U, 0, none⟩) ∧ V0.heap.size ≤ U ∧ U < V.heap.size ∧ (b10 = false → V.heap[U]? = some (.cells #[.int .i64 0, .slice none 0 0] 32 (0, 0)))
  e10 : b10 = true → ∃ (U : Nat) (ua : Option Addr) (uc : Nat), x9 = .pointer (some ⟨U, 0, none⟩) ∧ V.heap[U]? = some (.cells #[.int .i64 0, .slice ua z.cs.length uc] 32 (0, 0)) ∧ CAt V ua z.cs.length z.cs

set_option maxRecDepth 20000 in
set_option maxHeartbeats 8000000 in
theorem lawUndos (cn cc : Nat) (ca : Option Addr) (l : List Int) (w : World) (hg : w.cell? ⟨0, 0, none⟩ = some (.iface 180 (.agg #[.pointer (some ⟨1, 65, none⟩)]))) (hB : BAt w ca cn l) :
    Calls Tryz.prog 3 #[.slice ca cn cc] w fun e w' => e = .returned (.bool true) ∧ Below w.heap.size w w' := by
  have hbig := lwBigU_any cn cc ca w
  by_cases hb : 1048576 < cn
  · have hd : decide ((1048576 : Int) < (cn : Int)) = true := decide_eq_true (by omega)
    rw [hd] at hbig
    go_enter Tryz.func3, Tryz.ntmps3
    go_wp2_with (go_at_call 4; (with_reducible refine hbig.mono ?_); clear hbig; rintro e w1 ⟨rfl, hw⟩; have hw2 := hw.symm; subst hw2)
    go_ret
    exact ⟨rfl, Below.refl _ _⟩
  have hd : decide ((1048576 : Int) < (cn : Int)) = false := decide_eq_false (by omega)
  rw [hd] at hbig
  have hdr := drawSpendTx_any ca cn cc l w (by omega) hB
  have HGE : Hid (w.cell? ⟨0, 0, none⟩ = some (.iface 180 (.agg #[.pointer (some ⟨1, 65, none⟩)]))) := hg
  clear hB hd hg
  go_enter Tryz.func3, Tryz.ntmps3
  go_wp2_with (first
    | (go_at_call 4; (with_reducible refine hbig.mono ?_); clear hbig; rintro e w1 ⟨rfl, hw⟩; have hw2 := hw.symm; subst hw2))
  refine hdr.mono ?_
  rintro e v ⟨z, id, hh, rfl, ⟨B, hBw, hQ⟩, hbv⟩
  have HQV : Hid (DrQ v B z) := hQ
  have HBW : Hid (Below w.heap.size w v) := hbv
  have hr3 : z.rs.length ≤ 3 := hQ.zk.1
  have ho5 : z.os.length ≤ 5 := hQ.zk.2.1
  have hc43 : z.cs.length ≤ 43 := hQ.zc.1
  have HKC : Hid (∀ j, j < z.cs.length → (z.cs.getD j C0).l.length ≤ 1048576) := fun j hj => by have := hQ.zc.2 j hj; omega
  have HKO : Hid (∀ j, j < z.os.length → (z.os.getD j O0).l.length ≤ 1048576) := fun j hj => by have := hQ.zk.2.2 _ (getD_mem (d := O0) hj); omega
  have HCAP : Hid (z.rs.length ≤ z.ic ∧ z.ic ≤ maxLen) := hQ.caps
  clear hQ hbv hdr hBw
  obtain ⟨cd, hcd⟩ : ∃ q, q = (spendR z.cs z.k z.f z.rs z.os id hh).1 := ⟨_, rfl⟩
  obtain ⟨out, hout⟩ : ∃ q, q = (spendR z.cs z.k z.f z.rs z.os id hh).2 := ⟨_, rfl⟩
  have HSP : Hid ((spendR z.cs z.k z.f z.rs z.os id hh).1 = cd ∧ (spendR z.cs z.k z.f z.rs z.os id hh).2 = out) := ⟨hcd.symm, hout.symm⟩
  have HFW : Hid (∀ j, j < out.length → (out.getD j C0).l.length ≤ 1048576) := fun j hj => by
    have := (spendR_few (cs := z.cs) (k := z.k) (f := z.f) (rs := z.rs) (os := z.os) (id := id) (h := hh)).2
    rw [← hout] at this
    exact this _ (getC_mem hj)
  have HVW : Hid (∀ W, Below v.heap.size v W → DrQ W B z ∧ Below w.heap.size w W ∧ W.cell? ⟨0, 0, none⟩ = some (.iface 180 (.agg #[.pointer (some ⟨1, 65, none⟩)]))) := fun W hW => ⟨HQV.out.turn (Chg.of_below hW 0 _), HBW.out.trans (hW.mono HBW.out.size), keptG HGE.out (HBW.out.trans (hW.mono HBW.out.size))⟩
  have HIT : Hid (∀ W, Below v.heap.size v W → Calls Tryz.prog 6 #[.slice z.va z.cs.length z.vc, .agg #[.int .i64 z.k, .int .i64 z.f, .slice z.ia z.rs.length z.ic, .slice z.oa z.os.length z.oc], .int .i64 id, .int .i64 hh] W fun e w' => ∃ va vc, e = .returned (.agg #[.int .i64 cd, .slice va out.length vc]) ∧ Hid (CAt w' va out.length out) ∧ Below W.heap.size W w') := fun W hW => by
    obtain ⟨a1, a2, a3⟩ := HVW.out W hW
    have := iSpendTx_any z.cs.length z.vc z.va z.cs z.rs.length z.ic z.os.length z.oc z.ia z.oa z.k z.f z.rs z.os id hh W a3 (by omega) HKC.out (by omega) (by omega) HCAP.out.1 HCAP.out.2 HKO.out a1.cat a1.tx
    rw [HSP.out.1, HSP.out.2] at this
    refine this.mono fun e w' ⟨x, kv, e1, hO, e3⟩ => ?_
    obtain ⟨va, vc, rfl⟩ := own_slice hO
    exact ⟨va, vc, e1, own_at2 hO rfl HFW.out, e3⟩
  have hi := HIT.out (v.alloc (.cells #[.int .i64 z.k, .int .i64 z.f, .slice z.ia z.rs.length z.ic, .slice z.oa z.os.length z.oc] 28)) (below_box _)
  have HTB : Hid (∀ W, Below (v.heap.size + 1) (v.alloc (.cells #[.int .i64 z.k, .int .i64 z.f, .slice z.ia z.rs.length z.ic, .slice z.oa z.os.length z.oc] 28)) W → Below v.heap.size v W ∧ W.heap[v.heap.size]? = some (.cells #[.int .i64 z.k, .int .i64 z.f, .slice z.ia z.rs.length z.ic, .slice z.oa z.os.length z.oc] 28 (0, 0))) := fun W hW => ⟨(below_box _).trans (hW.mono (by omega)), (hW.block _ (by omega)).trans (heap_alloc_new _ _)⟩
  have hz1 : (v.alloc (.cells #[.int .i64 z.k, .int .i64 z.f, .slice z.ia z.rs.length z.ic, .slice z.oa z.os.length z.oc] 28)).heap.size = v.heap.size + 1 := by simp
  obtain ⟨t0, t1, t2, t3, _⟩ := cells4 (HTB.out _ (Below.refl _ _)).2
  rw [hz1] at hi
  clear hcd hout
  by_cases h0 : cd = 0
  rotate_left
  · have hcb : (cd != 0) = true := by simpa using h0
    have hf0 := fieldU0 cd
    go_wp2_with (first
      | (go_at_call 6; (with_reducible refine hi.mono ?_); clear hi; rintro e v3 ⟨ra, rc, rfl, hO3, hb3⟩; have HB3 : Hid (Below (v.heap.size + 1) (v.alloc (.cells #[.int .i64 z.k, .int .i64 z.f, .slice z.ia z.rs.length z.ic, .slice z.oa z.os.length z.oc] 28)) (v3.alloc (.cells #[.int .i64 cd, .slice ra out.length rc] 32))) := hb3.trans ((below_box _).mono (by have := hb3.size; rw [hz1] at this; exact this)); have HX3 : Hid ((v3.alloc (.cells #[.int .i64 cd, .slice ra out.length rc] 32)).heap[v3.heap.size]? = some (.cells #[.int .i64 cd, .slice ra out.length rc] 32 (0, 0))) := heap_alloc_new _ _; clear hO3 hb3))
    obtain ⟨V, hV⟩ : ∃ V, V = v3.alloc (.cells #[.int .i64 cd, .slice ra out.length rc] 32) := ⟨_, rfl⟩
    obtain ⟨X, hX⟩ : ∃ X, X = v3.heap.size := ⟨_, rfl⟩
    obtain ⟨T, hT⟩ : ∃ X, X = v.heap.size := ⟨_, rfl⟩
    rw [← hV, ← hX] at HX3
    rw [← hV] at HB3
    obtain ⟨x0, x1⟩ := cells2 HX3.out
    obtain ⟨hvV, hbT⟩ := HTB.out V HB3.out
    rw [← hT] at hbT
    clear t0 t1 t2 t3
    obtain ⟨t0, t1, t2, t3, _⟩ := cells4 hbT
    rw [← hV, ← hX, ← hT]
    have hXl : X < V.heap.size := lt_of_block HX3.out
    have hTl : T < V.heap.size := lt_of_block hbT
    have HQ : Hid (∀ W, Below V.heap.size V W → Calls Tryz.prog 7 #[.slice z.va z.cs.length z.vc, .agg #[.int .i64 z.k, .int .i64 z.f, .slice z.ia z.rs.length z.ic, .slice z.oa z.os.length z.oc], .int .i64 id, .int .i64 hh] W fun e w' => ∃ xv, e = .returned (.agg #[.int .i64 cd, xv]) ∧ Below W.heap.size W w') := fun W hW => by
      have := sSpendTx_dr (HVW.out V hvV).1 hW id hh
      rw [HSP.out.1] at this
      exact this
    have HE : Hid (∀ W, Below V.heap.size V W → Below w.heap.size w W) := fun W hW => (HVW.out V hvV).2.1.trans (hW.mono (HVW.out V hvV).2.1.size)
    clear hV hX hT HTB HB3 hvV hbT HIT
    go_wp2
    go_region_held3 (fun w' => w'.cell? ⟨T, 0, none⟩ = some (.int .i64 z.k) ∧ w'.cell? ⟨T, 1, none⟩ = some (.int .i64 z.f) ∧ w'.cell? ⟨T, 2, none⟩ = some (.slice z.ia z.rs.length z.ic) ∧ w'.cell? ⟨T, 3, none⟩ = some (.slice z.oa z.os.length z.oc) ∧ w'.cell? ⟨X, 0, none⟩ = some (.int .i64 cd)) (first | (with_reducible exact ⟨t0, t1, t2, t3, x0⟩) | (with_reducible exact ⟨y0, y1, y2, y3, y4⟩) | go_keep)
      (first
        | (go_at_call 7; (with_reducible refine (HQ.out _ (Below.refl _ _).drew).mono ?_); clear HQ; rintro e v5 ⟨xv, rfl, hb5⟩; have HB5 : Hid (Below V.heap.size V v5) := (Below.refl _ _).drew.trans hb5; have y0 := (HB5.out.cell (p := ⟨T, 0, none⟩) hTl).trans t0; have y1 := (HB5.out.cell (p := ⟨T, 1, none⟩) hTl).trans t1; have y2 := (HB5.out.cell (p := ⟨T, 2, none⟩) hTl).trans t2; have y3 := (HB5.out.cell (p := ⟨T, 3, none⟩) hTl).trans t3; have y4 := (HB5.out.cell (p := ⟨X, 0, none⟩) hXl).trans x0))
    all_goals (try go_wp2)
    all_goals go_ret
    all_goals exact ⟨by simp, HE.out _ HB5.out⟩
  subst h0
  have HOK : Hid (SpOk z.cs z.k z.f z.rs z.os id hh out) := by
    have := spOk HSP.out.1
    rw [HSP.out.2] at this
    exact this
  have hout40 : out.length ≤ 40 := (few_right (putOk_right HOK.out.put)).1
  go_wp2_with (first
    | (go_at_call 6; (with_reducible refine hi.mono ?_); clear hi; rintro e v3 ⟨ra, rc, rfl, hO3, hb3⟩; have HB3 : Hid (Below (v.heap.size + 1) (v.alloc (.cells #[.int .i64 z.k, .int .i64 z.f, .slice z.ia z.rs.length z.ic, .slice z.oa z.os.length z.oc] 28)) (v3.alloc (.cells #[.int .i64 0, .slice ra out.length rc] 32))) := hb3.trans ((below_box _).mono (by have := hb3.size; rw [hz1] at this; exact this)); have HX3 : Hid ((v3.alloc (.cells #[.int .i64 0, .slice ra out.length rc] 32)).heap[v3.heap.size]? = some (.cells #[.int .i64 0, .slice ra out.length rc] 32 (0, 0))) := heap_alloc_new _ _; have HO3 : Hid (CAt (v3.alloc (.cells #[.int .i64 0, .slice ra out.length rc] 32)) ra out.length out) := hO3.out.below (below_box _) (Nat.le_refl _); clear hO3 hb3; obtain ⟨x0, x1⟩ := cells2 HX3.out))
  obtain ⟨V0, hV⟩ : ∃ V, V = v3.alloc (.cells #[.int .i64 0, .slice ra out.length rc] 32) := ⟨_, rfl⟩
  obtain ⟨P, hX⟩ : ∃ X, X = v3.heap.size := ⟨_, rfl⟩
  obtain ⟨T, hT⟩ : ∃ X, X = v.heap.size := ⟨_, rfl⟩
  have HBU : Hid (Bu w V0 T P z B ra rc out) := by
    obtain ⟨hvV, hbT⟩ := HTB.out _ HB3.out
    rw [hV, hX, hT]
    exact ⟨(HVW.out _ hvV).2.1, (HVW.out _ hvV).1, hbT, HX3.out, HO3.out⟩
  rw [← hV, ← hX, ← hT]
  clear hV hX hT HTB HB3 HX3 HO3 HIT HVW x0 x1 t0 t1 t2 t3 hz1 HSP
  have HGW : Hid (∀ W, Below w.heap.size w W → W.cell? ⟨0, 0, none⟩ = some (.iface 180 (.agg #[.pointer (some ⟨1, 65, none⟩)]))) := fun W hW => keptG HGE.out hW
  have HIN : Hid ((inC z.cs z.rs).length ≤ 40 ∧ ∀ j, j < (inC z.cs z.rs).length → ((inC z.cs z.rs).getD j C0).l.length ≤ 1048576) := few_right HOK.out.right
  have HSB : Hid (∀ W, Below V0.heap.size V0 W → Calls Tryz.prog 9 #[.slice z.va z.cs.length z.vc, .agg #[.int .i64 z.k, .int .i64 z.f, .slice z.ia z.rs.length z.ic, .slice z.oa z.os.length z.oc]] W fun e w' => ∃ sa sc, e = .returned (.agg #[.int .i64 0, .slice sa (inC z.cs z.rs).length sc]) ∧ CAt w' sa (inC z.cs z.rs).length (inC z.cs z.rs) ∧ Below W.heap.size W w') := fun W hW => by
    have hW1 := HBU.out.step hW
    have := iSpentBy_any z.cs.length z.vc z.va z.cs z.rs.length z.ic z.os.length z.oc z.ia z.oa z.k z.f z.rs z.os W (HGW.out W hW1.bel) (by omega) HKC.out (by omega) (by omega) HCAP.out.1 HCAP.out.2 HKO.out hW1.q.cat hW1.q.tx
    rw [HOK.out.spent] at this
    refine this.mono fun e w' ⟨x, kv, e1, hO, e3⟩ => ?_
    obtain ⟨va, vc, rfl⟩ := own_slice hO
    exact ⟨va, vc, e1, own_at2 hO rfl HIN.out.2, e3⟩
  have HUB : Hid (∀ W (sa : Option Addr) (sc : Nat), Below V0.heap.size V0 W → CAt W sa (inC z.cs z.rs).length (inC z.cs z.rs) → Calls Tryz.prog 8 #[.slice ra out.length rc, .agg #[.int .i64 z.k, .int .i64 z.f, .slice z.ia z.rs.length z.ic, .slice z.oa z.os.length z.oc], .int .i64 id, .slice sa (inC z.cs z.rs).length sc] W fun e w' => ∃ ua uc kv, e = .returned (.agg #[.int .i64 0, .slice ua z.cs.length uc]) ∧ COwn w' W.heap.size w'.heap.size (.slice ua z.cs.length uc) z.cs.length (fun j => z.cs.getD j C0) kv ∧ Below W.heap.size W w') := fun W sa sc hW hs => by
    have hW1 := HBU.out.step hW
    have := iUndoTx_any out.length rc (inC z.cs z.rs).length sc ra sa out (inC z.cs z.rs) z.rs.length z.ic z.os.length z.oc z.ia z.oa z.k z.f z.rs z.os id W (by omega) HFW.out (by have := HIN.out.1; omega) HIN.out.2 (by omega) (by omega) HCAP.out.1 HCAP.out.2 HKO.out hW1.co hs hW1.q.tx
    rw [HOK.out.undo] at this
    refine this.mono fun e w' ⟨x, kv, e1, hO, e3⟩ => ?_
    obtain ⟨va, vc, rfl⟩ := own_slice hO
    exact ⟨va, vc, kv, e1, hO, e3⟩
  have HD5 : Hid (∀ W, Below V0.heap.size V0 W → Bu w W T P z B ra rc out) := fun W hW => HBU.out.step hW
  have HCN : Hid (∀ (W : World) (q : Nat), CAt W ra out.length out → q < z.rs.length → Hid (∀ W2, Below W.heap.size W W2 → Calls Tryz.prog 10 #[.slice ra out.length rc, .agg #[.int .i64 (z.rs.getD q (0, 0)).1, .int .i64 (z.rs.getD q (0, 0)).2]] W2 fun e w' => ∃ xv, e = .returned (.agg #[.int .i64 4, xv]) ∧ Below W2.heap.size W2 w')) := fun W q hc hq W2 hW2 => by
    have hm : z.rs.getD q (0, 0) ∈ z.rs := getD_mem (d := (0, 0)) hq
    obtain ⟨f1, f2⟩ := ref_wf ((tx_facts HOK.out.t).1 _ hm)
    have := iCoinAt_any out.length rc ra out (z.rs.getD q (0, 0)).1 (z.rs.getD q (0, 0)).2 W2 (by omega) HFW.out f1 f2 (hc.below hW2 (Nat.le_refl _))
    have h4 : atR out ((z.rs.getD q (0, 0)).1, (z.rs.getD q (0, 0)).2) = (4, []) := HOK.out.at hm
    rw [h4] at this
    exact this.mono fun e w' ⟨x, kv, e1, _, e3⟩ => ⟨x, e1, e3⟩
  have HEQ : Hid (∀ (W : World) (U : Nat) (ua : Option Addr) (uc : Nat), Bv w W T P U z B ra rc out ua uc → Calls Tryz.prog 11 #[.slice ua z.cs.length uc, .slice z.va z.cs.length z.vc] W fun e w' => e = .returned (.bool true) ∧ Below W.heap.size W w') := fun W U ua uc h => by
    have := iSameCoins_any ua z.va z.cs.length z.cs.length uc z.vc z.cs z.cs W (by omega) (by omega) HKC.out HKC.out h.cu h.b.q.cat
    rw [sameCs_refl] at this
    exact this
  have HCF : Hid (∀ W, CAt W ra out.length out → Calls Tryz.prog 12 #[.slice ra out.length rc] W fun e w' => e = .returned (.int .i64 0) ∧ Below W.heap.size W w') := fun W h => by
    have := iCoinsFault_any out.length rc ra out W (by omega) HFW.out h
    rw [putOk_right HOK.out.put] at this
    exact this
  obtain ⟨cd2, hcd2⟩ : ∃ x, x = (spendR out z.k z.f z.rs z.os id hh).1 := ⟨_, rfl⟩
  have HCD2 : Hid (cd2 ≠ 0) := by rw [hcd2]; exact HOK.out.twice
  have HS2 : Hid (∀ W, Bu w W T P z B ra rc out → Calls Tryz.prog 6 #[.slice ra out.length rc, .agg #[.int .i64 z.k, .int .i64 z.f, .slice z.ia z.rs.length z.ic, .slice z.oa z.os.length z.oc], .int .i64 id, .int .i64 hh] W fun e w' => ∃ xv, e = .returned (.agg #[.int .i64 cd2, xv]) ∧ Below W.heap.size W w') := fun W h => by
    have := iSpendTx_any out.length rc ra out z.rs.length z.ic z.os.length z.oc z.ia z.oa z.k z.f z.rs z.os id hh W (HGW.out W h.bel) (by omega) HFW.out (by omega) (by omega) HCAP.out.1 HCAP.out.2 HKO.out h.co h.q.tx
    rw [← hcd2] at this
    exact this.mono fun e w' ⟨x, kv, e1, _, e3⟩ => ⟨x, e1, e3⟩
  clear hcd2
  go_wp2
  refine wp_region_any (by kernel_rfl) ?_
  change wpAny _ _ _ _ _ _ _ (World.drew _)
  refine wpAny_inv (fun L a V => ∃ (b0 b1 b2 b3 b4 b5 b6 b7 b8 b9 b10 : Bool) (x0 x1 x2 x3 x4 x5 x6 x7 x8 x9 x10 : Value), L = #[b0, b1, b2, b3, b4, b5, b6, b7, b8, b9, b10] ∧ Fr 87 [some 36, some 37, some 38, some 39, some 40, some 41, some 42, some 43, some 44, some 8, none, some 3, some 4, some 5, some 6, some 7] [b0, b1, b2, b3, b4, b5, b6, b7, b8, b9, b10, true, true, true, true, true] [x0, x1, x2, x3, x4, x5, x6, x7, x8, x9, x10, .slice z.va z.cs.length z.vc, .pointer (some ⟨T, 0, none⟩), .int .i64 id, .int .i64 hh, .pointer (some ⟨P, 0, none⟩)] a ∧ R11 w V0 T P z B ra rc out id V b0 b1 b2 b3 b4 b5 b6 b7 b8 b9 b10 x0 x1 x2 x3 x4 x5 x6 x7 x8 x9 x10) ?step ?done _ _ _ _ (by simp) ?start
  case start =>
    refine ⟨false, false, false, false, false, false, false, false, false, false, false, undef, undef, undef, undef, undef, undef, undef, undef, undef, undef, undef, rfl, ⟨rfl, rfl, rfl, rfl, fun i d h1 h2 => ?_⟩, ?_⟩
    · have hlt : i < 16 := (List.getElem?_eq_some_iff.1 h1).1
      obtain rfl | rfl | rfl | rfl | rfl | rfl | rfl | rfl | rfl | rfl | rfl | rfl | rfl | rfl | rfl | rfl : i = 0 ∨ i = 1 ∨ i = 2 ∨ i = 3 ∨ i = 4 ∨ i = 5 ∨ i = 6 ∨ i = 7 ∨ i = 8 ∨ i = 9 ∨ i = 10 ∨ i = 11 ∨ i = 12 ∨ i = 13 ∨ i = 14 ∨ i = 15 := by omega
      all_goals first | exact absurd h2 (by decide) | (have := Option.some.inj (Option.some.inj h1); subst this; rfl)
    · exact { m0 := ⟨HBU.out.step (Below.refl _ _).drew, (Below.refl _ _).drew⟩, e6 := nofun, e7 := nofun, e8 := nofun, e9 := nofun, e10 := nofun, g0 := nofun, g1 := nofun, g2 := nofun, g3 := nofun, g4 := nofun, g5 := nofun, o1_0 := nofun, o6_4 := nofun, o6_5 := nofun, o7_6 := nofun, o8_1 := nofun, o8_2 := nofun, o8_3 := nofun, o8_7 := nofun, o10_8 := nofun, o10_9 := nofun }
  case done =>
    rintro L a V ⟨b0, b1, b2, b3, b4, b5, b6, b7, b8, b9, b10, x0, x1, x2, x3, x4, x5, x6, x7, x8, x9, x10, rfl, FR, H⟩ hr
    have hall := ready_all (by kernel_rfl) hr
    obtain ⟨tm, df⟩ := a
    obtain rfl : df = [] := FR.hd
    obtain ⟨F, hF⟩ := arr_of FR.hs
    have hF2 : tm = #[F 0, F 1, F 2, F 3, F 4, F 5, F 6, F 7, F 8, F 9, F 10, F 11, F 12, F 13, F 14, F 15, F 16, F 17, F 18, F 19, F 20, F 21, F 22, F 23, F 24, F 25, F 26, F 27, F 28, F 29, F 30, F 31, F 32, F 33, F 34, F 35, F 36, F 37, F 38, F 39, F 40, F 41, F 42, F 43, F 44, F 45, F 46, F 47, F 48, F 49, F 50, F 51, F 52, F 53, F 54, F 55, F 56, F 57, F 58, F 59, F 60, F 61, F 62, F 63, F 64, F 65, F 66, F 67, F 68, F 69, F 70, F 71, F 72, F 73, F 74, F 75, F 76, F 77, F 78, F 79, F 80, F 81, F 82, F 83, F 84, F 85, F 86] := hF
    subst hF2
    have kk3 : F 3 = .slice z.va z.cs.length z.vc := Option.some.inj (FR.get 11 3 rfl rfl)
    have kk4 : F 4 = .pointer (some ⟨T, 0, none⟩) := Option.some.inj (FR.get 12 4 rfl rfl)
    have kk5 : F 5 = .int .i64 id := Option.some.inj (FR.get 13 5 rfl rfl)
    have kk6 : F 6 = .int .i64 hh := Option.some.inj (FR.get 14 6 rfl rfl)
    have kk7 : F 7 = .pointer (some ⟨P, 0, none⟩) := Option.some.inj (FR.get 15 7 rfl rfl)
    obtain rfl : b9 = true := hall 9 (by decide)
    obtain rfl : b10 = true := hall 10 (by decide)
    obtain ⟨hD, hB0⟩ := H.m0
    obtain ⟨U, ua, uc, rfl, hUb, hcu⟩ := H.e10 rfl
    have kr9 : F 8 = .pointer (some ⟨U, 0, none⟩) := Option.some.inj (FR.get 9 8 rfl rfl)
    rw [kr9]
    rw [kk3, kk4, kk5, kk6, kk7]
    have HBV1 : Hid (Bv w V T P U z B ra rc out ua uc) := ⟨hD, hUb, hcu⟩
    clear hD hB0 hUb hcu H hr hall FR kk3 kk4 kk5 kk6 kk7 HSB HUB HD5 hF
    go_wp2
    go_loopw [9] (fun i wr => ∃ q : Nat, q ≤ z.rs.length ∧ i = .int .i64 q ∧ Hid (Bv w wr T P U z B ra rc out ua uc)) (fun i _ => z.rs.length - (intOf i).toNat)
    case atStart => exact ⟨0, Nat.zero_le _, rfl, HBV1.out⟩
    case round =>
      obtain ⟨q, hq, rfl, HI⟩ := hrel
      obtain ⟨p0, p1⟩ := cells2 HI.out.b.bP
      obtain ⟨t0, t1, t2, t3, _⟩ := cells4 HI.out.b.bT
      obtain ⟨u0, u1⟩ := cells2 HI.out.bU
      by_cases hlt : q < z.rs.length
      · have hqi : (q : Int) < (z.rs.length : Int) := by omega
        obtain ⟨b2, off2, hia, r1, r2⟩ := gat_cellsU HI.out.b.q.tx.r hlt
        obtain ⟨x1, hx1⟩ : ∃ x, x = (z.rs.getD q (0, 0)).1 := ⟨_, rfl⟩
        obtain ⟨x2, hx2⟩ : ∃ x, x = (z.rs.getD q (0, 0)).2 := ⟨_, rfl⟩
        rw [← hx1] at r1
        rw [← hx2] at r2
        have hCN := HCN.out wr q HI.out.b.co hlt
        rw [← hx1, ← hx2] at hCN
        clear hx1 hx2
        rw [hia] at t2
        have hf0 := fieldU0 4
        go_wp2
        go_region_held3 (fun w' => w'.cell? ⟨P, 1, none⟩ = some (.slice ra out.length rc) ∧ w'.cell? ⟨T, 2, none⟩ = some (.slice (some ⟨b2, off2, none⟩) z.rs.length z.ic) ∧ w'.cell? ⟨b2, off2 + q * 2, none⟩ = some (.int .i64 x1) ∧ w'.cell? ⟨b2, off2 + q * 2 + 1, none⟩ = some (.int .i64 x2)) (first | (with_reducible exact ⟨p1, t2, r1, r2⟩) | (with_reducible exact HS5.out) | go_keep)
          (first
            | (go_at_call 10; (with_reducible refine (hCN.out _ (Below.refl _ _).drew).mono ?_); clear hCN; rintro e v5 ⟨xv, rfl, hb5⟩; have HB5 : Hid (Below wr.heap.size wr v5) := (Below.refl _ _).drew.trans hb5; have HS5 : Hid (v5.cell? ⟨P, 1, none⟩ = some (.slice ra out.length rc) ∧ v5.cell? ⟨T, 2, none⟩ = some (.slice (some ⟨b2, off2, none⟩) z.rs.length z.ic) ∧ v5.cell? ⟨b2, off2 + q * 2, none⟩ = some (.int .i64 x1) ∧ v5.cell? ⟨b2, off2 + q * 2 + 1, none⟩ = some (.int .i64 x2)) := ⟨keepUd p1 HB5.out, keepUd t2 HB5.out, keepUd r1 HB5.out, keepUd r2 HB5.out⟩))
        all_goals (try go_wp2)
        all_goals (
          go_roundw
          case rel => exact ⟨q + 1, by omega, by go_num, HI.out.step HB5.out⟩
          case measure => simp [intOf]; omega)
      · obtain rfl : z.rs.length = q := by omega
        have hqi : ¬ (z.rs.length : Int) < (z.rs.length : Int) := by omega
        have hN1 := HEQ.out wr U ua uc HI.out
        have hf0 := fieldU0
        have hcd2 : (cd2 != 0) = true := by simpa using HCD2.out
        go_wp2_with (first
          | (go_at_call 11; (with_reducible refine hN1.mono ?_); clear hN1; rintro e v8 ⟨rfl, hb8⟩; have HI8 : Hid (Bv w v8 T P U z B ra rc out ua uc) := HI.out.step hb8; clear p0 p1 t0 t1 t2 t3 u0 u1; obtain ⟨p0, p1⟩ := cells2 HI8.out.b.bP; obtain ⟨t0, t1, t2, t3, _⟩ := cells4 HI8.out.b.bT; have hN2 := HCF.out v8 HI8.out.b.co)
          | (go_at_call 12; (with_reducible refine hN2.mono ?_); clear hN2; rintro e v9 ⟨rfl, hb9⟩; have HI9 : Hid (Bv w v9 T P U z B ra rc out ua uc) := HI8.out.step hb9; clear p0 p1 t0 t1 t2 t3; obtain ⟨p0, p1⟩ := cells2 HI9.out.b.bP; obtain ⟨t0, t1, t2, t3, _⟩ := cells4 HI9.out.b.bT; have hN3 := HS2.out v9 HI9.out.b)
          | (go_at_call 6; (with_reducible refine hN3.mono ?_); clear hN3; rintro e v10 ⟨xv, rfl, hb10⟩; have HI10 : Hid (Bv w v10 T P U z B ra rc out ua uc) := HI9.out.step hb10))
        go_ret
        exact ⟨by simp, HI10.out.b.bel⟩
  case step =>
    rintro L a V i ⟨b0, b1, b2, b3, b4, b5, b6, b7, b8, b9, b10, x0, x1, x2, x3, x4, x5, x6, x7, x8, x9, x10, rfl, FR, H⟩ hi
    have hlt : i < 11 := ready_lt hi
    obtain rfl | rfl | rfl | rfl | rfl | rfl | rfl | rfl | rfl | rfl | rfl : i = 0 ∨ i = 1 ∨ i = 2 ∨ i = 3 ∨ i = 4 ∨ i = 5 ∨ i = 6 ∨ i = 7 ∨ i = 8 ∨ i = 9 ∨ i = 10 := by omega
    · obtain rfl : b0 = false := ready_new hi
      have k7 : a.tmps[7]? = some (.pointer (some ⟨P, 0, none⟩)) := FR.get 15 7 rfl rfl
      refine wpOp_run (o := _) rfl (fun K hK => ?_)
      go_simp
      refine hK _ _ ?_
      exact ⟨_, _, _, _, _, _, _, _, _, _, _, _, _, _, _, _, _, _, _, _, _, _, rfl, FR.put 0 36 (by decide), { H with g0 := fun _ => rfl, o1_0 := fun _ => rfl }⟩
    · obtain rfl : b1 = false := ready_new hi
      obtain rfl : b0 = true := ready_dep (d := 0) hi (by kernel_rfl)
      obtain rfl := H.g0 rfl
      obtain ⟨hD, hB0⟩ := H.m0
      obtain ⟨q0, q1⟩ := cells2 hD.bP
      have l0 : a.tmps[36]? = some (.pointer (some ⟨P, 1, none⟩)) := FR.get 0 36 rfl rfl
      refine wpOp_run (o := _) rfl (fun K hK => ?_)
      go_simp
      refine hK _ _ ?_
      exact ⟨_, _, _, _, _, _, _, _, _, _, _, _, _, _, _, _, _, _, _, _, _, _, rfl, FR.put 1 37 (by decide), { H with g1 := fun _ => rfl, o8_1 := fun _ => rfl, o1_0 := fun _ => rfl }⟩
    · obtain rfl : b2 = false := ready_new hi
      obtain ⟨hD, hB0⟩ := H.m0
      obtain ⟨c0, c1, c2, c3, _⟩ := cells4 hD.bT
      have k4 : a.tmps[4]? = some (.pointer (some ⟨T, 0, none⟩)) := FR.get 12 4 rfl rfl
      refine wpOp_run (o := _) rfl (fun K hK => ?_)
      go_simp
      refine hK _ _ ?_
      exact ⟨_, _, _, _, _, _, _, _, _, _, _, _, _, _, _, _, _, _, _, _, _, _, rfl, FR.put 2 38 (by decide), { H with g2 := fun _ => rfl, o8_2 := fun _ => rfl }⟩
    · obtain rfl : b3 = false := ready_new hi
      have k5 : a.tmps[5]? = some (.int .i64 id) := FR.get 13 5 rfl rfl
      refine wpOp_run (o := _) rfl (fun K hK => ?_)
      go_simp
      refine hK _ _ ?_
      exact ⟨_, _, _, _, _, _, _, _, _, _, _, _, _, _, _, _, _, _, _, _, _, _, rfl, FR.put 3 39 (by decide), { H with g3 := fun _ => rfl, o8_3 := fun _ => rfl }⟩
    · obtain rfl : b4 = false := ready_new hi
      have k3 : a.tmps[3]? = some (.slice z.va z.cs.length z.vc) := FR.get 11 3 rfl rfl
      refine wpOp_run (o := _) rfl (fun K hK => ?_)
      go_simp
      refine hK _ _ ?_
      exact ⟨_, _, _, _, _, _, _, _, _, _, _, _, _, _, _, _, _, _, _, _, _, _, rfl, FR.put 4 40 (by decide), { H with g4 := fun _ => rfl, o6_4 := fun _ => rfl }⟩
    · obtain rfl : b5 = false := ready_new hi
      obtain ⟨hD, hB0⟩ := H.m0
      obtain ⟨c0, c1, c2, c3, _⟩ := cells4 hD.bT
      have k4 : a.tmps[4]? = some (.pointer (some ⟨T, 0, none⟩)) := FR.get 12 4 rfl rfl
      refine wpOp_run (o := _) rfl (fun K hK => ?_)
      go_simp
      refine hK _ _ ?_
      exact ⟨_, _, _, _, _, _, _, _, _, _, _, _, _, _, _, _, _, _, _, _, _, _, rfl, FR.put 5 41 (by decide), { H with g5 := fun _ => rfl, o6_5 := fun _ => rfl }⟩
    · obtain rfl : b6 = false := ready_new hi
      obtain rfl : b4 = true := ready_dep (d := 4) hi (by kernel_rfl)
      obtain rfl : b5 = true := ready_dep (d := 5) hi (by kernel_rfl)
      obtain rfl := H.g4 rfl
      obtain rfl := H.g5 rfl
      obtain rfl : b7 = false := Bool.eq_false_iff.2 (fun h => by have := H.o7_6 h; simp at this)
      obtain rfl : b8 = false := Bool.eq_false_iff.2 (fun h => by have := H.o8_7 h; simp at this)
      obtain rfl : b10 = false := Bool.eq_false_iff.2 (fun h => by have := H.o10_8 h; simp at this)
      obtain ⟨hD, hB0⟩ := H.m0
      have hN := HSB.out V hB0
      have l4 : a.tmps[40]? = some (.slice z.va z.cs.length z.vc) := FR.get 4 40 rfl rfl
      have l5 : a.tmps[41]? = some (.agg #[.int .i64 z.k, .int .i64 z.f, .slice z.ia z.rs.length z.ic, .slice z.oa z.os.length z.oc]) := FR.get 5 41 rfl rfl
      refine wpOp_run (o := _) rfl (fun K hK => ?_)
      go_simp
      go_at_call 9
      refine hN.mono ?_
      rintro e v5 ⟨sa, sc, rfl, hCA, hb⟩
      go_simp
      refine hK _ _ ?_
      exact ⟨_, _, _, _, _, _, _, _, _, _, _, _, _, _, _, _, _, _, _, _, _, _, rfl, FR.put 6 42 (by decide), { H with m0 := ⟨hD.step hb, hB0.trans (hb.mono hB0.size)⟩, e6 := fun _ _ => ⟨sa, sc, rfl, hCA⟩, e7 := nofun, e8 := nofun, e10 := nofun, e9 := fun h => (by obtain ⟨U, e1, e2, e3, e4⟩ := H.e9 h; exact ⟨U, e1, e2, Nat.lt_of_lt_of_le e3 hb.size, fun q => (keepb (e4 q) hb).out⟩), o7_6 := fun _ => rfl, o6_4 := fun _ => rfl, o6_5 := fun _ => rfl }⟩
    · obtain rfl : b7 = false := ready_new hi
      obtain rfl : b6 = true := ready_dep (d := 6) hi (by kernel_rfl)
      obtain rfl : b4 = true := H.o6_4 rfl
      obtain rfl : b5 = true := H.o6_5 rfl
      obtain rfl : b8 = false := Bool.eq_false_iff.2 (fun h => by have := H.o8_7 h; simp at this)
      obtain rfl : b10 = false := Bool.eq_false_iff.2 (fun h => by have := H.o10_8 h; simp at this)
      obtain ⟨sa, sc, rfl, hCA⟩ := H.e6 rfl rfl
      have hf1 := fieldU1 0 sa (inC z.cs z.rs).length sc
      have l6 : a.tmps[42]? = some (.agg #[.int .i64 0, .slice sa (inC z.cs z.rs).length sc]) := FR.get 6 42 rfl rfl
      refine wpOp_run (o := _) rfl (fun K hK => ?_)
      go_simp
      refine hK _ _ ?_
      exact ⟨_, _, _, _, _, _, _, _, _, _, _, _, _, _, _, _, _, _, _, _, _, _, rfl, FR.put 7 43 (by decide), { H with e7 := fun _ _ => ⟨sa, sc, rfl, hCA⟩, o8_7 := fun _ => rfl, o7_6 := fun _ => rfl }⟩
    · obtain rfl : b8 = false := ready_new hi
      obtain rfl : b1 = true := ready_dep (d := 1) hi (by kernel_rfl)
      obtain rfl : b2 = true := ready_dep (d := 2) hi (by kernel_rfl)
      obtain rfl : b3 = true := ready_dep (d := 3) hi (by kernel_rfl)
      obtain rfl : b7 = true := ready_dep (d := 7) hi (by kernel_rfl)
      obtain rfl : b0 = true := H.o1_0 rfl
      obtain rfl : b6 = true := H.o7_6 rfl
      obtain rfl : b4 = true := H.o6_4 rfl
      obtain rfl : b5 = true := H.o6_5 rfl
      obtain rfl := H.g1 rfl
      obtain rfl := H.g2 rfl
      obtain rfl := H.g3 rfl
      obtain rfl : b10 = false := Bool.eq_false_iff.2 (fun h => by have := H.o10_8 h; simp at this)
      obtain ⟨sa, sc, rfl, hCA⟩ := H.e7 rfl rfl
      obtain ⟨hD, hB0⟩ := H.m0
      have hN := HUB.out V sa sc hB0 hCA
      have l1 : a.tmps[37]? = some (.slice ra out.length rc) := FR.get 1 37 rfl rfl
      have l2 : a.tmps[38]? = some (.agg #[.int .i64 z.k, .int .i64 z.f, .slice z.ia z.rs.length z.ic, .slice z.oa z.os.length z.oc]) := FR.get 2 38 rfl rfl
      have l3 : a.tmps[39]? = some (.int .i64 id) := FR.get 3 39 rfl rfl
      have l7 : a.tmps[43]? = some (.slice sa (inC z.cs z.rs).length sc) := FR.get 7 43 rfl rfl
      refine wpOp_run (o := _) rfl (fun K hK => ?_)
      go_simp
      go_at_call 8
      refine hN.mono ?_
      rintro e v5 ⟨ua, uc, kv, rfl, hOU, hb⟩
      go_simp
      refine hK _ _ ?_
      exact ⟨_, _, _, _, _, _, _, _, _, _, _, _, _, _, _, _, _, _, _, _, _, _, rfl, FR.put 8 44 (by decide), { H with m0 := ⟨hD.step hb, hB0.trans (hb.mono hB0.size)⟩, e6 := fun h h2 => (by obtain ⟨sa, sc, e1, e2⟩ := H.e6 h h2; exact ⟨sa, sc, e1, e2.below hb (Nat.le_refl _)⟩), e7 := fun _ _ => ⟨sa, sc, rfl, hCA.below hb (Nat.le_refl _)⟩, e8 := fun _ _ => ⟨ua, uc, kv, _, _, rfl, hOU, Nat.le_refl _, fun h U e => (by obtain ⟨U2, e1, e2, e3, e4⟩ := H.e9 h; rw [e] at e1; cases e1; exact .inl e3)⟩, e10 := nofun, e9 := fun h => (by obtain ⟨U, e1, e2, e3, e4⟩ := H.e9 h; exact ⟨U, e1, e2, Nat.lt_of_lt_of_le e3 hb.size, fun q => (keepb (e4 q) hb).out⟩), o10_8 := fun _ => rfl, o8_1 := fun _ => rfl, o8_2 := fun _ => rfl, o8_3 := fun _ => rfl, o8_7 := fun _ => rfl }⟩
    · obtain rfl : b9 = false := ready_new hi
      obtain rfl : b10 = false := Bool.eq_false_iff.2 (fun h => by have := H.o10_9 h; simp at this)
      obtain ⟨hD, hB0⟩ := H.m0
      have hb := below_box (w := V) (.cells #[.int .i64 0, .slice none 0 0] 32)
      refine wpOp_run (o := _) rfl (fun K hK => ?_)
      go_simp
      refine hK _ _ ?_
      exact ⟨_, _, _, _, _, _, _, _, _, _, _, _, _, _, _, _, _, _, _, _, _, _, rfl, FR.put 9 8 (by decide), { H with m0 := ⟨hD.step hb, hB0.trans (hb.mono hB0.size)⟩, e6 := fun h h2 => (by obtain ⟨sa, sc, e1, e2⟩ := H.e6 h h2; exact ⟨sa, sc, e1, e2.below hb (Nat.le_refl _)⟩), e7 := fun h h2 => (by obtain ⟨sa, sc, e1, e2⟩ := H.e7 h h2; exact ⟨sa, sc, e1, e2.below hb (Nat.le_refl _)⟩), e8 := fun h h2 => (by obtain ⟨ua, uc, kv, lo, hi, e1, e2, e3, e4⟩ := H.e8 h h2; exact ⟨ua, uc, kv, lo, hi, e1, e2.below hb, Nat.le_trans e3 hb.size, fun _ U e => (by cases e; exact .inr e3)⟩), e9 := fun _ => ⟨V.heap.size, rfl, hB0.size, by simp, fun _ => heap_alloc_new _ _⟩, e10 := nofun, o10_9 := fun _ => rfl }⟩
    · obtain rfl : b10 = false := ready_new hi
      obtain rfl : b8 = true := ready_dep (d := 8) hi (by kernel_rfl)
      obtain rfl : b9 = true := ready_dep (d := 9) hi (by kernel_rfl)
      obtain rfl : b1 = true := H.o8_1 rfl
      obtain rfl : b2 = true := H.o8_2 rfl
      obtain rfl : b3 = true := H.o8_3 rfl
      obtain rfl : b7 = true := H.o8_7 rfl
      obtain rfl : b0 = true := H.o1_0 rfl
      obtain rfl : b6 = true := H.o7_6 rfl
      obtain rfl : b4 = true := H.o6_4 rfl
      obtain rfl : b5 = true := H.o6_5 rfl
      obtain ⟨ua, uc, kv, lo, hi, rfl, hOU, hhi, hap⟩ := H.e8 rfl rfl
      obtain ⟨U, rfl, hU0, hU1, hU2⟩ := H.e9 rfl
      have hUb := hU2 rfl
      have hUap := hap rfl U rfl
      obtain ⟨hD, hB0⟩ := H.m0
      obtain ⟨y0, y1⟩ := cells2 hUb
      have f0 := Joins.unfrozen_of_block hUb 0
      have f1 := Joins.unfrozen_of_block hUb 1
      obtain ⟨j0, j1⟩ := two_set hUb (.int .i64 0) (.slice ua z.cs.length uc)
      have hcg : Chg V ((V.setCell ⟨U, 0, none⟩ (.int .i64 0)).setCell ⟨U, 1, none⟩ (.slice ua z.cs.length uc)) U (U + 1) := ((Chg.refl _ _ _).setCell ⟨Nat.le_refl _, Nat.lt_succ_self _⟩ _).setCell ⟨Nat.le_refl _, Nat.lt_succ_self _⟩ _
      have hb := hcg.below (B := V0.heap.size) hU0 hB0.size
      have hD5 := HD5.out _ (hB0.trans hb)
      have hblk : ((V.setCell ⟨U, 0, none⟩ (.int .i64 0)).setCell ⟨U, 1, none⟩ (.slice ua z.cs.length uc)).heap[U]? = some (.cells #[.int .i64 0, .slice ua z.cs.length uc] 32 (0, 0)) := Joins.block_setCell (i := 1) (Joins.block_setCell (i := 0) hUb (.int .i64 0)) (.slice ua z.cs.length uc)
      have hcu := own_at2 (hOU.chg hcg (by omega)) rfl HKC.out
      have l8 : a.tmps[44]? = some (.agg #[.int .i64 0, .slice ua z.cs.length uc]) := FR.get 8 44 rfl rfl
      have l9 : a.tmps[8]? = some (.pointer (some ⟨U, 0, none⟩)) := FR.get 9 8 rfl rfl
      refine wpOp_run (o := _) rfl (fun K hK => ?_)
      go_simp
      refine hK _ _ ?_
      exact ⟨_, _, _, _, _, _, _, _, _, _, _, _, _, _, _, _, _, _, _, _, _, _, rfl, FR.skip 10 rfl, { H with m0 := ⟨hD5, hB0.trans hb⟩, e6 := fun _ q => (by cases q), e7 := fun _ q => (by cases q), e8 := fun _ q => (by cases q), e9 := fun _ => ⟨U, rfl, hU0, by simpa using hU1, fun q => (by cases q)⟩, e10 := fun _ => ⟨U, ua, uc, rfl, hblk, hcu⟩, o10_8 := fun _ => rfl, o10_9 := fun _ => rfl }⟩
end Go.Proofs.YthjolannlefbcaaGreatDoor
