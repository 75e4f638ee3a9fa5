/- The walk of the law FnTexts. -/
import Derived.Test.YtciefdphjkjikaaGreatDoorFt
import Derived.Test.YtciefdphjkjikaaGreatDoorFm
import Derived.Test.YtciefdphjkjikaaGreatDoorBl
import Derived.Test.YtciefdphjkjikaaGreatDoorBh
import Derived.Test.YtciefdphjkjikaaGreatDoorTtZ
import Derived.Test.YtciefdphjkjikaaGreatDoorJn4
import Derived.Test.YtciefdphjkjikaaGreatDoorIOs
import Derived.Test.YtciefdphjkjikaaGreatDoorISm
import Derived.Test.YtciefdphjkjikaaGreatDoorJn3
import Derived.Test.YtciefdphjkjikaaGreatDoorJn2
import Derived.Test.YtciefdphjkjikaaGreatDoorJn1
import Derived.Test.YtciefdphjkjikaaGreatDoorGd
import Derived.Test.YtciefdphjkjikaaGreatDoorGc
import Derived.Scope
import Derived.WalkMore
import Derived.Deep.DeepCutAuto
import Derived.Test.YtciefdphjkjikaaGreatDoorFc
import Derived.Test.YtciefdphjkjikaaGreatDoorTtY
import Derived.Test.YtciefdphjkjikaaGreatDoorBo
import Derived.Lib.QuietBelow
namespace Go.Proofs.YtciefdphjkjikaaGreatDoor
open Go.RowKit Go.Shelf Go.Maps Go.WideMaps Go.Sort

theorem lwBigX_any (cn cc : Nat) (ca : Option Addr) (w : World) : Calls Tryz.prog 4 #[.slice ca cn cc] w fun e w' => e = .returned (.bool (decide ((1048576 : Int) < (cn : Int)))) ∧ w' = w := by
  go_enter Tryz.func4, Tryz.ntmps4
  go_wp2
  go_ret
  exact ⟨rfl, rfl⟩
theorem fieldP0 (c k f : Int) (a b : Value) (W : World) : (Instr.field 30 (.agg #[.int .i64 c, .int .i64 k, .int .i64 f, a, b]) 0).run Tryz.prog W = .ok (.int .i64 c) W := by kernel_rfl
theorem fieldP1 (c k f : Int) (a b : Option Addr) (n m d1 d2 : Nat) (W : World) : (Instr.field 30 (.agg #[.int .i64 c, .int .i64 k, .int .i64 f, .slice a n d1, .slice b m d2]) 1).run Tryz.prog W = .ok (.agg #[.int .i64 k, .int .i64 f, .slice a n d1, .slice b m d2]) W := by kernel_rfl
theorem fieldX0 (c : Int) (s : ByteArray) (W : World) : (Instr.field 33 (.agg #[.int .i64 c, .string s]) 0).run Tryz.prog W = .ok (.int .i64 c) W := by kernel_rfl
theorem fieldX1 (c : Int) (s : ByteArray) (W : World) : (Instr.field 33 (.agg #[.int .i64 c, .string s]) 1).run Tryz.prog W = .ok (.string s) W := by kernel_rfl
theorem allO_self (n : Nat) (os : List Ou) : allO n os os = true := by
  unfold allO
  rw [List.all_eq_true]
  intro j _
  simp [sameO, sameR]
theorem sameT_self (k f : Int) (n m : Nat) (rs : List (Int × Int)) (os : List Ou) : sameT k f n m rs os k f n m rs os = true := by
  unfold sameT
  rw [if_neg (by simp), allO_self]
  simp
theorem clashR_self {k f : Int} {rs : List (Int × Int)} {os : List Ou} (h : txR k f rs os = 0) (hr : rs ≠ []) : clashR k f rs os k f rs os = true := by
  unfold clashR clashB
  rw [decide_eq_true h, Bool.true_and, Bool.true_and]
  cases rs with
  | nil => exact absurd rfl hr
  | cons a l => exact List.any_eq_true.2 ⟨a, by simp, memB_iff.2 (by simp)⟩
theorem cells5X {v : World} {b : Nat} {c0 c1 c2 c3 c4 : Value} {t : TypeId} (h : v.heap[b]? = some (.cells #[c0, c1, c2, c3, c4] t (0, 0))) : v.cell? ⟨b, 0, none⟩ = some c0 ∧ v.cell? ⟨b, 1, none⟩ = some c1 ∧ v.cell? ⟨b, 2, none⟩ = some c2 ∧ v.cell? ⟨b, 3, none⟩ = some c3 ∧ v.cell? ⟨b, 4, none⟩ = some c4 := by
  refine ⟨?_, ?_, ?_, ?_, ?_⟩ <;> (unfold World.cell?; rw [h]; rfl)
theorem row_cap2 {w : World} {base n g c z : Nat} {xs : List Value} {t : TypeId} (h : w.ownsRow base t z (.slice (some ⟨g, 0, none⟩) n c) n xs) : n ≤ c ∧ c ≤ maxLen := by
  rcases h.2 with ⟨e, _⟩ | ⟨g', c', cur, e, _, _, q1, q2, _⟩
  · cases e
  · cases e; exact ⟨q1, q2⟩
theorem bat_belowX {w w' : World} {a : Option Addr} {n : Nat} {l : List Int} (h : BAt w a n l) (hb : Below w.heap.size w w') : BAt w' a n l := by
  obtain ⟨h1, h2 | ⟨b, off, e, hl, hc⟩⟩ := h
  · exact ⟨h1, .inl h2⟩
  · exact ⟨h1, .inr ⟨b, off, e, Nat.lt_of_lt_of_le hl hb.size, fun j hj => (hb.cell (p := ⟨b, off + j, none⟩) hl).trans (hc j hj)⟩⟩
theorem oat_val {V : World} {a : Option Addr} {n j : Nat} {os : List Ou} (h : OAt V a n os) (hj : j < n) : ∃ b off, a = some ⟨b, off, none⟩ ∧ V.cell? ⟨b, off + j * 4, none⟩ = some (.int .i64 (os.getD j O0).v) := by
  obtain ⟨_, h | ⟨b, off, e, _, hc⟩⟩ := h
  · omega
  · obtain ⟨ka, kn, kc, hc0, _⟩ := hc j hj
    exact ⟨b, off, e, hc0⟩
theorem sum_bound {k f : Int} {rs : List (Int × Int)} {os : List Ou} (h : TxOk k f rs os) : ∀ q, q ≤ os.length → 0 ≤ ((os.take q).map Ou.v).sum ∧ ((os.take q).map Ou.v).sum ≤ 1000000 * (q : Int)
  | 0, _ => by simp
  | q + 1, hq => by
    have ih := sum_bound h q (by omega)
    have hv := (h.o q (by omega)).v
    rw [List.take_add_one, List.getElem?_eq_getElem (show q < os.length by omega), List.map_append, List.sum_append]
    rw [List.getD, List.getElem?_eq_getElem (show q < os.length by omega)] at hv
    have e : ((some os[q]).toList.map Ou.v).sum = os[q].v := Int.add_zero _
    have hv' : 0 ≤ os[q].v ∧ os[q].v ≤ 1000000 := hv
    rw [e]
    omega
theorem sum_step {k f : Int} {rs : List (Int × Int)} {os : List Ou} {q : Nat} (h : TxOk k f rs os) (hq : q < os.length) : ((os.take (q + 1)).map Ou.v).sum = ((os.take q).map Ou.v).sum + (os.getD q O0).v ∧ IntKind.i64.wrap (((os.take q).map Ou.v).sum + (os.getD q O0).v) = ((os.take q).map Ou.v).sum + (os.getD q O0).v := by
  have h1 := sum_bound h q (by omega)
  have h2 := (h.o q hq).v
  have h3 := h.m
  refine ⟨?_, IntWalk.i64_in _ (by omega)⟩
  rw [List.take_add_one, List.getElem?_eq_getElem hq, List.map_append, List.sum_append, List.getD, List.getElem?_eq_getElem hq]
  show _ + (os[q].v + 0) = _ + os[q].v
  rw [Int.add_zero]
theorem wf_milX {a : Int} (h0 : 0 ≤ a) (h1 : a ≤ 1000000) : (Lit.int .i64 a).wf = true := by
  have e1 : IntKind.i64.min = -9223372036854775808 := by decide
  have e2 : IntKind.i64.max = 9223372036854775807 := by decide
  simp [Lit.wf, e1, e2]
  omega
theorem oown_atX {w : World} {lo hi c : Nat} {a : Option Addr} {os : List Ou} {kv : Nat → Value} (h : OOwn w lo hi (.slice a os.length c) os.length (fun j => os.getD j O0) kv) (hl : ∀ j, j < os.length → (os.getD j O0).l.length ≤ 1048576) : OAt w a os.length os := by
  by_cases hn : os.length = 0
  · exact ⟨rfl, .inl hn⟩
  obtain ⟨xs, h1, _⟩ := h.row
  obtain ⟨g, cap, e⟩ := Joins.ownsRow_form h1 (by omega)
  cases e
  exact h.at rfl hl
theorem fine_ok {k f : Int} {rs : List (Int × Int)} {os : List Ou} (h : TxOk k f rs os) : (Lit.int .i64 k).wf = true ∧ (Lit.int .i64 f).wf = true ∧ FineR rs ∧ FineO os := by
  have w0 : (Lit.int .i64 0).wf = true := wf_milX (by omega) (by omega)
  refine ⟨by rcases h.k with rfl | rfl | rfl <;> exact wf_milX (by omega) (by omega), wf_milX h.f.1 (by have := h.f.2; omega), fun j => ?_, fun j => ?_⟩
  · by_cases hj : j < rs.length
    · have := h.r j hj
      exact ⟨wf_milX this.1.1 (by omega), wf_milX this.2.1 (by omega)⟩
    · rw [List.getD, List.getElem?_eq_none (by omega)]
      exact ⟨w0, w0⟩
  · by_cases hj : j < os.length
    · have := h.o j hj
      refine ⟨wf_milX this.v.1 this.v.2, fun q hq => ?_, wf_milX this.x.1 (by have := this.x.2; omega), wf_milX this.y.1 (by have := this.y.2; omega)⟩
      obtain ⟨i, hi, e⟩ := List.getElem_of_mem hq
      have h2 := this.k i hi
      rw [List.getD, List.getElem?_eq_getElem hi, e] at h2
      exact wf_milX h2.1 (by have := h2.2; simp at this; omega)
    · rw [List.getD, List.getElem?_eq_none (by omega)]
      exact ⟨w0, fun q hq => (by cases hq), w0, w0⟩
theorem ttR_parts {k f : Int} {rs : List (Int × Int)} {os : List Ou} (h : (ttR k f rs os).1 = 0) : txR k f rs os = 0 ∧ (txT k f rs os).length ≤ 300 ∧ (ttR k f rs os).2 = txT k f rs os := by
  unfold ttR at h ⊢
  by_cases h1 : txR k f rs os ≠ 0
  · rw [if_pos h1] at h; exact absurd h h1
  rw [if_neg h1] at h ⊢
  by_cases h2 : 300 < (txT k f rs os).length
  · rw [if_pos h2] at h; cases h
  rw [if_neg h2]
  exact ⟨Decidable.not_not.1 h1, by omega, rfl⟩
/-- A text that is read is its transaction's. -/
theorem parT_back {t : List UInt8} {x : TxV} (h : parT t = some x) : txR x.k x.f x.rs x.os = 0 ∧ txT x.k x.f x.rs x.os = t ∧ t.length ≤ 300 := by
  obtain ⟨_, hx⟩ := kept_some h
  exact hx
theorem parT_txT {x : TxV} (h : txR x.k x.f x.rs x.os = 0) (hl : (txT x.k x.f x.rs x.os).length ≤ 300) : parT (txT x.k x.f x.rs x.os) = some x := by
  show kept (sread _) _ = _
  rw [sread_txT h]
  exact if_pos ⟨h, rfl, hl⟩
/-- A transaction that is drawn for TxText. -/
def OutDx (w w' : World) (e : Ending) : Prop :=
  ∃ (k f : Int) (ia : Option Addr) (ic : Nat) (rs : List (Int × Int)) (oa : Option Addr) (oc : Nat) (os : List Ou), e = .returned (.agg #[.int .i64 k, .int .i64 f, .slice ia rs.length ic, .slice oa os.length oc]) ∧ Hid (KTB k f rs os) ∧ Hid (w'.ownsRow w.heap.size 65 2 (.slice ia rs.length ic) rs.length (gcells rs)) ∧ Hid (TxAt w' ia rs.length oa os.length rs os) ∧ Hid (Below w.heap.size w w')

set_option maxRecDepth 20000 in
set_option maxHeartbeats 4000000 in
theorem drawTxText_any (ca : Option Addr) (cn cc : Nat) (l0 : List Int) (w : World) (hcn : cn ≤ 1048576) (hB : BAt w ca cn l0) :
    Calls Tryz.prog 9 #[.slice ca cn cc] w fun e w' => OutDx w w' e := by
  have hs := l1Source_any ca cn cc (w.alloc (.cells #[.int .i64 0, .int .i64 0, .slice none 0 0, .slice none 0 0] 28))
  have HBA : Hid (BAt w ca cn l0) := hB
  clear hB
  go_enter Tryz.func9, Tryz.ntmps9
  go_wp2_with (first
    | (go_at_call 16; (with_reducible refine hs.mono ?_); clear hs; rintro e v1 ⟨rfl, hS⟩; rw [show (w.alloc (.cells #[.int .i64 0, .int .i64 0, .slice none 0 0, .slice none 0 0] 28)).heap.size = w.heap.size + 1 by simp] at hS ⊢; have HS1 : Hid (Src w v1 (w.heap.size + 1) ca cn cc 0) := ⟨hS.box, (below_box _).trans (hS.bel.mono (by simp)), by omega⟩; have HRB : Hid (v1.heap[w.heap.size]? = some (.cells #[.int .i64 0, .int .i64 0, .slice none 0 0, .slice none 0 0] 28 (0, 0))) := (hS.bel.block w.heap.size (by simp)).trans (heap_alloc_new _ _); clear hS; have h1 := l3Bent_any (w.heap.size + 1) cn cc 0 ca l0 w v1 (by omega) hcn HBA.out HS1.out)
    | (go_at_call 26; (with_reducible refine h1.mono ?_); clear h1; rintro e v2 ⟨k, f, ia, ic, rs, oa, oc, os, t2, rfl, ht2, HK, HO⟩; have HR2 : Hid (v2.heap[w.heap.size]? = some (.cells #[.int .i64 0, .int .i64 0, .slice none 0 0, .slice none 0 0] 28 (0, 0))) := HO.out.chg.keep1 HRB.out (by omega); obtain ⟨r0, r1, r2, r3, r4, r5, r6, r7⟩ := cells4 HR2.out))
  obtain ⟨j0, j1, j2, j3⟩ := four_set HR2.out (.int .i64 k) (.int .i64 f) (.slice ia rs.length ic) (.slice oa os.length oc)
  refine bodyPost_ret (v := .agg #[.int .i64 k, .int .i64 f, .slice ia rs.length ic, .slice oa os.length oc]) (by simp [results, Tryz.results9, go_sem, j0, j1, j2, j3]) rfl ?_
  have hb : Below w.heap.size v2 ((((v2.setCell ⟨w.heap.size, 0, none⟩ (.int .i64 k)).setCell ⟨w.heap.size, 1, none⟩ (.int .i64 f)).setCell ⟨w.heap.size, 2, none⟩ (.slice ia rs.length ic)).setCell ⟨w.heap.size, 3, none⟩ (.slice oa os.length oc)) := ((((Below.refl _ _).setCell (p := ⟨w.heap.size, 0, none⟩) (Nat.le_refl _) _).setCell (p := ⟨w.heap.size, 1, none⟩) (Nat.le_refl _) _).setCell (p := ⟨w.heap.size, 2, none⟩) (Nat.le_refl _) _).setCell (p := ⟨w.heap.size, 3, none⟩) (Nat.le_refl _) _
  have hv1 := HS1.out.lt
  have hC : Chg v2 ((((v2.setCell ⟨w.heap.size, 0, none⟩ (.int .i64 k)).setCell ⟨w.heap.size, 1, none⟩ (.int .i64 f)).setCell ⟨w.heap.size, 2, none⟩ (.slice ia rs.length ic)).setCell ⟨w.heap.size, 3, none⟩ (.slice oa os.length oc)) w.heap.size (w.heap.size + 1) := ((((Chg.refl _ _ _).setCell ⟨Nat.le_refl _, by omega⟩ _).setCell ⟨Nat.le_refl _, by omega⟩ _).setCell ⟨Nat.le_refl _, by omega⟩ _).setCell ⟨Nat.le_refl _, by omega⟩ _
  have hR := hC.row1 HO.out.ref (by omega)
  obtain ⟨kv, hk⟩ := HO.out.out
  have hO := hk.chg hC (.inr (by omega))
  exact ⟨k, f, ia, ic, rs, oa, oc, os, rfl, HK.out, Joins.ownsRow_le hR (by omega), ⟨gat_ref hR rfl, oown_atX hO (fun j hj => by have := HK.out.2.2 _ (getD_mem (d := O0) hj); omega)⟩, HO.out.src.bel.trans hb⟩

set_option maxRecDepth 20000 in
set_option maxHeartbeats 8000000 in
theorem lawTexts (cn cc : Nat) (ca : Option Addr) (l : List Int) (mx : Int) (w : World) (hmx : w.cell? ⟨1, 0, none⟩ = some (.int .i64 mx)) (hE : Erv w) (hEv : Ev w) (hB : BAt w ca cn l) :
    Calls Tryz.prog 3 #[.slice ca cn cc] w fun e w' => e = .returned (.bool true) ∧ Below w.heap.size w w' := by
  have hmix : Tryz.prog.follows .mixedOrders = true := by kernel_rfl
  have hbig := lwBigX_any cn cc ca w
  by_cases hb : 1048576 < cn
  · have hd : decide ((1048576 : Int) < (cn : Int)) = true := decide_eq_true (by omega)
    rw [hd] at hbig
    go_enter Tryz.func3, Tryz.ntmps3
    go_wp2_with (go_at_call 4; (with_reducible refine hbig.mono ?_); clear hbig; rintro e w1 ⟨rfl, hw⟩; have hw2 := hw.symm; subst hw2)
    go_ret
    exact ⟨rfl, Below.refl _ _⟩
  have hd : decide ((1048576 : Int) < (cn : Int)) = false := decide_eq_false (by omega)
  rw [hd] at hbig
  have hdr := drawParseTx_any cn cc ca l w (by omega) hB
  have hlm := World.block_lt_of_cell? _ _ hmx
  have HMX : Hid (∀ W, Below w.heap.size w W → W.cell? ⟨1, 0, none⟩ = some (.int .i64 mx) ∧ Erv W ∧ Ev W ∧ BAt W ca cn l) := fun W h => ⟨(h.cell (p := ⟨1, 0, none⟩) hlm).trans hmx, hE.below h, hEv.below h (Nat.le_refl _), bat_belowX hB h⟩
  clear hB hd hE hEv hmx hlm
  have hcn : cn ≤ 1048576 := by omega
  go_enter Tryz.func3, Tryz.ntmps3
  go_wp2_with (first
    | (go_at_call 4; (with_reducible refine hbig.mono ?_); clear hbig; rintro e w1 ⟨rfl, hw⟩; have hw2 := hw.symm; subst hw2)
    | (go_at_call 5; (with_reducible refine hdr.mono ?_); clear hdr; rintro e v1 ⟨tx, rfl, htx, HB1⟩; have HPT : Hid (∀ W, Below v1.heap.size v1 W → Calls Tryz.prog 6 #[.string (str tx)] W fun e w' => OutPt W w' e tx) := fun W hW => iParseTx_any tx mx W (by omega) (HMX.out W (HB1.out.trans (hW.mono HB1.out.size))).1 (HMX.out W (HB1.out.trans (hW.mono HB1.out.size))).2.1 (HMX.out W (HB1.out.trans (hW.mono HB1.out.size))).2.2.1; have h1 := HPT.out v1 (Below.refl _ _)))
  refine h1.mono ?_
  clear h1
  rintro e v2 ⟨hb2, hcase⟩
  obtain ⟨cd, k, f, va, n, vc, vb, m, vd, rfl, HC⟩ : ∃ (cd k f : Int) (va : Option Addr) (n vc : Nat) (vb : Option Addr) (m vd : Nat), e = .returned (.agg #[.int .i64 cd, .int .i64 k, .int .i64 f, .slice va n vc, .slice vb m vd]) ∧ Hid ((cd = 0 ∧ ∃ rs os, parT tx = some ⟨k, f, rs, os⟩ ∧ rs.length = n ∧ os.length = m ∧ TxAt v2 va n vb m rs os ∧ n ≤ vc ∧ vc ≤ maxLen) ∨ (cd = 5 ∧ parT tx = none ∧ k = 0 ∧ f = 0 ∧ va = none ∧ n = 0 ∧ vc = 0 ∧ vb = none ∧ m = 0 ∧ vd = 0)) := by
    rcases hcase with ⟨x, g0, c0, g1, c1, lo, mid, hi, kv, hx, rfl, hT, _, _⟩ | ⟨hx, rfl⟩
    · refine ⟨0, x.k, x.f, _, _, _, _, _, _, rfl, .inl ⟨rfl, x.rs, x.os, hx, rfl, rfl, ⟨gat_ref hT.r rfl, hT.o.at rfl fun j hj => ?_⟩, (row_cap2 hT.r).1, (row_cap2 hT.r).2⟩⟩
      have := (parT_back hx).1
      have h2 := (txOk_of this.symm).o j hj
      have := h2.n.2
      omega
    · exact ⟨5, 0, 0, none, 0, 0, none, 0, 0, rfl, .inr ⟨rfl, hx, rfl, rfl, rfl, rfl, rfl, rfl, rfl, rfl⟩⟩
  clear hcase
  have HB2 : Hid (Below w.heap.size w (v2.alloc (.cells #[.int .i64 cd, .int .i64 k, .int .i64 f, .slice va n vc, .slice vb m vd] 30))) := HB1.out.trans ((hb2.trans ((below_box _).mono hb2.size)).mono HB1.out.size)
  have HX2 : Hid ((v2.alloc (.cells #[.int .i64 cd, .int .i64 k, .int .i64 f, .slice va n vc, .slice vb m vd] 30)).heap[v2.heap.size]? = some (.cells #[.int .i64 cd, .int .i64 k, .int .i64 f, .slice va n vc, .slice vb m vd] 30 (0, 0))) := heap_alloc_new _ _
  have HC2 : Hid ((cd = 0 ∧ ∃ rs os, parT tx = some ⟨k, f, rs, os⟩ ∧ rs.length = n ∧ os.length = m ∧ TxAt (v2.alloc (.cells #[.int .i64 cd, .int .i64 k, .int .i64 f, .slice va n vc, .slice vb m vd] 30)) va n vb m rs os ∧ n ≤ vc ∧ vc ≤ maxLen) ∨ (cd = 5 ∧ parT tx = none ∧ k = 0 ∧ f = 0 ∧ va = none ∧ n = 0 ∧ vc = 0 ∧ vb = none ∧ m = 0 ∧ vd = 0)) := by
    rcases HC.out with ⟨h0, rs, os, h1, h2, h3, h4, h5⟩ | h
    · exact .inl ⟨h0, rs, os, h1, h2, h3, h4.below (below_box _) (Nat.le_refl _), h5⟩
    · exact .inr h
  clear hb2 HC HB1 HPT
  go_upto_region 5 with fail
  obtain ⟨P, hP⟩ : ∃ x, x = v2.heap.size := ⟨_, rfl⟩
  obtain ⟨U, hU⟩ : ∃ W, W = v2.alloc (.cells #[.int .i64 cd, .int .i64 k, .int .i64 f, .slice va n vc, .slice vb m vd] 30) := ⟨_, rfl⟩
  rw [← hU] at HB2 HC2
  rw [← hU, ← hP] at HX2
  rw [← hP, ← hU]
  clear hU hP
  obtain ⟨p0, p1, p2, p3, p4⟩ := cells5X HX2.out
  go_cut [51] (fun c wc => c = .bool false ∧ Hid (Below w.heap.size w wc))
  case first =>
    have y0 := cell_regrown p0
    have y1 := cell_regrown p1
    have y2 := cell_regrown p2
    have y3 := cell_regrown p3
    have y4 := cell_regrown p4
    rcases HC2.out with ⟨rfl, rs, os, h1, h2, h3, h4, h5, h6⟩ | ⟨rfl, h1, rfl, rfl, rfl, rfl, rfl, rfl, rfl, rfl⟩
    · obtain ⟨q1, q2, q3⟩ := parT_back h1
      have hok : TxOk k f rs os := txOk_of q1.symm
      have hnm : n ≤ 4 ∧ m ≤ 4 := ⟨by have := hok.n; omega, by have := hok.m; omega⟩
      have hn0 : n ≠ 0 := fun e => (tx_parts (x := ⟨k, f, rs, os⟩) q1).2.2.1 (List.length_eq_zero_iff.1 (h2.trans e))
      have hnb : ((n : Int) == 0) = false := by simp; omega
      have hnb2 : (n == 0) = false := by simpa using hn0
      have hfx := fieldX1 0 (str tx)
      have hsn : ((str tx).toList != (str tx).toList) = false := by simp
      have cT : ∀ dd oq, Calls Tryz.prog 7 #[.agg #[.int .i64 k, .int .i64 f, .slice va n vc, .slice vb m vd]] (grow (redrawn U dd) oq) fun e w'' => e = .returned (.agg #[.int .i64 0, .string (str tx)]) ∧ ∃ p : Regrown, w'' = grow (redrawn U p.d) p.os := fun dd oq => Calls.regrown_of (by
        have hbg := below_regrown U dd oq
        have := iTxText_any n vc m vd va vb k f rs os (grow (redrawn U dd) oq) (by omega) (by omega) h5 h6 (fun j hj => by have := (hok.o j (by omega)).n.2; omega) (h4.below hbg (Nat.le_refl _)) (HMX.out _ (HB2.out.trans (hbg.mono HB2.out.size))).2.2.1 (fun _ => by show (txT k f rs os).length ≤ 100000; rw [q2]; omega)
        have e : ttR k f rs os = (0, tx) := by
          unfold ttR
          rw [if_neg (by simpa using q1), if_neg (by show ¬ 300 < (txT k f rs os).length; rw [q2]; omega)]
          show ((0 : Int), txT k f rs os) = _
          rw [q2]
        rw [e] at this
        exact this)
      clear h1 h2 h3 h4 hok q1 q2 q3 hn0 p0 p1 p2 p3 p4
      refine wp_region_quiet_below hmix (by kernel_rfl) ?_
      repeat (go_big_quiet_step (first | (with_reducible exact cT _ _)))
      refine wpQuiet_nil ?_
      intro _ hw'
      obtain ⟨⟨dq, osq⟩, hw''⟩ := hw'
      subst hw''
      go_wp2
      go_meet
      exact ⟨rfl, HB2.out.trans ((below_regrown U dq osq).mono HB2.out.size)⟩
    · have hfp := fieldP0 5 0 0 (.slice none 0 0) (.slice none 0 0)
      have cS : ∀ dd oq, Calls Tryz.prog 8 #[.string (str tx)] (grow (redrawn U dd) oq) fun e w'' => e = .returned (.agg #[.int .i64 5, .int .i64 0, .int .i64 0, .slice none 0 0, .slice none 0 0]) ∧ ∃ p : Regrown, w'' = grow (redrawn U p.d) p.os := fun dd oq => Calls.regrown_of ((sParseTx_any tx (grow (redrawn U dd) oq) (by omega)).mono fun e w' ⟨hb, hc⟩ => by
        rcases hc with ⟨x, _, _, _, _, _, _, _, _, hx, _⟩ | ⟨_, he⟩
        · rw [h1] at hx; cases hx
        · exact ⟨he, hb⟩)
      clear h1 p0 p1 p2 p3 p4
      refine wp_region_quiet_below hmix (by kernel_rfl) ?_
      repeat (go_big_quiet_step (first | (with_reducible exact cS _ _)))
      refine wpQuiet_nil ?_
      intro _ hw'
      obtain ⟨⟨dq, osq⟩, hw''⟩ := hw'
      subst hw''
      go_wp2
      go_meet
      exact ⟨rfl, HB2.out.trans ((below_regrown U dq osq).mono HB2.out.size)⟩
  case rest =>
    obtain ⟨rfl, HBc⟩ := hcut
    clear HB2 HX2 HC2 p0 p1 p2 p3 p4
    have hdt := drawTxText_any ca cn cc l wc hcn (HMX.out wc HBc.out).2.2.2
    go_wp2_with fail
    refine hdt.mono ?_
    clear hdt
    rintro e v3 ⟨k, f, ia, ic, rs, oa, oc, os, rfl, HKT, HR3, HT3, HB3⟩
    obtain ⟨nr, hnr⟩ : ∃ q, q = rs.length := ⟨_, rfl⟩
    obtain ⟨no, hno⟩ : ∃ q, q = os.length := ⟨_, rfl⟩
    have HKL : Hid (∀ j, j < no → (os.getD j O0).l.length ≤ 1048576) := fun j hj => by have := HKT.out.2.2 _ (getD_mem (d := O0) (show j < os.length by omega)); omega
    have HCAP : Hid (nr ≤ ic ∧ ic ≤ maxLen) := by
      rw [hnr]
      rcases HR3.out.2 with ⟨e, h0⟩ | ⟨g', c', cur, e, _, _, q1, q2, _⟩
      · injection e with _ _ e3
        rw [e3, h0]; exact ⟨Nat.le_refl _, Nat.zero_le _⟩
      · injection e with _ _ e3
        rw [e3]; exact ⟨q1, q2⟩
    have hnr3 : nr ≤ 3 := by have := HKT.out.1; omega
    have hno5 : no ≤ 5 := by have := HKT.out.2.1; omega
    have HNO : Hid (os.length = no) := hno.symm
    have HNR : Hid (rs.length = nr) := hnr.symm
    rw [← hnr, ← hno] at HT3 ⊢
    clear HR3 hnr hno HKT
    have HTX : Hid (∀ W, Below v3.heap.size v3 W → TxAt W ia nr oa no rs os ∧ Below w.heap.size w W) := fun W hW => ⟨HT3.out.below hW (Nat.le_refl _), HBc.out.trans ((HB3.out.trans (hW.mono HB3.out.size)).mono HBc.out.size)⟩
    obtain ⟨tc, htc⟩ : ∃ q, q = (ttR k f rs os).1 := ⟨_, rfl⟩
    obtain ⟨tt, htt⟩ : ∃ q, q = (ttR k f rs os).2 := ⟨_, rfl⟩
    obtain ⟨fc, hfc⟩ : ∃ q, q = txR k f rs os := ⟨_, rfl⟩
    have HTT : Hid ((ttR k f rs os).1 = tc ∧ (ttR k f rs os).2 = tt ∧ txR k f rs os = fc) := ⟨htc.symm, htt.symm, hfc.symm⟩
    have HIT : Hid (∀ W, Below v3.heap.size v3 W → Calls Tryz.prog 7 #[.agg #[.int .i64 k, .int .i64 f, .slice ia nr ic, .slice oa no oc]] W fun e w' => e = .returned (.agg #[.int .i64 tc, .string (str tt)]) ∧ Below W.heap.size W w') := fun W hW => by
      have := iTxText_any nr ic no oc ia oa k f rs os W (by omega) (by omega) HCAP.out.1 HCAP.out.2 HKL.out (HTX.out W hW).1 (HMX.out W (HTX.out W hW).2).2.2.1 (fun h0 => by
        have hok := txOk_of h0.symm
        exact tx_len hok (tx_parts (x := ⟨k, f, rs, os⟩) h0).2.2.1)
      rw [HTT.out.1, HTT.out.2.1] at this
      exact this
    have HST : Hid (∀ W, Below v3.heap.size v3 W → Calls Tryz.prog 10 #[.agg #[.int .i64 k, .int .i64 f, .slice ia nr ic, .slice oa no oc]] W fun e w' => e = .returned (.agg #[.int .i64 tc, .string (str tt)]) ∧ Below W.heap.size W w') := fun W hW => by
      have := sTxText_any nr ic no oc ia oa k f rs os W (by omega) (by omega) HCAP.out.1 HCAP.out.2 HKL.out (HTX.out W hW).1
      rw [HTT.out.1, HTT.out.2.1] at this
      exact this
    have HIF : Hid (∀ W, Below v3.heap.size v3 W → Calls Tryz.prog 11 #[.agg #[.int .i64 k, .int .i64 f, .slice ia nr ic, .slice oa no oc]] W fun e w' => e = .returned (.int .i64 fc) ∧ Below W.heap.size W w') := fun W hW => by
      have := iTxFault_any nr ic no oc ia oa k f rs os W (by omega) (by omega) HCAP.out.1 HCAP.out.2 HKL.out (HTX.out W hW).1
      rw [HTT.out.2.2] at this
      exact this
    have HSF : Hid (∀ W, Below v3.heap.size v3 W → Calls Tryz.prog 12 #[.agg #[.int .i64 k, .int .i64 f, .slice ia nr ic, .slice oa no oc]] W fun e w' => e = .returned (.int .i64 fc) ∧ Below W.heap.size W w') := fun W hW => by
      have := sTxFault_any nr ic no oc ia oa k f rs os W (by omega) (by omega) HCAP.out.1 HCAP.out.2 HKL.out (HTX.out W hW).1
      rw [HTT.out.2.2] at this
      exact this
    clear htc htt hfc HT3
    have HBX : Hid (Below v3.heap.size v3 (v3.alloc (.cells #[.int .i64 k, .int .i64 f, .slice ia nr ic, .slice oa no oc] 28))) := below_box _
    have HT0 : Hid ((v3.alloc (.cells #[.int .i64 k, .int .i64 f, .slice ia nr ic, .slice oa no oc] 28)).heap[v3.heap.size]? = some (.cells #[.int .i64 k, .int .i64 f, .slice ia nr ic, .slice oa no oc] 28 (0, 0))) := heap_alloc_new _ _
    have hx := HIT.out (v3.alloc (.cells #[.int .i64 k, .int .i64 f, .slice ia nr ic, .slice oa no oc] 28)) HBX.out
    obtain ⟨t0, t1, t2, t3, _⟩ := cells4 HT0.out
    go_wp2_with fail
    refine hx.mono ?_
    clear hx
    rintro e v4 ⟨rfl, hb4⟩
    have HB4 : Hid (Below v3.heap.size v3 (v4.alloc (.cells #[.int .i64 tc, .string (str tt)] 33))) := HBX.out.trans ((hb4.trans ((below_box _).mono hb4.size)).mono HBX.out.size)
    have HX4 : Hid ((v4.alloc (.cells #[.int .i64 tc, .string (str tt)] 33)).heap[v4.heap.size]? = some (.cells #[.int .i64 tc, .string (str tt)] 33 (0, 0))) := heap_alloc_new _ _
    have HT4 : Hid ((v4.alloc (.cells #[.int .i64 tc, .string (str tt)] 33)).heap[v3.heap.size]? = some (.cells #[.int .i64 k, .int .i64 f, .slice ia nr ic, .slice oa no oc] 28 (0, 0))) := (keepb HT0.out (hb4.trans ((below_box _).mono hb4.size))).out
    clear hb4 t0 t1 t2 t3 HT0 HBX
    obtain ⟨x0, x1⟩ := cells2 HX4.out
    go_upto_if 58 with fail
    obtain ⟨T, hT⟩ : ∃ x, x = v3.heap.size := ⟨_, rfl⟩
    obtain ⟨X, hX⟩ : ∃ x, x = v4.heap.size := ⟨_, rfl⟩
    obtain ⟨U, hU⟩ : ∃ W, W = v4.alloc (.cells #[.int .i64 tc, .string (str tt)] 33) := ⟨_, rfl⟩
    rw [← hU] at HB4
    rw [← hU, ← hX] at HX4 x0 x1
    rw [← hU, ← hT] at HT4
    rw [← hT, ← hX, ← hU]
    clear hT hX hU
    obtain ⟨t0, t1, t2, t3, _⟩ := cells4 HT4.out
    by_cases h0 : tc = 0
    rotate_left
    · have hcb : (tc != 0) = true := by simpa using h0
      have y0 := cell_regrown t0
      have y1 := cell_regrown t1
      have y2 := cell_regrown t2
      have y3 := cell_regrown t3
      have y4 := cell_regrown x0
      have hf0 := fieldX0 tc (str tt)
      have e0 : (tc == tc) = true := by simp
      have e1 : (fc == fc) = true := by simp
      have cA : ∀ dd oq, Calls Tryz.prog 10 #[.agg #[.int .i64 k, .int .i64 f, .slice ia nr ic, .slice oa no oc]] (grow (redrawn U dd) oq) fun e w'' => e = .returned (.agg #[.int .i64 tc, .string (str tt)]) ∧ ∃ p : Regrown, w'' = grow (redrawn U p.d) p.os := fun dd oq => Calls.regrown_of (HST.out _ (HB4.out.trans ((below_regrown U dd oq).mono HB4.out.size)))
      have cB : ∀ dd oq, Calls Tryz.prog 11 #[.agg #[.int .i64 k, .int .i64 f, .slice ia nr ic, .slice oa no oc]] (grow (redrawn U dd) oq) fun e w'' => e = .returned (.int .i64 fc) ∧ ∃ p : Regrown, w'' = grow (redrawn U p.d) p.os := fun dd oq => Calls.regrown_of (HIF.out _ (HB4.out.trans ((below_regrown U dd oq).mono HB4.out.size)))
      have cC : ∀ dd oq, Calls Tryz.prog 12 #[.agg #[.int .i64 k, .int .i64 f, .slice ia nr ic, .slice oa no oc]] (grow (redrawn U dd) oq) fun e w'' => e = .returned (.int .i64 fc) ∧ ∃ p : Regrown, w'' = grow (redrawn U p.d) p.os := fun dd oq => Calls.regrown_of (HSF.out _ (HB4.out.trans ((below_regrown U dd oq).mono HB4.out.size)))
      clear t0 t1 t2 t3 x0 x1 h0
      go_wp2
      refine wp_region_quiet_below hmix (by kernel_rfl) ?_
      repeat (go_big_quiet_step (first | (with_reducible exact cA _ _) | (with_reducible exact cB _ _) | (with_reducible exact cC _ _)))
      refine wpQuiet_nil ?_
      intro _ hw'
      obtain ⟨⟨dq, osq⟩, hw''⟩ := hw'
      subst hw''
      go_wp2
      go_ret
      exact ⟨by simp, (HTX.out _ (HB4.out.trans ((below_regrown U dq osq).mono HB4.out.size))).2⟩
    subst h0
    obtain ⟨q1, q2, q3⟩ := ttR_parts HTT.out.1
    have hfc0 : fc = 0 := HTT.out.2.2.symm.trans q1
    have htt0 : tt = txT k f rs os := HTT.out.2.1.symm.trans q3
    subst hfc0
    have HQ : Hid (TxOk k f rs os ∧ rs ≠ [] ∧ parT tt = some ⟨k, f, rs, os⟩ ∧ tt.length ≤ 300 ∧ txR k f rs os = 0) := ⟨txOk_of q1.symm, (tx_parts (x := ⟨k, f, rs, os⟩) q1).2.2.1, by rw [htt0]; exact parT_txT (x := ⟨k, f, rs, os⟩) q1 q2, by rw [htt0]; exact q2, q1⟩
    have hno4 : no ≤ 4 := by have := HQ.out.1.m; rw [HNO.out] at this; exact this
    clear q1 q2 q3 htt0 HST HSF
    have hos := iOutSum_any nr ic no oc ia oa k f rs os U (by omega) (by omega) HCAP.out.1 HCAP.out.2 HKL.out (HTX.out U HB4.out).1
    obtain ⟨sm, hsm⟩ : ∃ q, q = (os.map Ou.v).sum := ⟨_, rfl⟩
    rw [show sumR k f rs os = (0, sm) by unfold sumR; rw [if_neg (by simpa using HQ.out.2.2.2.2), hsm]] at hos
    have HSM : Hid (sm = (os.map Ou.v).sum) := hsm
    clear hsm
    go_wp2_with fail
    refine hos.mono ?_
    clear hos
    rintro e v5 ⟨rfl, hb5⟩
    have HB5 : Hid (Below U.heap.size U (v5.alloc (.cells #[.int .i64 0, .int .i64 sm] 38))) := hb5.trans ((below_box _).mono hb5.size)
    have HX5 : Hid ((v5.alloc (.cells #[.int .i64 0, .int .i64 sm] 38)).heap[v5.heap.size]? = some (.cells #[.int .i64 0, .int .i64 sm] 38 (0, 0))) := heap_alloc_new _ _
    clear hb5 t0 t1 t2 t3 x0 x1
    go_wp2
    obtain ⟨S, hS⟩ : ∃ x, x = v5.heap.size := ⟨_, rfl⟩
    obtain ⟨V, hV⟩ : ∃ W, W = v5.alloc (.cells #[.int .i64 0, .int .i64 sm] 38) := ⟨_, rfl⟩
    rw [← hV] at HB5
    rw [← hV, ← hS] at HX5
    rw [← hS, ← hV]
    clear hS hV
    have HC5 : Hid (∀ W, Below V.heap.size V W → (W.cell? ⟨T, 0, none⟩ = some (.int .i64 k) ∧ W.cell? ⟨T, 1, none⟩ = some (.int .i64 f) ∧ W.cell? ⟨T, 2, none⟩ = some (.slice ia nr ic) ∧ W.cell? ⟨T, 3, none⟩ = some (.slice oa no oc)) ∧ W.cell? ⟨X, 1, none⟩ = some (.string (str tt)) ∧ W.cell? ⟨S, 0, none⟩ = some (.int .i64 0) ∧ W.cell? ⟨S, 1, none⟩ = some (.int .i64 sm)) := fun W hW => by
      have hUW := HB5.out.trans (hW.mono HB5.out.size)
      obtain ⟨p0, p1, p2, p3, _⟩ := cells4 (keepb HT4.out hUW).out
      obtain ⟨q0, q1⟩ := cells2 (keepb HX4.out hUW).out
      obtain ⟨r0, r1⟩ := cells2 (keepb HX5.out hW).out
      exact ⟨⟨p0, p1, p2, p3⟩, q1, r0, r1⟩
    have HV3 : Hid (∀ W, Below V.heap.size V W → Below v3.heap.size v3 W) := fun W hW => HB4.out.trans ((HB5.out.trans (hW.mono HB5.out.size)).mono HB4.out.size)
    obtain ⟨⟨t0, t1, t2, t3⟩, x1, s0, s1⟩ := HC5.out V (Below.refl _ _)
    go_loopw [8, 9] (fun a i wr => ∃ q : Nat, q ≤ no ∧ i = .int .i64 (q : Int) ∧ a = .int .i64 ((os.take q).map Ou.v).sum ∧ V = wr) (fun a i _ => no - (intOf i).toNat)
    case atStart => exact ⟨0, Nat.zero_le _, rfl, by simp, by first | rfl | trivial⟩
    case round =>
      obtain ⟨q, hq, rfl, rfl, rfl⟩ := hrel
      by_cases hlt : q < no
      · have hqi : (q : Int) < (no : Int) := by omega
        obtain ⟨b, off, hoa, hcell⟩ := oat_val (HTX.out _ (HV3.out _ (Below.refl _ _))).1.2 hlt
        have hst := sum_step HQ.out.1 (show q < os.length by rw [HNO.out]; exact hlt)
        have hqb : (q : Int) + 1 ≤ 5 := by omega
        obtain ⟨s, hs⟩ : ∃ s, s = ((os.take q).map Ou.v).sum := ⟨_, rfl⟩
        obtain ⟨z, hz⟩ : ∃ z, z = (os.getD q O0).v := ⟨_, rfl⟩
        rw [← hz] at hcell
        rw [← hs, ← hz] at hst
        rw [← hs]
        have hw := hst.2
        have HST2 : Hid (((os.take (q + 1)).map Ou.v).sum = s + z) := hst.1
        subst hoa
        clear hs hz hst
        go_wp2
        go_roundw
        case rel => exact ⟨q + 1, by omega, by go_num, by rw [HST2.out], by first | rfl | trivial⟩
        case measure => simp [intOf]; omega
      · obtain rfl : no = q := by omega
        have hqi : ¬ (no : Int) < (no : Int) := by omega
        have hsum : ((os.take no).map Ou.v).sum = sm := by rw [HSM.out, ← HNO.out, List.take_length]
        rw [hsum]
        clear hsum
        have e0 : (sm == sm) = true := by simp
        have hf1 := fieldP1 0 k f
        have HPT : Hid (∀ W, Below V.heap.size V W → Calls Tryz.prog 6 #[.string (str tt)] W fun e w' => ∃ g0 c0 g1 c1, e = .returned (.agg #[.int .i64 0, .int .i64 k, .int .i64 f, .slice (some ⟨g0, 0, none⟩) nr c0, .slice (some ⟨g1, 0, none⟩) no c1]) ∧ Hid (TxAt w' (some ⟨g0, 0, none⟩) nr (some ⟨g1, 0, none⟩) no rs os ∧ nr ≤ c0 ∧ c0 ≤ maxLen) ∧ Below W.heap.size W w') := fun W hW => (iParseTx_any tt mx W (by have := HQ.out.2.2.2.1; omega) (HMX.out W (HTX.out W (HV3.out W hW)).2).1 (HMX.out W (HTX.out W (HV3.out W hW)).2).2.1 (HMX.out W (HTX.out W (HV3.out W hW)).2).2.2.1).mono fun e w' ⟨hb, hc⟩ => by
          rcases hc with ⟨x, g0, c0, g1, c1, lo, mid, hi, kv, hx, he, hT, _, _⟩ | ⟨hx, _⟩
          · rw [HQ.out.2.2.1] at hx
            cases hx
            refine ⟨g0, c0, g1, c1, ?_, ⟨⟨gat_ref (HNR.out ▸ hT.r) HNR.out, ?_⟩, ?_, ?_⟩, hb⟩
            · rw [he]; simp only [HNR.out, HNO.out]
            · have := hT.o.at rfl fun j hj => HKL.out j (by have := HNO.out; simp at hj; omega)
              simpa [HNO.out] using this
            · have := (row_cap2 hT.r).1; simpa [HNR.out] using this
            · exact (row_cap2 hT.r).2
          · rw [HQ.out.2.2.1] at hx; cases hx
        have HFO : Hid ((Lit.int .i64 k).wf = true ∧ (Lit.int .i64 f).wf = true ∧ FineR rs ∧ FineO os) := fine_ok HQ.out.1
        have HSA : Hid (∀ (W : World) (a b : Option Addr) (c d : Nat), Below V.heap.size V W → TxAt W a nr b no rs os → nr ≤ c → c ≤ maxLen → Calls Tryz.prog 14 #[.agg #[.int .i64 k, .int .i64 f, .slice a nr c, .slice b no d], .agg #[.int .i64 k, .int .i64 f, .slice ia nr ic, .slice oa no oc]] W fun e w' => e = .returned (.bool true) ∧ Below W.heap.size W w') := fun W a b c d hW h1 h2 h3 => by
          have := iSameTxs nr c no d nr ic no oc a b ia oa k f k f rs rs os os W (by omega) (by omega) h2 h3 HKL.out h1 (by omega) (by omega) HCAP.out.1 HCAP.out.2 HKL.out (HTX.out W (HV3.out W hW)).1 HFO.out HFO.out
          rw [sameT_self] at this
          exact this
        have HCL : Hid (∀ W, Below V.heap.size V W → Calls Tryz.prog 15 #[.agg #[.int .i64 k, .int .i64 f, .slice ia nr ic, .slice oa no oc], .agg #[.int .i64 k, .int .i64 f, .slice ia nr ic, .slice oa no oc]] W fun e w' => e = .returned (.bool true) ∧ Below W.heap.size W w') := fun W hW => by
          have := iClashTx nr ic no oc nr ic no oc ia oa ia oa k f k f rs rs os os W (by omega) (by omega) HCAP.out.1 HCAP.out.2 HKL.out (HTX.out W (HV3.out W hW)).1 (by omega) (by omega) HCAP.out.1 HCAP.out.2 HKL.out (HTX.out W (HV3.out W hW)).1 HFO.out HFO.out
          rw [clashR_self HQ.out.2.2.2.2 HQ.out.2.1] at this
          exact this
        have HFV : Hid (∀ W, Below V.heap.size V W → Calls Tryz.prog 11 #[.agg #[.int .i64 k, .int .i64 f, .slice ia nr ic, .slice oa no oc]] W fun e w' => e = .returned (.int .i64 0) ∧ Below W.heap.size W w') := fun W hW => HIF.out W (HV3.out W hW)
        have HEND : Hid (∀ W, Below V.heap.size V W → Below w.heap.size w W) := fun W hW => (HTX.out W (HV3.out W hW)).2
        clear HIT HIF HTX HMX HB4 HB5 HX4 HX5 HT4
        go_wp2
        go_region_held3 (fun w' => (w'.cell? ⟨T, 0, none⟩ = some (.int .i64 k) ∧ w'.cell? ⟨T, 1, none⟩ = some (.int .i64 f) ∧ w'.cell? ⟨T, 2, none⟩ = some (.slice ia nr ic) ∧ w'.cell? ⟨T, 3, none⟩ = some (.slice oa no oc)) ∧ w'.cell? ⟨X, 1, none⟩ = some (.string (str tt)) ∧ w'.cell? ⟨S, 0, none⟩ = some (.int .i64 0) ∧ w'.cell? ⟨S, 1, none⟩ = some (.int .i64 sm)) (first | (with_reducible exact ⟨⟨t0, t1, t2, t3⟩, x1, s0, s1⟩) | (with_reducible exact HS6.out) | (with_reducible exact HS7.out) | (with_reducible exact HS8.out) | (with_reducible exact HS9.out) | go_keep)
          (first
            | (go_at_call 6; (with_reducible refine (HPT.out _ (Below.refl _ _).drew).mono ?_); clear HPT; rintro e v6 ⟨g0, c0, g1, c1, rfl, HT6, hb6⟩; have HB6 : Hid (Below V.heap.size V v6) := (Below.refl _ _).drew.trans hb6; have HS6 := (show Hid _ from HC5.out v6 HB6.out))
            | (go_at_call 14; (with_reducible refine (HSA.out _ _ _ _ _ HB6.out HT6.out.1 HT6.out.2.1 HT6.out.2.2).mono ?_); clear HSA; rintro e v7 ⟨rfl, hb7⟩; have HB7 : Hid (Below V.heap.size V v7) := HB6.out.trans (hb7.mono HB6.out.size); have HS7 := (show Hid _ from HC5.out v7 HB7.out))
            | (go_at_call 15; (with_reducible refine (HCL.out _ HB7.out).mono ?_); clear HCL; rintro e v8 ⟨rfl, hb8⟩; have HB8 : Hid (Below V.heap.size V v8) := HB7.out.trans (hb8.mono HB7.out.size); have HS8 := (show Hid _ from HC5.out v8 HB8.out))
            | (go_at_call 11; (with_reducible refine (HFV.out _ HB8.out).mono ?_); clear HFV; rintro e v9 ⟨rfl, hb9⟩; have HB9 : Hid (Below V.heap.size V v9) := HB8.out.trans (hb9.mono HB8.out.size); have HS9 := (show Hid _ from HC5.out v9 HB9.out)))
        all_goals (try go_wp2)
        all_goals go_ret
        all_goals exact ⟨by simp, HEND.out _ HB9.out⟩

end Go.Proofs.YtciefdphjkjikaaGreatDoor
