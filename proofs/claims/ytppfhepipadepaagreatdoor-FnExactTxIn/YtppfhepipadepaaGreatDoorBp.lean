/- TxIn: the specification's and the program's. -/
import Derived.Test.YtppfhepipadepaaGreatDoorHf
import Derived.Test.YtppfhepipadepaaGreatDoorBo
namespace Go.Proofs.YtppfhepipadepaaGreatDoor
open Go.RowKit Go.Shelf Go.Maps Go.WideMaps

def tin2R (c : Int) (t : List UInt8) : Int × TxV := if c ≠ 0 then (c, ⟨0, 0, [], []⟩) else (pcd t, pTx t)
def tinR (ss : List ByteArray) (gs : List (Int × Int)) (id : Int) : Int × TxV := tin2R (textR ss gs id).1 (textR ss gs id).2.data.toList
theorem tin2R_len (c : Int) (t : List UInt8) : (tin2R c t).2.rs.length ≤ 4 ∧ (tin2R c t).2.os.length ≤ 4 ∧ ∀ o ∈ (tin2R c t).2.os, o.l.length ≤ 3 := by
  unfold tin2R
  by_cases h : c ≠ 0
  · rw [if_pos h]; exact ⟨by simp, by simp, fun o ho => by simp at ho⟩
  · rw [if_neg h]; exact pTx_len t
theorem tin2R_bad {c : Int} {t : List UInt8} (h : ¬ c = 0) : tin2R c t = (c, ⟨0, 0, [], []⟩) := by unfold tin2R; rw [if_pos h]
theorem tin2R_ok {t : List UInt8} : tin2R 0 t = (pcd t, pTx t) := by unfold tin2R; rw [if_neg (by simp)]
/-- A transaction's lists of one's own, in whatever memory from B on. -/
def TNew (w : World) (B : Nat) (a0 : Option Addr) (n c0 : Nat) (a1 : Option Addr) (m c1 : Nat) (rs : List (Int × Int)) (os : List Ou) : Prop := ∃ mid kv, TGen w B mid w.heap.size (.slice a0 n c0) n (.slice a1 m c1) m (gcells rs) (fun j => os.getD j O0) kv
theorem TNew.nil (w : World) {B : Nat} (h : B ≤ w.heap.size) : TNew w B none 0 0 none 0 0 [] [] :=
  ⟨B, fun _ => .slice none 0 0, World.ownsRow_nil _ _ _ _, fun b q => (by cases q), OOwn.none, Nat.le_refl _, h⟩
theorem TNew.le {w : World} {B B' n c0 m c1 : Nat} {a0 a1 : Option Addr} {rs : List (Int × Int)} {os : List Ou} (h : TNew w B a0 n c0 a1 m c1 rs os) (hB : B' ≤ B) : TNew w B' a0 n c0 a1 m c1 rs os := by
  obtain ⟨mid, kv, hT⟩ := h
  exact ⟨mid, kv, Joins.ownsRow_le hT.r hB, hT.rt, hT.o, Nat.le_trans hB hT.lm, hT.mh⟩
theorem TNew.below {w w' : World} {B n c0 m c1 : Nat} {a0 a1 : Option Addr} {rs : List (Int × Int)} {os : List Ou} (h : TNew w B a0 n c0 a1 m c1 rs os) (hb : Below w.heap.size w w') : TNew w' B a0 n c0 a1 m c1 rs os := by
  obtain ⟨mid, kv, hT⟩ := h
  have h2 := hT.below hb
  exact ⟨mid, kv, h2.r, h2.rt, h2.o.up hb.size, h2.lm, Nat.le_trans h2.mh hb.size⟩
theorem TNew.set5 {w : World} {b B n c0 m c1 : Nat} {a0 a1 : Option Addr} {rs : List (Int × Int)} {os : List Ou} (h : TNew w B a0 n c0 a1 m c1 rs os) (hb : b < B) (v0 v1 v2 v3 v4 : Value) : TNew (((((w.setCell ⟨b, 0, none⟩ v0).setCell ⟨b, 1, none⟩ v1).setCell ⟨b, 2, none⟩ v2).setCell ⟨b, 3, none⟩ v3).setCell ⟨b, 4, none⟩ v4) B a0 n c0 a1 m c1 rs os := by
  obtain ⟨mid, kv, hT⟩ := h
  have hc : Chg w (((((w.setCell ⟨b, 0, none⟩ v0).setCell ⟨b, 1, none⟩ v1).setCell ⟨b, 2, none⟩ v2).setCell ⟨b, 3, none⟩ v3).setCell ⟨b, 4, none⟩ v4) b (b + 1) := (((((Chg.refl w b (b + 1)).setCell ⟨Nat.le_refl _, by omega⟩ v0).setCell ⟨Nat.le_refl _, by omega⟩ v1).setCell ⟨Nat.le_refl _, by omega⟩ v2).setCell ⟨Nat.le_refl _, by omega⟩ v3).setCell ⟨Nat.le_refl _, by omega⟩ v4
  have h2 := hT.chg hc (.inr hb)
  refine ⟨mid, kv, h2.r, h2.rt, ?_, h2.lm, ?_⟩
  · simpa using h2.o
  · simpa using h2.mh
theorem TNew.at {w : World} {B n c0 m c1 : Nat} {a0 a1 : Option Addr} {rs : List (Int × Int)} {os : List Ou} (h : TNew w B a0 n c0 a1 m c1 rs os) (hn : rs.length = n) (hm : os.length = m) (hl : ∀ o ∈ os, o.l.length ≤ 3) : TxAt w a0 n a1 m rs os := by
  obtain ⟨mid, kv, hT⟩ := h
  exact hT.at hn hm hl
/-- What an answer with a transaction is owed. -/
def OutTn (w w' : World) (e : Ending) (r : Int × TxV) : Prop := Below w.heap.size w w' ∧ ∃ (a0 : Option Addr) (c0 : Nat) (a1 : Option Addr) (c1 : Nat), e = .returned (.agg #[.int .i64 r.1, .int .i64 r.2.k, .int .i64 r.2.f, .slice a0 r.2.rs.length c0, .slice a1 r.2.os.length c1]) ∧ TNew w' w.heap.size a0 r.2.rs.length c0 a1 r.2.os.length c1 r.2.rs r.2.os
theorem OutPt.tn {w w' : World} {e : Ending} {t : List UInt8} (h : OutPt w w' e t) : OutTn w w' e (pcd t, pTx t) := by
  obtain ⟨a0, c0, a1, c1, h1, h2, h3⟩ := h.res
  exact ⟨h3.out, a0, c0, a1, c1, h1, h2.out⟩

set_option maxRecDepth 20000 in
set_option maxHeartbeats 4000000 in
theorem sTxIn_any (n m tc gc : Nat) (ta ga : Option Addr) (ss : List ByteArray) (gs : List (Int × Int)) (id : Int) (w : World) (htc : n ≤ tc) (hgc : m ≤ gc) (htm : tc ≤ maxLen) (hgm : gc ≤ maxLen) (hf : Fine ss gs) (hz : ∀ j, j < n → (ss.getD j E0).size ≤ 1048576) (h : LedAt w ta n ga m ss gs) :
    Calls Tryz.prog 5 #[.agg #[.slice ta n tc, .slice ga m gc], .int .i64 id] w fun e w' => OutTn w w' e (tinR ss gs id) := by
  unfold tinR
  obtain ⟨rc, hrc⟩ : ∃ x, x = (textR ss gs id).1 := ⟨_, rfl⟩
  obtain ⟨t, ht⟩ : ∃ x, x = (textR ss gs id).2.data.toList := ⟨_, rfl⟩
  have hst : (textR ss gs id).2 = str t := by rw [ht]; rfl
  have htl : t.length ≤ 1048576 := by rw [ht]; exact textR_len id h.s.1 hz
  rw [← hrc, ← ht]
  have hX := sTextOf_any n m tc gc ta ga ss gs id ((w.alloc (.cells #[.slice ta n tc, .slice ga m gc] 36)).alloc (.cells #[.int .i64 0, .int .i64 0, .int .i64 0, .slice none 0 0, .slice none 0 0] 32)) htc hgc htm hgm hf (h.below (below_box2 _ _) (Nat.le_refl _))
  rw [← hrc, hst] at hX
  clear hrc ht hst h hf hz htc hgc htm hgm
  have hbx : Below w.heap.size w ((w.alloc (.cells #[.slice ta n tc, .slice ga m gc] 36)).alloc (.cells #[.int .i64 0, .int .i64 0, .int .i64 0, .slice none 0 0, .slice none 0 0] 32)) := below_box2 _ _
  have R1 : Hid (((w.alloc (.cells #[.slice ta n tc, .slice ga m gc] 36)).alloc (.cells #[.int .i64 0, .int .i64 0, .int .i64 0, .slice none 0 0, .slice none 0 0] 32)).heap[w.heap.size + 1]? = some (.cells #[.int .i64 0, .int .i64 0, .int .i64 0, .slice none 0 0, .slice none 0 0] 32 (0, 0))) := heap_alloc_at _ _ _ (by simp)
  have HBX : Hid (Below w.heap.size w ((w.alloc (.cells #[.slice ta n tc, .slice ga m gc] 36)).alloc (.cells #[.int .i64 0, .int .i64 0, .int .i64 0, .slice none 0 0, .slice none 0 0] 32))) := hbx
  clear hbx
  by_cases h0 : rc = 0
  · subst h0
    rw [tin2R_ok]
    obtain ⟨⟨cd, k, f, rs, os⟩, hr⟩ : ∃ q : Int × TxV, q = (pcd t, pTx t) := ⟨_, rfl⟩
    have HPB : Hid (∀ v, Below w.heap.size w v → Calls Tryz.prog 16 #[.string (str t)] v fun e w' => ∃ a0 c0 a1 c1, e = .returned (.agg #[.int .i64 cd, .int .i64 k, .int .i64 f, .slice a0 rs.length c0, .slice a1 os.length c1]) ∧ Hid (TNew w' v.heap.size a0 rs.length c0 a1 os.length c1 rs os) ∧ Hid (Below v.heap.size v w')) := fun v hv => (sParseTx_any t v htl).mono fun e w' h => by have h2 := h.tn; rw [← hr] at h2; obtain ⟨hb, a0, c0, a1, c1, e1, hO⟩ := h2; exact ⟨a0, c0, a1, c1, e1, hO, hb⟩
    rw [← hr]
    clear hr
    go_enter Tryz.func5, Tryz.ntmps5
    go_wp2_with (first
      | (go_at_call 15; (with_reducible refine hX.mono ?_); clear hX; rintro e w2 ⟨rfl, hb2⟩; have hbT := below_box (w := w2) (.cells #[.int .i64 0, .string (str t)] 46); have HB3 : Hid (Below w.heap.size w (w2.alloc (.cells #[.int .i64 0, .string (str t)] 46))) := (HBX.out.trans (hb2.mono HBX.out.size)).trans (hbT.mono (Nat.le_trans HBX.out.size hb2.size)); have HR3 : Hid ((w2.alloc (.cells #[.int .i64 0, .string (str t)] 46)).heap[w.heap.size + 1]? = some (.cells #[.int .i64 0, .int .i64 0, .int .i64 0, .slice none 0 0, .slice none 0 0] 32 (0, 0))) := (keepb (keepb R1.out hb2).out hbT).out; have hP := HPB.out (w2.alloc (.cells #[.int .i64 0, .string (str t)] 46)) HB3.out; have HLT : Hid (w.heap.size + 1 < (w2.alloc (.cells #[.int .i64 0, .string (str t)] 46)).heap.size) := lt_of_block HR3.out; clear hb2 hbT)
      | (go_at_call 16; (with_reducible refine hP.mono ?_); clear hP; rintro e w3 ⟨a0, c0, a1, c1, rfl, HO, HB3b⟩; have HB4 : Hid (Below w.heap.size w w3) := HB3.out.trans (HB3b.out.mono HB3.out.size); have HR4 := keepb HR3.out HB3b.out; obtain ⟨r0, r1, r2, r3, r4⟩ := cells5V HR4.out; have f0 := Joins.unfrozen_of_block HR4.out 0; have f1 := Joins.unfrozen_of_block HR4.out 1; have f2 := Joins.unfrozen_of_block HR4.out 2; have f3 := Joins.unfrozen_of_block HR4.out 3; have f4 := Joins.unfrozen_of_block HR4.out 4))
    obtain ⟨j0, j1, j2, j3, j4⟩ := cells5V (set5V5 HR4.out (.int .i64 cd) (.int .i64 k) (.int .i64 f) (.slice a0 rs.length c0) (.slice a1 os.length c1))
    refine bodyPost_ret (v := .agg #[.int .i64 cd, .int .i64 k, .int .i64 f, .slice a0 rs.length c0, .slice a1 os.length c1]) (by simp [results, Tryz.results5, go_sem, j0, j1, j2, j3, j4]) rfl ?_
    refine ⟨below_set5V HB4.out (Nat.le_succ _) _ _ _ _ _, a0, c0, a1, c1, rfl, ?_⟩
    exact (HO.out.set5 HLT.out _ _ _ _ _).le HB3.out.size
  · rw [tin2R_bad h0]
    go_enter Tryz.func5, Tryz.ntmps5
    go_wp2_with (first
      | (go_at_call 15; (with_reducible refine hX.mono ?_); clear hX; rintro e w2 ⟨rfl, hb2⟩; have hbT := below_box (w := w2) (.cells #[.int .i64 rc, .string (str t)] 46); have HB4 : Hid (Below w.heap.size w (w2.alloc (.cells #[.int .i64 rc, .string (str t)] 46))) := (HBX.out.trans (hb2.mono HBX.out.size)).trans (hbT.mono (Nat.le_trans HBX.out.size hb2.size)); have HR4 : Hid ((w2.alloc (.cells #[.int .i64 rc, .string (str t)] 46)).heap[w.heap.size + 1]? = some (.cells #[.int .i64 0, .int .i64 0, .int .i64 0, .slice none 0 0, .slice none 0 0] 32 (0, 0))) := (keepb (keepb R1.out hb2).out hbT).out; obtain ⟨r0, r1, r2, r3, r4⟩ := cells5V HR4.out; have f0 := Joins.unfrozen_of_block HR4.out 0; have f1 := Joins.unfrozen_of_block HR4.out 1; have f2 := Joins.unfrozen_of_block HR4.out 2; have f3 := Joins.unfrozen_of_block HR4.out 3; have f4 := Joins.unfrozen_of_block HR4.out 4; clear hb2 hbT))
    obtain ⟨j0, j1, j2, j3, j4⟩ := cells5V (set5V5 HR4.out (.int .i64 rc) (.int .i64 0) (.int .i64 0) (.slice none 0 0) (.slice none 0 0))
    refine bodyPost_ret (v := .agg #[.int .i64 rc, .int .i64 0, .int .i64 0, .slice none 0 0, .slice none 0 0]) (by simp [results, Tryz.results5, go_sem, j0, j1, j2, j3, j4]) rfl ?_
    exact ⟨below_set5V HB4.out (Nat.le_succ _) _ _ _ _ _, none, 0, none, 0, rfl, TNew.nil _ (below_set5V HB4.out (Nat.le_succ _) _ _ _ _ _).size⟩

set_option maxRecDepth 20000 in
set_option maxHeartbeats 4000000 in
theorem bTxIn_any (p q n ic : Nat) (ia : Option Addr) (ss : List ByteArray) (id : Int) (w : World) (hn60 : n ≤ 60) (hn : ss.length = n) (hI : w.cell? ⟨p, 0, none⟩ = some (.slice ia n ic)) (hS : SAt w ia n ss) (hp : p < w.heap.size) (hz : ∀ j, j < n → (ss.getD j E0).size ≤ 1048576) (hE : Erv w) (hEv : Ev w) :
    Calls Tryz.prog 20 #[.agg #[.pointer (some ⟨p, 0, none⟩), .pointer (some ⟨q, 0, none⟩)], .int .i64 id] w fun e w' => OutTn w w' e (tin2R (tx2R ss id).1 (tx2R ss id).2.data.toList) := by
  obtain ⟨rc, hrc⟩ : ∃ x, x = (tx2R ss id).1 := ⟨_, rfl⟩
  obtain ⟨t, ht⟩ : ∃ x, x = (tx2R ss id).2.data.toList := ⟨_, rfl⟩
  have hst : (tx2R ss id).2 = str t := by rw [ht]; rfl
  have htl : t.length ≤ 1048576 := by rw [ht]; exact tx2R_len id hn hz
  rw [← hrc, ← ht]
  have hbB : Below w.heap.size w ((w.alloc (.cells #[.pointer (some ⟨p, 0, none⟩), .pointer (some ⟨q, 0, none⟩)] 54)).alloc (.cells #[.int .i64 0, .int .i64 0, .int .i64 0, .slice none 0 0, .slice none 0 0] 32)) := below_box2 _ _
  have hX := bTextOf_any p q n ic ia ss id ((w.alloc (.cells #[.pointer (some ⟨p, 0, none⟩), .pointer (some ⟨q, 0, none⟩)] 54)).alloc (.cells #[.int .i64 0, .int .i64 0, .int .i64 0, .slice none 0 0, .slice none 0 0] 32)) hn60 hn ((hbB.cell (p := ⟨p, 0, none⟩) hp).trans hI) (hS.below hbB (Nat.le_refl _)) (Nat.lt_of_lt_of_le hp hbB.size)
  rw [← hrc, hst] at hX
  have HER : Hid (Erv w) := hE
  have HEV : Hid (Ev w) := hEv
  clear hrc ht hst hI hS hp hz hE hEv hbB hn hn60
  have hbx : Below w.heap.size w ((w.alloc (.cells #[.pointer (some ⟨p, 0, none⟩), .pointer (some ⟨q, 0, none⟩)] 54)).alloc (.cells #[.int .i64 0, .int .i64 0, .int .i64 0, .slice none 0 0, .slice none 0 0] 32)) := below_box2 _ _
  have R1 : Hid (((w.alloc (.cells #[.pointer (some ⟨p, 0, none⟩), .pointer (some ⟨q, 0, none⟩)] 54)).alloc (.cells #[.int .i64 0, .int .i64 0, .int .i64 0, .slice none 0 0, .slice none 0 0] 32)).heap[w.heap.size + 1]? = some (.cells #[.int .i64 0, .int .i64 0, .int .i64 0, .slice none 0 0, .slice none 0 0] 32 (0, 0))) := heap_alloc_at _ _ _ (by simp)
  have HBX : Hid (Below w.heap.size w ((w.alloc (.cells #[.pointer (some ⟨p, 0, none⟩), .pointer (some ⟨q, 0, none⟩)] 54)).alloc (.cells #[.int .i64 0, .int .i64 0, .int .i64 0, .slice none 0 0, .slice none 0 0] 32))) := hbx
  clear hbx
  by_cases h0 : rc = 0
  · subst h0
    rw [tin2R_ok]
    obtain ⟨⟨cd, k, f, rs, os⟩, hr⟩ : ∃ q : Int × TxV, q = (pcd t, pTx t) := ⟨_, rfl⟩
    have HPB : Hid (∀ v, Below w.heap.size w v → Calls Tryz.prog 36 #[.string (str t)] v fun e w' => ∃ a0 c0 a1 c1, e = .returned (.agg #[.int .i64 cd, .int .i64 k, .int .i64 f, .slice a0 rs.length c0, .slice a1 os.length c1]) ∧ Hid (TNew w' v.heap.size a0 rs.length c0 a1 os.length c1 rs os) ∧ Hid (Below v.heap.size v w')) := fun v hv => (by obtain ⟨mx, hmx⟩ := (HEV.out.below hv (Nat.le_refl _)).mx; exact (iParseTx_any t mx v htl hmx (HER.out.below hv) (HEV.out.below hv (Nat.le_refl _))).mono fun e w' h => by have h2 := h.tn; rw [← hr] at h2; obtain ⟨hb, a0, c0, a1, c1, e1, hO⟩ := h2; exact ⟨a0, c0, a1, c1, e1, hO, hb⟩)
    rw [← hr]
    clear hr
    go_enter Tryz.func20, Tryz.ntmps20
    go_wp2_with (first
      | (go_at_call 35; (with_reducible refine hX.mono ?_); clear hX; rintro e w2 ⟨rfl, hb2⟩; have hbT := below_box (w := w2) (.cells #[.int .i64 0, .string (str t)] 46); have HB3 : Hid (Below w.heap.size w (w2.alloc (.cells #[.int .i64 0, .string (str t)] 46))) := (HBX.out.trans (hb2.mono HBX.out.size)).trans (hbT.mono (Nat.le_trans HBX.out.size hb2.size)); have HR3 : Hid ((w2.alloc (.cells #[.int .i64 0, .string (str t)] 46)).heap[w.heap.size + 1]? = some (.cells #[.int .i64 0, .int .i64 0, .int .i64 0, .slice none 0 0, .slice none 0 0] 32 (0, 0))) := (keepb (keepb R1.out hb2).out hbT).out; have hP := HPB.out (w2.alloc (.cells #[.int .i64 0, .string (str t)] 46)) HB3.out; have HLT : Hid (w.heap.size + 1 < (w2.alloc (.cells #[.int .i64 0, .string (str t)] 46)).heap.size) := lt_of_block HR3.out; clear hb2 hbT)
      | (go_at_call 36; (with_reducible refine hP.mono ?_); clear hP; rintro e w3 ⟨a0, c0, a1, c1, rfl, HO, HB3b⟩; have HB4 : Hid (Below w.heap.size w w3) := HB3.out.trans (HB3b.out.mono HB3.out.size); have HR4 := keepb HR3.out HB3b.out; obtain ⟨r0, r1, r2, r3, r4⟩ := cells5V HR4.out; have f0 := Joins.unfrozen_of_block HR4.out 0; have f1 := Joins.unfrozen_of_block HR4.out 1; have f2 := Joins.unfrozen_of_block HR4.out 2; have f3 := Joins.unfrozen_of_block HR4.out 3; have f4 := Joins.unfrozen_of_block HR4.out 4))
    obtain ⟨j0, j1, j2, j3, j4⟩ := cells5V (set5V5 HR4.out (.int .i64 cd) (.int .i64 k) (.int .i64 f) (.slice a0 rs.length c0) (.slice a1 os.length c1))
    refine bodyPost_ret (v := .agg #[.int .i64 cd, .int .i64 k, .int .i64 f, .slice a0 rs.length c0, .slice a1 os.length c1]) (by simp [results, Tryz.results20, go_sem, j0, j1, j2, j3, j4]) rfl ?_
    refine ⟨below_set5V HB4.out (Nat.le_succ _) _ _ _ _ _, a0, c0, a1, c1, rfl, ?_⟩
    exact (HO.out.set5 HLT.out _ _ _ _ _).le HB3.out.size
  · rw [tin2R_bad h0]
    go_enter Tryz.func20, Tryz.ntmps20
    go_wp2_with (first
      | (go_at_call 35; (with_reducible refine hX.mono ?_); clear hX; rintro e w2 ⟨rfl, hb2⟩; have hbT := below_box (w := w2) (.cells #[.int .i64 rc, .string (str t)] 46); have HB4 : Hid (Below w.heap.size w (w2.alloc (.cells #[.int .i64 rc, .string (str t)] 46))) := (HBX.out.trans (hb2.mono HBX.out.size)).trans (hbT.mono (Nat.le_trans HBX.out.size hb2.size)); have HR4 : Hid ((w2.alloc (.cells #[.int .i64 rc, .string (str t)] 46)).heap[w.heap.size + 1]? = some (.cells #[.int .i64 0, .int .i64 0, .int .i64 0, .slice none 0 0, .slice none 0 0] 32 (0, 0))) := (keepb (keepb R1.out hb2).out hbT).out; obtain ⟨r0, r1, r2, r3, r4⟩ := cells5V HR4.out; have f0 := Joins.unfrozen_of_block HR4.out 0; have f1 := Joins.unfrozen_of_block HR4.out 1; have f2 := Joins.unfrozen_of_block HR4.out 2; have f3 := Joins.unfrozen_of_block HR4.out 3; have f4 := Joins.unfrozen_of_block HR4.out 4; clear hb2 hbT))
    obtain ⟨j0, j1, j2, j3, j4⟩ := cells5V (set5V5 HR4.out (.int .i64 rc) (.int .i64 0) (.int .i64 0) (.slice none 0 0) (.slice none 0 0))
    refine bodyPost_ret (v := .agg #[.int .i64 rc, .int .i64 0, .int .i64 0, .slice none 0 0, .slice none 0 0]) (by simp [results, Tryz.results20, go_sem, j0, j1, j2, j3, j4]) rfl ?_
    exact ⟨below_set5V HB4.out (Nat.le_succ _) _ _ _ _ _, none, 0, none, 0, rfl, TNew.nil _ (below_set5V HB4.out (Nat.le_succ _) _ _ _ _ _).size⟩

set_option maxRecDepth 20000 in
set_option maxHeartbeats 4000000 in
theorem iTxIn_any (n m tc gc : Nat) (ta ga : Option Addr) (ss : List ByteArray) (gs : List (Int × Int)) (id : Int) (w : World) (hf : Fine ss gs) (hz : ∀ j, j < n → (ss.getD j E0).size ≤ 1048576) (hE : Erv w) (hEv : Ev w) (h : LedAt w ta n ga m ss gs) :
    Calls Tryz.prog 7 #[.agg #[.slice ta n tc, .slice ga m gc], .int .i64 id] w fun e w' => OutTn w w' e (tinR ss gs id) := by
  have hbx : Below w.heap.size w ((w.alloc (.cells #[.slice ta n tc, .slice ga m gc] 36)).alloc (.cells #[.int .i64 0, .int .i64 0, .int .i64 0, .slice none 0 0, .slice none 0 0] 32)) := below_box2 _ _
  have R1 : Hid (((w.alloc (.cells #[.slice ta n tc, .slice ga m gc] 36)).alloc (.cells #[.int .i64 0, .int .i64 0, .int .i64 0, .slice none 0 0, .slice none 0 0] 32)).heap[w.heap.size + 1]? = some (.cells #[.int .i64 0, .int .i64 0, .int .i64 0, .slice none 0 0, .slice none 0 0] 32 (0, 0))) := heap_alloc_at _ _ _ (by simp)
  have HBX : Hid (Below w.heap.size w ((w.alloc (.cells #[.slice ta n tc, .slice ga m gc] 36)).alloc (.cells #[.int .i64 0, .int .i64 0, .int .i64 0, .slice none 0 0, .slice none 0 0] 32))) := hbx
  have HN : Hid (ss.length = n) := h.s.1
  have HER : Hid (Erv w) := hE
  have HEV : Hid (Ev w) := hEv
  have HZZ : Hid (∀ j, j < n → (ss.getD j E0).size ≤ 1048576) := hz
  obtain ⟨c, hc⟩ : ∃ c, c = flt ss gs := ⟨_, rfl⟩
  by_cases hcz : c = 0
  · subst hcz
    have hrd := readG_ok (tc := tc) (gc := gc) hf (h.below hbx (Nat.le_refl _)) hc
    have hn60 : n ≤ 60 := by have := flt_le hc; rw [HN.out] at this; omega
    unfold tinR
    rw [textR_two hc]
    clear h hf hc hbx hz hE hEv
    obtain ⟨⟨cd, k, f, rs, os⟩, hr⟩ : ∃ q, q = tin2R (tx2R ss id).1 (tx2R ss id).2.data.toList := ⟨_, rfl⟩
    have HRR : Hid (tin2R (tx2R ss id).1 (tx2R ss id).2.data.toList = (cd, ⟨k, f, rs, os⟩)) := hr.symm
    rw [← hr]
    clear hr
    go_enter Tryz.func7, Tryz.ntmps7
    go_wp2_with (first
      | (go_at_call 19; (with_reducible refine hrd.mono ?_); clear hrd; rintro e w2 ⟨p, q, rfl, hb2, HT⟩; have hbT := below_box (w := w2) (.cells #[.pointer (some ⟨p, 0, none⟩), .pointer (some ⟨q, 0, none⟩)] 54); have HB3 : Hid (Below w.heap.size w (w2.alloc (.cells #[.pointer (some ⟨p, 0, none⟩), .pointer (some ⟨q, 0, none⟩)] 54))) := (HBX.out.trans (hb2.mono HBX.out.size)).trans (hbT.mono (Nat.le_trans HBX.out.size hb2.size)); have HR3 : Hid ((w2.alloc (.cells #[.pointer (some ⟨p, 0, none⟩), .pointer (some ⟨q, 0, none⟩)] 54)).heap[w.heap.size + 1]? = some (.cells #[.int .i64 0, .int .i64 0, .int .i64 0, .slice none 0 0, .slice none 0 0] 32 (0, 0))) := (keepb (keepb R1.out hb2).out hbT).out; obtain ⟨ia, ic, hI, HSA⟩ := tw_items (o := .cells #[.pointer (some ⟨p, 0, none⟩), .pointer (some ⟨q, 0, none⟩)] 54) HN.out HT.out; have hP0 := bTxIn_any p q n ic ia ss id (w2.alloc (.cells #[.pointer (some ⟨p, 0, none⟩), .pointer (some ⟨q, 0, none⟩)] 54)) hn60 HN.out hI HSA.out (World.block_lt_of_cell? _ _ hI) HZZ.out (HER.out.below HB3.out) (HEV.out.below HB3.out (Nat.le_refl _)); have hP : Calls Tryz.prog 20 #[.agg #[.pointer (some ⟨p, 0, none⟩), .pointer (some ⟨q, 0, none⟩)], .int .i64 id] (w2.alloc (.cells #[.pointer (some ⟨p, 0, none⟩), .pointer (some ⟨q, 0, none⟩)] 54)) fun e w' => ∃ a0 c0 a1 c1, e = .returned (.agg #[.int .i64 cd, .int .i64 k, .int .i64 f, .slice a0 rs.length c0, .slice a1 os.length c1]) ∧ Hid (TNew w' (w2.alloc (.cells #[.pointer (some ⟨p, 0, none⟩), .pointer (some ⟨q, 0, none⟩)] 54)).heap.size a0 rs.length c0 a1 os.length c1 rs os) ∧ Hid (Below (w2.alloc (.cells #[.pointer (some ⟨p, 0, none⟩), .pointer (some ⟨q, 0, none⟩)] 54)).heap.size (w2.alloc (.cells #[.pointer (some ⟨p, 0, none⟩), .pointer (some ⟨q, 0, none⟩)] 54)) w') := hP0.mono (fun e w' h2 => by rw [HRR.out] at h2; obtain ⟨hb, a0, c0, a1, c1, e1, hO⟩ := h2; exact ⟨a0, c0, a1, c1, e1, hO, hb⟩); have HLT : Hid (w.heap.size + 1 < (w2.alloc (.cells #[.pointer (some ⟨p, 0, none⟩), .pointer (some ⟨q, 0, none⟩)] 54)).heap.size) := lt_of_block HR3.out; clear hb2 hbT hI hP0)
      | (go_at_call 20; (with_reducible refine hP.mono ?_); clear hP; rintro e w3 ⟨a0, c0, a1, c1, rfl, HO, HB3b⟩; have HB4 : Hid (Below w.heap.size w w3) := HB3.out.trans (HB3b.out.mono HB3.out.size); have HR4 := keepb HR3.out HB3b.out; obtain ⟨r0, r1, r2, r3, r4⟩ := cells5V HR4.out; have f0 := Joins.unfrozen_of_block HR4.out 0; have f1 := Joins.unfrozen_of_block HR4.out 1; have f2 := Joins.unfrozen_of_block HR4.out 2; have f3 := Joins.unfrozen_of_block HR4.out 3; have f4 := Joins.unfrozen_of_block HR4.out 4))
    obtain ⟨j0, j1, j2, j3, j4⟩ := cells5V (set5V5 HR4.out (.int .i64 cd) (.int .i64 k) (.int .i64 f) (.slice a0 rs.length c0) (.slice a1 os.length c1))
    refine bodyPost_ret (v := .agg #[.int .i64 cd, .int .i64 k, .int .i64 f, .slice a0 rs.length c0, .slice a1 os.length c1]) (by simp [results, Tryz.results7, go_sem, j0, j1, j2, j3, j4]) rfl ?_
    refine ⟨below_set5V HB4.out (Nat.le_succ _) _ _ _ _ _, a0, c0, a1, c1, rfl, ?_⟩
    exact (HO.out.set5 HLT.out _ _ _ _ _).le HB3.out.size
  · have hrd := readG_bad (tc := tc) (gc := gc) hf (h.below hbx (Nat.le_refl _)) hc hcz
    have hbr : tinR ss gs id = (c, ⟨0, 0, [], []⟩) := by unfold tinR; rw [textR_bad hc hcz]; exact tin2R_bad hcz
    rw [hbr]
    clear h hf hc hbx hz hE hEv hbr
    go_enter Tryz.func7, Tryz.ntmps7
    go_wp2_with (first
      | (go_at_call 19; (with_reducible refine hrd.mono ?_); clear hrd; rintro e w2 ⟨rfl, hb2⟩; have hbT := below_box (w := w2) (.cells #[.pointer none, .pointer none] 54); have HB4 : Hid (Below w.heap.size w (w2.alloc (.cells #[.pointer none, .pointer none] 54))) := (HBX.out.trans (hb2.mono HBX.out.size)).trans (hbT.mono (Nat.le_trans HBX.out.size hb2.size)); have HR4 : Hid ((w2.alloc (.cells #[.pointer none, .pointer none] 54)).heap[w.heap.size + 1]? = some (.cells #[.int .i64 0, .int .i64 0, .int .i64 0, .slice none 0 0, .slice none 0 0] 32 (0, 0))) := (keepb (keepb R1.out hb2).out hbT).out; obtain ⟨r0, r1, r2, r3, r4⟩ := cells5V HR4.out; have f0 := Joins.unfrozen_of_block HR4.out 0; have f1 := Joins.unfrozen_of_block HR4.out 1; have f2 := Joins.unfrozen_of_block HR4.out 2; have f3 := Joins.unfrozen_of_block HR4.out 3; have f4 := Joins.unfrozen_of_block HR4.out 4; clear hb2 hbT))
    obtain ⟨j0, j1, j2, j3, j4⟩ := cells5V (set5V5 HR4.out (.int .i64 c) (.int .i64 0) (.int .i64 0) (.slice none 0 0) (.slice none 0 0))
    refine bodyPost_ret (v := .agg #[.int .i64 c, .int .i64 0, .int .i64 0, .slice none 0 0, .slice none 0 0]) (by simp [results, Tryz.results7, go_sem, j0, j1, j2, j3, j4]) rfl ?_
    exact ⟨below_set5V HB4.out (Nat.le_succ _) _ _ _ _ _, none, 0, none, 0, rfl, TNew.nil _ (below_set5V HB4.out (Nat.le_succ _) _ _ _ _ _).size⟩

end Go.Proofs.YtppfhepipadepaaGreatDoor
