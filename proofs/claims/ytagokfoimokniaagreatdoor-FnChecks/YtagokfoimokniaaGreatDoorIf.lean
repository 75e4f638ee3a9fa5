/- What DrawCheckTx has drawn: a ledger, coins, a transaction. -/
import Derived.Test.YtagokfoimokniaaGreatDoorIe
import Derived.Test.YtagokfoimokniaaGreatDoorIb
import Derived.Test.YtagokfoimokniaaGreatDoorJn7
namespace Go.Proofs.YtagokfoimokniaaGreatDoor
open Go.RowKit Go.Shelf Go.Maps Go.WideMaps

/-- Coins in memory of their own that a store into the blocks LB and LB + 1 leaves alone. -/
def OwnC (w V : World) (LB : Nat) (z : Wr) : Prop := ∃ (kv : Nat → Value) (lo hi : Nat), COwn V lo hi (.slice z.va z.cs.length z.vc) z.cs.length (fun j => z.cs.getD j C0) kv ∧ w.heap.size + 3 ≤ lo ∧ hi ≤ V.heap.size ∧ (hi ≤ LB ∨ LB + 2 ≤ lo)
/-- Coins with the first twice, readable whatever happens to the first three blocks. -/
def Twi (w V : World) (z : Wr) : Prop := (∀ V' lo, Chg V V' lo (w.heap.size + 3) → CAt V' z.va z.cs.length z.cs) ∧ ∃ cs0 : List Co, 0 < cs0.length ∧ z.cs = cs0 ++ [cs0.getD 0 C0]
/-- A ledger in block LB, a transaction in the block behind it, coins; the results' blocks first, then the source's. -/
structure CkF (w V : World) (SB : Nat) (ca : Option Addr) (cn cc t LB : Nat) (ta : Option Addr) (n tc : Nat) (ga : Option Addr) (m gc : Nat) (ss : List ByteArray) (gs : List (Int × Int)) (z : Wr) (c0 c1 : Array Value) : Prop where
  src : Src w V SB ca cn cc t
  b7 : V.heap[LB]? = some (.cells #[.slice ta n tc, .slice ga m gc] 27 (0, 0))
  b9 : V.heap[LB + 1]? = some (.cells z.cells 32 (0, 0))
  r0 : V.heap[w.heap.size]? = some (.cells c0 27 (0, 0))
  r1 : V.heap[w.heap.size + 1]? = some (.cells c1 32 (0, 0))
  rs : V.ownsRow (w.heap.size + 3) 9 1 (.slice ta n tc) n (ss.map Value.string)
  rg : V.ownsRow (w.heap.size + 3) 111 2 (.slice ga m gc) m (gcells gs)
  fine : Fine ss gs
  own : OwnC w V LB z ∨ Twi w V z
  ref : V.ownsRow (w.heap.size + 3) 47 2 (.slice z.ia z.rs.length z.ic) z.rs.length (gcells z.rs)
  out : ∃ (kv : Nat → Value) (lo hi : Nat), OOwn V lo hi (.slice z.oa z.os.length z.oc) z.os.length (fun j => z.os.getD j O0) kv ∧ w.heap.size + 3 ≤ lo ∧ hi ≤ V.heap.size ∧ (hi ≤ LB ∨ LB + 2 ≤ lo)
  nm : n ≤ 61 ∧ m ≤ 121
  zk : KTB z.k z.f z.rs z.os
  zc : z.cs.length ≤ 43 ∧ ∀ j, j < z.cs.length → (z.cs.getD j C0).l.length ≤ 3
  ord : SB = w.heap.size + 2 ∧ w.heap.size + 3 ≤ LB

section
variable {w V V' : World} {SB cn cc t t' LB : Nat} {ca : Option Addr} {ta : Option Addr} {n tc : Nat} {ga : Option Addr} {m gc : Nat} {ss ss' : List ByteArray} {gs gs' : List (Int × Int)} {z : Wr} {c0 c1 c0' c1' : Array Value}
theorem OwnC.chg (h : OwnC w V LB z) (hC : Chg V V' w.heap.size (w.heap.size + 3)) : OwnC w V' LB z := by
  obtain ⟨kv, lo, hi, hk, h1, h2, h3⟩ := h
  exact ⟨kv, lo, hi, hk.chg hC (.inr h1), h1, Nat.le_trans h2 hC.size, h3⟩
theorem Twi.chg (h : Twi w V z) (hC : Chg V V' w.heap.size (w.heap.size + 3)) : Twi w V' z := ⟨fun V2 lo h2 => h.1 V2 (min lo w.heap.size) ((show Chg V V' (min lo w.heap.size) (w.heap.size + 3) from ⟨hC.os, hC.tape, hC.output, hC.size, fun b hb hd => hC.block b hb (by omega)⟩).trans ⟨h2.os, h2.tape, h2.output, h2.size, fun b hb hd => h2.block b hb (by omega)⟩), h.2⟩
/-- Nothing but the first three blocks has turned. -/
theorem CkF.turn (h : CkF w V SB ca cn cc t LB ta n tc ga m gc ss gs z c0 c1) (hS : Src w V' SB ca cn cc t') (hC : Chg V V' w.heap.size (w.heap.size + 3)) (q0 : V'.heap[w.heap.size]? = some (.cells c0' 27 (0, 0))) (q1 : V'.heap[w.heap.size + 1]? = some (.cells c1' 32 (0, 0))) : CkF w V' SB ca cn cc t' LB ta n tc ga m gc ss gs z c0' c1' := by
  have ho := h.ord
  have rw3 : ∀ {e : TypeId} {s : Nat} {u : Value} {q : Nat} {xs : List Value}, V.ownsRow (w.heap.size + 3) e s u q xs → V'.ownsRow (w.heap.size + 3) e s u q xs := fun hr => hC.row hr fun b hb => .inr (hr.lt b hb).1
  obtain ⟨ku, lo, hi, hu, u1, u2, u3⟩ := h.out
  exact ⟨hS, hC.keep h.b7 (.inr ho.2), hC.keep h.b9 (.inr (by omega)), q0, q1, rw3 h.rs, rw3 h.rg, h.fine, h.own.elim (fun q => .inl (q.chg hC)) fun q => .inr (q.chg hC), rw3 h.ref, ⟨ku, lo, hi, hu.chg hC (.inr u1), u1, Nat.le_trans u2 hC.size, u3⟩, h.nm, h.zk, h.zc, ho⟩
theorem wide3 (hS : SB = w.heap.size + 2) (hc : Chg V V' SB (SB + 1)) : Chg V V' w.heap.size (w.heap.size + 3) := ⟨hc.os, hc.tape, hc.output, hc.size, fun b hb hd => hc.block b hb (by omega)⟩
theorem CkF.draw (h : CkF w V SB ca cn cc t LB ta n tc ga m gc ss gs z c0 c1) (hS : Src w V' SB ca cn cc t') (hc : Chg V V' SB (SB + 1)) : CkF w V' SB ca cn cc t' LB ta n tc ga m gc ss gs z c0 c1 := by
  have ho := h.ord
  exact h.turn hS (wide3 ho.1 hc) (hc.keep1 h.r0 (by omega)) (hc.keep1 h.r1 (by omega))
theorem CkF.step (h : CkF w V SB ca cn cc t LB ta n tc ga m gc ss gs z c0 c1) (hb : Below V.heap.size V V') : CkF w V' SB ca cn cc t LB ta n tc ga m gc ss gs z c0 c1 := h.draw (h.src.step hb) (Chg.of_below hb _ _)
theorem CkF.led (h : CkF w V SB ca cn cc t LB ta n tc ga m gc ss gs z c0 c1) : LedAt V ta n ga m ss gs := ⟨satO h.rs, gatO h.rg⟩
theorem CkF.cat (h : CkF w V SB ca cn cc t LB ta n tc ga m gc ss gs z c0 c1) : CAt V z.va z.cs.length z.cs := by
  rcases h.own with ⟨kv, lo, hi, hk, _⟩ | hk
  · exact own_at2 hk rfl fun j hj => by have := h.zc.2 j hj; omega
  · exact hk.1 V 0 (Chg.refl _ _ _)
theorem CkF.tx (h : CkF w V SB ca cn cc t LB ta n tc ga m gc ss gs z c0 c1) : TxAt V z.ia z.rs.length z.oa z.os.length z.rs z.os := by
  obtain ⟨ku, lo, hi, hu, _⟩ := h.out
  exact ⟨gat_ref h.ref rfl, oown_atY hu fun j hj => by have := h.zk.2.2 _ (getD_mem (d := O0) hj); omega⟩
/-- Another ledger in block LB, drawn since. -/
theorem CkF.ledN (h : CkF w V SB ca cn cc t LB ta n tc ga m gc ss gs z c0 c1) (hq : OwnC w V LB z) {a0 a1 : Option Addr} {n' d0 m' d1 : Nat} (hS : Src w V' SB ca cn cc t') (hc : Chg V V' SB (SB + 1)) (hs : V'.ownsRow V.heap.size 9 1 (.slice a0 n' d0) n' (ss'.map Value.string)) (hg : V'.ownsRow V.heap.size 111 2 (.slice a1 m' d1) m' (gcells gs')) (hf : Fine ss' gs') (hnm : n' ≤ 61 ∧ m' ≤ 121) :
    CkF w ((V'.setCell ⟨LB, 0, none⟩ (.slice a0 n' d0)).setCell ⟨LB, 1, none⟩ (.slice a1 m' d1)) SB ca cn cc t' LB a0 n' d0 a1 m' d1 ss' gs' z c0 c1 := by
  have H := h.draw hS hc
  have hq' := hq.chg (wide3 h.ord.1 hc)
  have ho := h.ord
  have hl := lt_of_block h.b9
  have hsz := hc.size
  have hsb := H.src.sb
  have hb1 : (V'.setCell ⟨LB, 0, none⟩ (.slice a0 n' d0)).heap[LB]? = some (.cells #[.slice a0 n' d0, .slice ga m gc] 27 (0, 0)) := by
    simpa using Joins.block_setCell (i := 0) H.b7 (.slice a0 n' d0)
  have hb2 : ((V'.setCell ⟨LB, 0, none⟩ (.slice a0 n' d0)).setCell ⟨LB, 1, none⟩ (.slice a1 m' d1)).heap[LB]? = some (.cells #[.slice a0 n' d0, .slice a1 m' d1] 27 (0, 0)) := by
    simpa using Joins.block_setCell (i := 1) hb1 (.slice a1 m' d1)
  have kp : ∀ b, b ≠ LB → ((V'.setCell ⟨LB, 0, none⟩ (.slice a0 n' d0)).setCell ⟨LB, 1, none⟩ (.slice a1 m' d1)).heap[b]? = V'.heap[b]? := fun b hb =>
    (Below.heap_setCell _ ⟨LB, 1, none⟩ _ b hb).trans (Below.heap_setCell _ ⟨LB, 0, none⟩ _ b hb)
  have hC : Chg V' ((V'.setCell ⟨LB, 0, none⟩ (.slice a0 n' d0)).setCell ⟨LB, 1, none⟩ (.slice a1 m' d1)) LB (LB + 1) := ((Chg.refl _ _ _).setCell ⟨Nat.le_refl _, Nat.lt_succ_self _⟩ _).setCell ⟨Nat.le_refl _, Nat.lt_succ_self _⟩ _
  obtain ⟨kv, lo, hi, hk, k1, k2, k3⟩ := hq'
  obtain ⟨ku, lo2, hi2, hu, u1, u2, u3⟩ := H.out
  have rk : ∀ {e : TypeId} {s base : Nat} {u : Value} {q : Nat} {xs : List Value}, e ≠ 27 → V'.ownsRow base e s u q xs → ((V'.setCell ⟨LB, 0, none⟩ (.slice a0 n' d0)).setCell ⟨LB, 1, none⟩ (.slice a1 m' d1)).ownsRow base e s u q xs := fun he hr => row_set_other (row_set_other hr H.b7 he _) hb1 he _
  refine ⟨⟨(kp SB (by omega)).trans H.src.box, H.src.bel.trans (hC.below (by omega) H.src.bel.size), hsb⟩, hb2, (kp _ (by omega)).trans H.b9, (kp _ (by omega)).trans H.r0, (kp _ (by omega)).trans H.r1, rk (by decide) (Joins.ownsRow_le hs (by omega)), rk (by decide) (Joins.ownsRow_le hg (by omega)), hf, .inl ⟨kv, lo, hi, hk.chg hC (by omega), k1, Nat.le_trans k2 hC.size, k3⟩, rk (by decide) H.ref, ⟨ku, lo2, hi2, hu.chg hC (by omega), u1, Nat.le_trans u2 hC.size, u3⟩, hnm, H.zk, H.zc, ho⟩
/-- Other coins, drawn since. -/
theorem CkF.coinN (h : CkF w V SB ca cn cc t LB ta n tc ga m gc ss gs z c0 c1) {va : Option Addr} {vc : Nat} {cs : List Co} (hU : DbU w V V' SB ca cn cc t' va vc cs) : CkF w V' SB ca cn cc t' LB ta n tc ga m gc ss gs { z with va := va, vc := vc, cs := cs } c0 c1 := by
  have H := h.draw hU.src hU.chg
  have ho := h.ord
  have hl := lt_of_block h.b9
  refine ⟨H.src, H.b7, H.b9, H.r0, H.r1, H.rs, H.rg, H.fine, ?_, H.ref, H.out, H.nm, H.zk, hU.db.len, ho⟩
  rcases hU.or with hd | ⟨hd, hr⟩
  · obtain ⟨kv, hk⟩ := hd.own
    exact .inl ⟨kv, _, _, hk, by omega, Nat.le_refl _, .inr (by omega)⟩
  · exact .inr ⟨fun V2 lo h2 => hd.rd V2 lo (by rw [ho.1]; exact h2), hr⟩
/-- Another transaction in the block behind LB, drawn since. -/
theorem CkF.txN (h : CkF w V SB ca cn cc t LB ta n tc ga m gc ss gs z c0 c1) (hq : OwnC w V LB z) {k f : Int} {ia : Option Addr} {ic : Nat} {rs : List (Int × Int)} {oa : Option Addr} {oc : Nat} {os : List Ou} (hN : OwT w V V' SB ca cn cc t' ia ic rs oa oc os) (hK : KTB k f rs os) :
    CkF w ((((V'.setCell ⟨LB + 1, 0, none⟩ (.int .i64 k)).setCell ⟨LB + 1, 1, none⟩ (.int .i64 f)).setCell ⟨LB + 1, 2, none⟩ (.slice ia rs.length ic)).setCell ⟨LB + 1, 3, none⟩ (.slice oa os.length oc)) SB ca cn cc t' LB ta n tc ga m gc ss gs { z with k := k, f := f, ia := ia, ic := ic, rs := rs, oa := oa, oc := oc, os := os } c0 c1 := by
  have H := h.draw hN.src hN.chg
  have hq' := hq.chg (wide3 h.ord.1 hN.chg)
  have ho := h.ord
  have hl := lt_of_block h.b9
  have hsz := hN.chg.size
  have hsb := H.src.sb
  obtain ⟨U, hU⟩ : ∃ U, U = ((((V'.setCell ⟨LB + 1, 0, none⟩ (.int .i64 k)).setCell ⟨LB + 1, 1, none⟩ (.int .i64 f)).setCell ⟨LB + 1, 2, none⟩ (.slice ia rs.length ic)).setCell ⟨LB + 1, 3, none⟩ (.slice oa os.length oc)) := ⟨_, rfl⟩
  have kp : ∀ b, b ≠ LB + 1 → U.heap[b]? = V'.heap[b]? := fun b hb => by
    rw [hU]
    exact (Below.heap_setCell _ ⟨LB + 1, 3, none⟩ _ b hb).trans ((Below.heap_setCell _ ⟨LB + 1, 2, none⟩ _ b hb).trans ((Below.heap_setCell _ ⟨LB + 1, 1, none⟩ _ b hb).trans (Below.heap_setCell _ ⟨LB + 1, 0, none⟩ _ b hb)))
  have q1 : (V'.setCell ⟨LB + 1, 0, none⟩ (.int .i64 k)).heap[LB + 1]? = some (.cells #[.int .i64 k, .int .i64 z.f, .slice z.ia z.rs.length z.ic, .slice z.oa z.os.length z.oc] 32 (0, 0)) := by simpa using Joins.block_setCell (i := 0) H.b9 (.int .i64 k)
  have q2 : ((V'.setCell ⟨LB + 1, 0, none⟩ (.int .i64 k)).setCell ⟨LB + 1, 1, none⟩ (.int .i64 f)).heap[LB + 1]? = some (.cells #[.int .i64 k, .int .i64 f, .slice z.ia z.rs.length z.ic, .slice z.oa z.os.length z.oc] 32 (0, 0)) := by simpa using Joins.block_setCell (i := 1) q1 (.int .i64 f)
  have q3 : (((V'.setCell ⟨LB + 1, 0, none⟩ (.int .i64 k)).setCell ⟨LB + 1, 1, none⟩ (.int .i64 f)).setCell ⟨LB + 1, 2, none⟩ (.slice ia rs.length ic)).heap[LB + 1]? = some (.cells #[.int .i64 k, .int .i64 f, .slice ia rs.length ic, .slice z.oa z.os.length z.oc] 32 (0, 0)) := by simpa using Joins.block_setCell (i := 2) q2 (.slice ia rs.length ic)
  have q4 : U.heap[LB + 1]? = some (.cells #[.int .i64 k, .int .i64 f, .slice ia rs.length ic, .slice oa os.length oc] 32 (0, 0)) := by
    rw [hU]
    simpa using Joins.block_setCell (i := 3) q3 (.slice oa os.length oc)
  have hC : Chg V' U (LB + 1) (LB + 2) := by
    rw [hU]
    exact ((((Chg.refl _ _ _).setCell ⟨Nat.le_refl _, by omega⟩ _).setCell ⟨Nat.le_refl _, by omega⟩ _).setCell ⟨Nat.le_refl _, by omega⟩ _).setCell ⟨Nat.le_refl _, by omega⟩ _
  have rk : ∀ {e : TypeId} {s base : Nat} {u : Value} {q : Nat} {xs : List Value}, e ≠ 32 → V'.ownsRow base e s u q xs → U.ownsRow base e s u q xs := fun he hr => by
    rw [hU]
    exact row_set_other (row_set_other (row_set_other (row_set_other hr H.b9 he _) q1 he _) q2 he _) q3 he _
  rw [← hU]
  obtain ⟨kv, lo, hi, hk, k1, k2, k3⟩ := hq'
  obtain ⟨ku, hu⟩ := hN.out
  exact ⟨⟨(kp SB (by omega)).trans H.src.box, H.src.bel.trans (hC.below (by omega) H.src.bel.size), hsb⟩, (kp _ (by omega)).trans H.b7, q4, (kp _ (by omega)).trans H.r0, (kp _ (by omega)).trans H.r1, rk (by decide) H.rs, rk (by decide) H.rg, H.fine, .inl ⟨kv, lo, hi, hk.chg hC (by omega), k1, Nat.le_trans k2 hC.size, k3⟩, rk (by decide) (Joins.ownsRow_le hN.ref (by omega)), ⟨ku, _, _, hu.chg hC (.inr (by omega)), by omega, hC.size, .inr (by omega)⟩, H.nm, hK, H.zc, ho⟩
end
/-- A world that was drawn, boxed. -/
theorem CkF.start {w v V : World} {SB cn cc t : Nat} {ca : Option Addr} {ta : Option Addr} {n tc : Nat} {ga : Option Addr} {m gc : Nat} {ss : List ByteArray} {gs : List (Int × Int)} {z : Wr} {c0 c1 : Array Value} (h : WD w v V SB ca cn cc t ta n tc ga m gc ss gs z) (hv : w.heap.size + 3 ≤ v.heap.size) (hS : SB = w.heap.size + 2) (hnm : n ≤ 60 ∧ m ≤ 120) (q0 : V.heap[w.heap.size]? = some (.cells c0 27 (0, 0))) (q1 : V.heap[w.heap.size + 1]? = some (.cells c1 32 (0, 0))) :
    CkF w ((V.alloc (.cells #[.slice ta n tc, .slice ga m gc] 27)).alloc (.cells z.cells 32)) SB ca cn cc t V.heap.size ta n tc ga m gc ss gs z c0 c1 ∧ OwnC w ((V.alloc (.cells #[.slice ta n tc, .slice ga m gc] 27)).alloc (.cells z.cells 32)) V.heap.size z := by
  have hb : Below V.heap.size V ((V.alloc (.cells #[.slice ta n tc, .slice ga m gc] 27)).alloc (.cells z.cells 32)) := below_box2 _ _
  have hsz := h.chg.size
  obtain ⟨kv, hk⟩ := h.own
  obtain ⟨ku, hu⟩ := h.out
  have hO : OwnC w ((V.alloc (.cells #[.slice ta n tc, .slice ga m gc] 27)).alloc (.cells z.cells 32)) V.heap.size z := ⟨kv, _, _, hk.below hb, by omega, by simp; omega, .inl (Nat.le_refl _)⟩
  exact ⟨⟨h.src.step hb, block_at2, heap_at _ _ _ (by simp), (keepb q0 hb).out, (keepb q1 hb).out, Joins.ownsRow_le ((h.rs.alloc _).alloc _) (by omega), Joins.ownsRow_le ((h.rg.alloc _).alloc _) (by omega), h.fine, .inl hO, Joins.ownsRow_le ((h.ref.alloc _).alloc _) (by omega), ⟨ku, _, _, hu.below hb, by omega, by simp; omega, .inl (Nat.le_refl _)⟩, ⟨by omega, by omega⟩, h.ok.k, ⟨by have := h.ok.c.1; omega, h.ok.c.2⟩, hS, by omega⟩, hO⟩
end Go.Proofs.YtagokfoimokniaaGreatDoor
