/- A voter drawn, whatever the bytes are: one under way, and what is told. -/
import Derived.Test.YtpcgkgjmcnncdaaZg
import Derived.Test.YtpcgkgjmcnncdaaZn
import Derived.Test.YtpcgkgjmcnncdaaDrR
namespace Go.Proofs.Ytpcgkgjmcnncdaa
open Go.RowKit Go.Maps Go.WideMaps

/-- A voter under way in block LB, the answer's place in the first new block, the source in SB. -/
structure Dv (w v V : World) (SB : Nat) (ca : Option Addr) (cn cc t LB : Nat) (k l : Int) (va : Option Addr) (n vc : Nat) (ms : List Mb) : Prop where
  src : Src w V SB ca cn cc t
  chg : Chg v V SB (SB + 1)
  box : V.heap[LB]? = some (.cells #[.int .i64 k, .int .i64 l, .slice va n vc] 26 (0, 0))
  res : V.heap[v.heap.size]? = some (.cells #[.int .i64 0, .int .i64 0, .slice none 0 0] 26 (0, 0))
  row : V.ownsRow v.heap.size 44 3 (.slice va n vc) n (mcells ms)
  len : ms.length = n
  ord : SB < v.heap.size ∧ v.heap.size < LB
section
variable {w v V V' : World} {SB : Nat} {ca : Option Addr} {cn cc t t' LB : Nat} {k l k' l' : Int} {va : Option Addr} {n vc : Nat} {ms : List Mb}
theorem Dv.step (h : Dv w v V SB ca cn cc t LB k l va n vc ms) (hb : Below V.heap.size V V') : Dv w v V' SB ca cn cc t LB k l va n vc ms :=
  ⟨h.src.step hb, h.chg.trans (Chg.of_below hb _ _), (keepb h.box hb).out, (keepb h.res hb).out, ((OwnR.of h.row).below hb).r, h.len, h.ord⟩
theorem Dv.draw (h : Dv w v V SB ca cn cc t LB k l va n vc ms) (hS : Src w V' SB ca cn cc t') (hc : Chg V V' SB (SB + 1)) : Dv w v V' SB ca cn cc t' LB k l va n vc ms := by
  have := h.ord
  exact ⟨hS, h.chg.trans hc, hc.keep1 h.box (by omega), hc.keep1 h.res (by omega), hc.row1 h.row (by omega), h.len, h.ord⟩
theorem Dv.at (h : Dv w v V SB ca cn cc t LB k l va n vc ms) : MAt V va n ms := mat_row h.row h.len
/-- Another block is written. -/
theorem Dv.apart (h : Dv w v V SB ca cn cc t LB k l va n vc ms) {R : Nat} (hR : v.heap.size < R ∧ R ≠ LB) (kp : ∀ b, b ≠ R → V'.heap[b]? = V.heap[b]?) (hb : Below R V V') (_hr : (Value.slice va n vc).ownBlock ≠ some R) (hrow : V'.ownsRow v.heap.size 44 3 (.slice va n vc) n (mcells ms)) : Dv w v V' SB ca cn cc t LB k l va n vc ms := by
  have ho := h.ord
  have hsb := h.src.sb
  have hvs := h.chg.size
  exact ⟨⟨(kp SB (by omega)).trans h.src.box, h.src.bel.trans (hb.mono (by omega)), hsb⟩, ⟨hb.os.trans h.chg.os, hb.tape.trans h.chg.tape, hb.output.trans h.chg.output, Nat.le_trans hvs hb.size, fun b h1 h2 => (kp b (by omega)).trans (h.chg.block b h1 h2)⟩, (kp LB (fun e => hR.2 e.symm)).trans h.box, (kp _ (by omega)).trans h.res, hrow, h.len, ho⟩
/-- The voter's own three cells are written anew. -/
theorem Dv.put (h : Dv w v V SB ca cn cc t LB k l va n vc ms) {a0 : Option Addr} {m d0 base : Nat} {ms' : List Mb} (ho : V.ownsRow base 44 3 (.slice a0 m d0) m (mcells ms')) (hbase : v.heap.size ≤ base) (hm : ms'.length = m) :
    Dv w v (((V.setCell ⟨LB, 0, none⟩ (.int .i64 k')).setCell ⟨LB, 1, none⟩ (.int .i64 l')).setCell ⟨LB, 2, none⟩ (.slice a0 m d0)) SB ca cn cc t LB k' l' a0 m d0 ms' := by
  have hord := h.ord
  have hsb := h.src.sb
  have hvs := h.chg.size
  have kp : ∀ b, b ≠ LB → (((V.setCell ⟨LB, 0, none⟩ (.int .i64 k')).setCell ⟨LB, 1, none⟩ (.int .i64 l')).setCell ⟨LB, 2, none⟩ (.slice a0 m d0)).heap[b]? = V.heap[b]? := fun b hb => heap_set3 hb _ _ _
  have hbl : Below LB V (((V.setCell ⟨LB, 0, none⟩ (.int .i64 k')).setCell ⟨LB, 1, none⟩ (.int .i64 l')).setCell ⟨LB, 2, none⟩ (.slice a0 m d0)) := below_set3 (Below.refl _ _) (Nat.le_refl _) _ _ _
  have hne : (Value.slice a0 m d0).ownBlock ≠ some LB := row_neV ho h.box (of_decide_eq_true (by kernel_rfl))
  have hrow : (((V.setCell ⟨LB, 0, none⟩ (.int .i64 k')).setCell ⟨LB, 1, none⟩ (.int .i64 l')).setCell ⟨LB, 2, none⟩ (.slice a0 m d0)).ownsRow base 44 3 (.slice a0 m d0) m (mcells ms') := ownsRow_setCell_other (ownsRow_setCell_other (ownsRow_setCell_other ho (a := ⟨LB, 0, none⟩) hne _) (a := ⟨LB, 1, none⟩) hne _) (a := ⟨LB, 2, none⟩) hne _
  exact ⟨⟨(kp SB (by omega)).trans h.src.box, h.src.bel.trans (hbl.mono (by omega)), hsb⟩, ⟨hbl.os.trans h.chg.os, hbl.tape.trans h.chg.tape, hbl.output.trans h.chg.output, Nat.le_trans hvs hbl.size, fun b h1 h2 => (kp b (by omega)).trans (h.chg.block b h1 h2)⟩, set3 h.box _ _ _, (kp _ (by omega)).trans h.res, Joins.ownsRow_le hrow hbase, hm, hord⟩
end
/-- A voter that was drawn. -/
def OutDv (w v : World) (SB : Nat) (ca : Option Addr) (cn cc T : Nat) (e : Ending) (v' : World) : Prop :=
  ∃ (k l : Int) (va : Option Addr) (n vc : Nat) (ms : List Mb) (t' : Nat), e = .returned (.agg #[.int .i64 k, .int .i64 l, .slice va n vc]) ∧ (n ≤ 41 ∧ t' ≤ T ∧ ms.length = n) ∧ Hid (Src w v' SB ca cn cc t') ∧ Hid (Chg v v' SB (SB + 1)) ∧ Hid (v'.ownsRow v.heap.size 44 3 (.slice va n vc) n (mcells ms))
/-- A result that is laid, not yet written. -/
def Zv (V : World) (RX LB : Nat) : Prop := LB < RX ∧ V.heap[RX]? = some (.cells #[.int .i64 0, .int .i64 0, .int .i64 0, .int .i64 0, .int .i64 0, .int .i64 0, .int .i64 0, .int .i64 0, .int .i64 0, .slice none 0 0] 34 (0, 0))
theorem Zv.step {V V' : World} {RX LB : Nat} (h : Zv V RX LB) (hb : Below V.heap.size V V') : Zv V' RX LB := ⟨h.1, (keepb h.2 hb).out⟩
theorem Zv.draw {V V' : World} {RX LB SB : Nat} (h : Zv V RX LB) (hc : Chg V V' SB (SB + 1)) (hl : SB < LB) : Zv V' RX LB := ⟨h.1, hc.keep1 h.2 (by have := h.1; omega)⟩
theorem Zv.new {V : World} {LB : Nat} (hl : LB < V.heap.size) : Zv (V.alloc (.cells #[.int .i64 0, .int .i64 0, .int .i64 0, .int .i64 0, .int .i64 0, .int .i64 0, .int .i64 0, .int .i64 0, .int .i64 0, .slice none 0 0] 34)) V.heap.size LB := ⟨hl, heap_alloc_new _ _⟩
section
variable {w v V : World} {SB : Nat} {ca : Option Addr} {cn cc t LB : Nat} {k l : Int} {va : Option Addr} {n vc : Nat} {ms : List Mb} {rr : Vr} {a0 : Option Addr} {d0 base : Nat}
theorem Dv.boxA (h : Dv w v V SB ca cn cc t LB k l va n vc ms) (ho : Hid (V.ownsRow base 44 3 (.slice a0 rr.ms.length d0) rr.ms.length (mcells rr.ms))) :
    ∃ W4, V.alloc (.cells #[.int .i64 rr.c, .int .i64 rr.v.k, .int .i64 rr.v.d, .int .i64 rr.v.b, .int .i64 rr.v.p, .int .i64 rr.v.q, .int .i64 rr.v.t, .int .i64 rr.k, .int .i64 rr.l, .slice a0 rr.ms.length d0] 34) = W4 ∧ Hid (Dv w v W4 SB ca cn cc t LB k l va n vc ms) ∧ Hid (W4.ownsRow base 44 3 (.slice a0 rr.ms.length d0) rr.ms.length (mcells rr.ms)) ∧ Hid (W4.heap[V.heap.size]? = some (.cells #[.int .i64 rr.c, .int .i64 rr.v.k, .int .i64 rr.v.d, .int .i64 rr.v.b, .int .i64 rr.v.p, .int .i64 rr.v.q, .int .i64 rr.v.t, .int .i64 rr.k, .int .i64 rr.l, .slice a0 rr.ms.length d0] 34 (0, 0))) :=
  ⟨_, rfl, h.step (below_box _), ho.out.alloc _, heap_alloc_new _ _⟩
theorem Dv.boxZ (h : Dv w v V SB ca cn cc t LB k l va n vc ms) {RX : Nat} (hz : Hid (Zv V RX LB)) (ho : Hid (V.ownsRow base 44 3 (.slice a0 rr.ms.length d0) rr.ms.length (mcells rr.ms))) :
    ∃ W4, ((((((((((V.setCell ⟨RX, 0, none⟩ (.int .i64 rr.c)).setCell ⟨RX, 1, none⟩ (.int .i64 rr.v.k)).setCell ⟨RX, 2, none⟩ (.int .i64 rr.v.d)).setCell ⟨RX, 3, none⟩ (.int .i64 rr.v.b)).setCell ⟨RX, 4, none⟩ (.int .i64 rr.v.p)).setCell ⟨RX, 5, none⟩ (.int .i64 rr.v.q)).setCell ⟨RX, 6, none⟩ (.int .i64 rr.v.t)).setCell ⟨RX, 7, none⟩ (.int .i64 rr.k)).setCell ⟨RX, 8, none⟩ (.int .i64 rr.l)).setCell ⟨RX, 9, none⟩ (.slice a0 rr.ms.length d0)) = W4 ∧ Hid (Dv w v W4 SB ca cn cc t LB k l va n vc ms) ∧ Hid (W4.ownsRow base 44 3 (.slice a0 rr.ms.length d0) rr.ms.length (mcells rr.ms)) ∧ Hid (W4.heap[RX]? = some (.cells #[.int .i64 rr.c, .int .i64 rr.v.k, .int .i64 rr.v.d, .int .i64 rr.v.b, .int .i64 rr.v.p, .int .i64 rr.v.q, .int .i64 rr.v.t, .int .i64 rr.k, .int .i64 rr.l, .slice a0 rr.ms.length d0] 34 (0, 0))) := by
  have hz1 := hz.out.1
  have hord := h.ord
  have hT : (34 : TypeId) ≠ 44 := of_decide_eq_true (by kernel_rfl)
  have ne1 := row_neV h.row hz.out.2 hT
  have ne2 := row_neV ho.out hz.out.2 hT
  have s10 : ∀ {bs : Nat} {x : Value} {m : Nat} {xs : List Value}, V.ownsRow bs 44 3 x m xs → x.ownBlock ≠ some RX → ((((((((((V.setCell ⟨RX, 0, none⟩ (.int .i64 rr.c)).setCell ⟨RX, 1, none⟩ (.int .i64 rr.v.k)).setCell ⟨RX, 2, none⟩ (.int .i64 rr.v.d)).setCell ⟨RX, 3, none⟩ (.int .i64 rr.v.b)).setCell ⟨RX, 4, none⟩ (.int .i64 rr.v.p)).setCell ⟨RX, 5, none⟩ (.int .i64 rr.v.q)).setCell ⟨RX, 6, none⟩ (.int .i64 rr.v.t)).setCell ⟨RX, 7, none⟩ (.int .i64 rr.k)).setCell ⟨RX, 8, none⟩ (.int .i64 rr.l)).setCell ⟨RX, 9, none⟩ (.slice a0 rr.ms.length d0)).ownsRow bs 44 3 x m xs := fun hh hn =>
    ownsRow_setCell_other (ownsRow_setCell_other (ownsRow_setCell_other (ownsRow_setCell_other (ownsRow_setCell_other (ownsRow_setCell_other (ownsRow_setCell_other (ownsRow_setCell_other (ownsRow_setCell_other (ownsRow_setCell_other hh (a := ⟨RX, 0, none⟩) hn _) (a := ⟨RX, 1, none⟩) hn _) (a := ⟨RX, 2, none⟩) hn _) (a := ⟨RX, 3, none⟩) hn _) (a := ⟨RX, 4, none⟩) hn _) (a := ⟨RX, 5, none⟩) hn _) (a := ⟨RX, 6, none⟩) hn _) (a := ⟨RX, 7, none⟩) hn _) (a := ⟨RX, 8, none⟩) hn _) (a := ⟨RX, 9, none⟩) hn _
  refine ⟨_, rfl, ?_, s10 ho.out ne2, set10V10 hz.out.2 _ _ _ _ _ _ _ _ _ _⟩
  exact h.apart (R := RX) ⟨by omega, by omega⟩ (fun b hb => heap_set10V hb _ _ _ _ _ _ _ _ _ _) (below_set10V (Below.refl _ _) (Nat.le_refl _) _ _ _ _ _ _ _ _ _ _) ne1 (s10 h.row ne1)
end
/-- What a voter without a fault makes of a right choice. -/
theorem choose_two {k p q t : Int} {ms : List Mb} (h0 : voterR k 0 ms = 0) : (∃ c, c ≠ 0 ∧ chooseR k 0 ms p q t = vrBad c) ∨ (∃ ms', chooseR k 0 ms p q t = ⟨0, ⟨k, 2, 0, p, q, t⟩, k, 0, ms'⟩ ∧ voterR k 0 ms' = 0) := by
  by_cases hc : chooseC ms p q t = 0
  · right
    have : (chooseR k 0 ms p q t).c = 0 := by
      by_cases hm : (p, q, t) ∈ ms
      · rw [chooseR_had h0 hc hm]
      · rw [chooseR_new h0 hc hm]
    obtain ⟨ms', e, _, h2, _⟩ := chosen_ok this
    exact ⟨ms', e, h2⟩
  · exact .inl ⟨_, hc, chooseR_code h0 hc⟩

end Go.Proofs.Ytpcgkgjmcnncdaa
