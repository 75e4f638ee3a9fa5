/- The ledgers that are drawn. -/
import Derived.Test.YthjolannlefbcaaGreatDoorJn1
import Derived.Test.YthjolannlefbcaaGreatDoorNtO
import Derived.Test.YthjolannlefbcaaGreatDoorSgO
import Derived.Deep.RegionWith
namespace Go.Proofs.YthjolannlefbcaaGreatDoor
open Go.RowKit Go.Maps Go.WideMaps

theorem row_caps {v : World} {base n c size : Nat} {e : TypeId} {a : Option Addr} {xs : List Value} (h : v.ownsRow base e size (.slice a n c) n xs) : n ≤ c ∧ c ≤ maxLen ∧ (a = none → c = 0) := by
  rcases id h.2 with ⟨e, h0⟩ | ⟨g, cap, cur, e, _, _, h1, h2, _⟩
  · simp at e
    obtain ⟨rfl, rfl, rfl⟩ := e
    exact ⟨Nat.le_refl _, by unfold maxLen; omega, fun _ => rfl⟩
  · simp at e
    obtain ⟨rfl, rfl⟩ := e
    exact ⟨h1, h2, fun e => by cases e⟩
theorem satO {w : World} {base n c : Nat} {a : Option Addr} {ss : List ByteArray} (h : w.ownsRow base 9 1 (.slice a n c) n (ss.map Value.string)) : SAt w a n ss := by
  have hn : ss.length = n := by have := h.1; simpa using this
  rcases id h.2 with ⟨_, h0⟩ | ⟨g, cap, cur, e, _⟩
  · exact ⟨hn, .inl h0⟩
  · simp at e
    obtain ⟨rfl, rfl⟩ := e
    exact SAt.owned h hn
theorem gatO {w : World} {base n c : Nat} {a : Option Addr} {gs : List (Int × Int)} (h : w.ownsRow base 130 2 (.slice a n c) n (gcells gs)) : GAt w a n gs := by
  have hn : gs.length = n := by have := h.1; rw [gcells_length] at this; omega
  rcases id h.2 with ⟨_, h0⟩ | ⟨g, cap, cur, e, _⟩
  · exact ⟨hn, .inl h0⟩
  · simp at e
    obtain ⟨rfl, rfl⟩ := e
    exact GAt.owned h hn

theorem fine_nil : Fine [] [] := ⟨fun j => by simp [E0, maxLen], fun j => by simp [G0]; decide⟩
theorem getD_snoc {α : Type} (l : List α) (x d : α) (j : Nat) : (l ++ [x]).getD j d = l.getD j d ∨ (l ++ [x]).getD j d = x := by
  by_cases h : j < l.length
  · left; simp [List.getD, List.getElem?_append_left h]
  · by_cases h2 : j = l.length
    · right; subst h2; simp [List.getD]
    · left
      rw [List.getD, List.getD, List.getElem?_eq_none (by simp; omega), List.getElem?_eq_none (by omega)]
theorem Fine.text {ss : List ByteArray} {gs : List (Int × Int)} (h : Fine ss gs) {x : ByteArray} (hx : x.size ≤ maxLen) : Fine (ss ++ [x]) gs :=
  ⟨fun j => by
    rcases getD_snoc ss x E0 j with e | e
    · rw [e]; exact h.s j
    · rw [e]; exact hx, h.g⟩
theorem Fine.sign {ss : List ByteArray} {gs : List (Int × Int)} (h : Fine ss gs) {a b : Int} (ha : (Lit.int .i64 a).wf = true) (hb : (Lit.int .i64 b).wf = true) : Fine ss (gs ++ [(a, b)]) :=
  ⟨h.s, fun j => by
    rcases getD_snoc gs (a, b) G0 j with e | e
    · rw [e]; exact h.g j
    · rw [e]; exact ⟨ha, hb⟩⟩
theorem Fine.note {ss : List ByteArray} {gs : List (Int × Int)} (h : Fine ss gs) {x : ByteArray} (hx : x.size ≤ maxLen) : Fine (noteR ss gs x).s (noteR ss gs x).g := by
  unfold noteR
  split
  · exact fine_nil
  · split
    · exact fine_nil
    · split
      · exact h
      · split
        · exact fine_nil
        · exact h.text hx
theorem Fine.signR {ss : List ByteArray} {gs : List (Int × Int)} (h : Fine ss gs) {a b : Int} (ha : (Lit.int .i64 a).wf = true) (hb : (Lit.int .i64 b).wf = true) : Fine (signR ss gs a b).s (signR ss gs a b).g := by
  unfold Go.Proofs.YthjolannlefbcaaGreatDoor.signR
  split
  · exact fine_nil
  · split
    · exact fine_nil
    · split
      · exact h
      · split
        · exact fine_nil
        · exact h.sign ha hb

/-- A ledger under way in block LB, a result in block RB, the source in SB. -/
structure Lr (w v V : World) (SB : Nat) (ca : Option Addr) (cn cc t RB LB : Nat) (ta : Option Addr) (n tc : Nat) (ga : Option Addr) (m gc : Nat) (ss : List ByteArray) (gs : List (Int × Int)) : Prop where
  src : Src w V SB ca cn cc t
  chg : Chg v V SB (SB + 1)
  box : V.heap[LB]? = some (.cells #[.slice ta n tc, .slice ga m gc] 46 (0, 0))
  res : V.heap[RB]? = some (.cells #[.slice none 0 0, .slice none 0 0] 46 (0, 0))
  rs : V.ownsRow v.heap.size 9 1 (.slice ta n tc) n (ss.map Value.string)
  rg : V.ownsRow v.heap.size 130 2 (.slice ga m gc) m (gcells gs)
  fine : Fine ss gs
  ord : SB < v.heap.size ∧ v.heap.size ≤ RB ∧ RB < LB

section
variable {w v V V' : World} {SB : Nat} {ca : Option Addr} {cn cc t t' RB LB : Nat} {ta : Option Addr} {n tc : Nat} {ga : Option Addr} {m gc : Nat} {ss ss' : List ByteArray} {gs gs' : List (Int × Int)}
theorem Lr.step (h : Lr w v V SB ca cn cc t RB LB ta n tc ga m gc ss gs) (hb : Below V.heap.size V V') : Lr w v V' SB ca cn cc t RB LB ta n tc ga m gc ss gs :=
  ⟨h.src.step hb, h.chg.trans (Chg.of_below hb _ _), (keepb h.box hb).out, (keepb h.res hb).out, h.rs.kept (grown_of_below hb) (by cases Value.ownBlock (.slice ta n tc) <;> simp), h.rg.kept (grown_of_below hb) (by cases Value.ownBlock (.slice ga m gc) <;> simp), h.fine, h.ord⟩
theorem Lr.draw (h : Lr w v V SB ca cn cc t RB LB ta n tc ga m gc ss gs) (hS : Src w V' SB ca cn cc t') (hc : Chg V V' SB (SB + 1)) : Lr w v V' SB ca cn cc t' RB LB ta n tc ga m gc ss gs := by
  have := h.ord
  exact ⟨hS, h.chg.trans hc, hc.keep1 h.box (by omega), hc.keep1 h.res (by omega), hc.row1 h.rs (by omega), hc.row1 h.rg (by omega), h.fine, h.ord⟩
theorem Lr.led (h : Lr w v V SB ca cn cc t RB LB ta n tc ga m gc ss gs) : LedAt V ta n ga m ss gs := ⟨satO h.rs, gatO h.rg⟩
theorem Lr.caps (h : Lr w v V SB ca cn cc t RB LB ta n tc ga m gc ss gs) : (n ≤ tc ∧ m ≤ gc ∧ tc ≤ maxLen ∧ gc ≤ maxLen) ∧ (ta = none → tc = 0) ∧ (ga = none → gc = 0) :=
  ⟨⟨(row_caps h.rs).1, (row_caps h.rg).1, (row_caps h.rs).2.1, (row_caps h.rg).2.1⟩, (row_caps h.rs).2.2, (row_caps h.rg).2.2⟩
/-- A ledger of new memory is stored in the other's place. -/
theorem Lr.put (h : Lr w v V SB ca cn cc t RB LB ta n tc ga m gc ss gs) {a0 a1 : Option Addr} {n' c0 m' c1 base : Nat} (hs : V.ownsRow base 9 1 (.slice a0 n' c0) n' (ss'.map Value.string)) (hg : V.ownsRow base 130 2 (.slice a1 m' c1) m' (gcells gs')) (hbase : v.heap.size ≤ base) (hf : Fine ss' gs') :
    Lr w v ((V.setCell ⟨LB, 0, none⟩ (.slice a0 n' c0)).setCell ⟨LB, 1, none⟩ (.slice a1 m' c1)) SB ca cn cc t RB LB a0 n' c0 a1 m' c1 ss' gs' := by
  have ho := h.ord
  have hb1 : (V.setCell ⟨LB, 0, none⟩ (.slice a0 n' c0)).heap[LB]? = some (.cells #[.slice a0 n' c0, .slice ga m gc] 46 (0, 0)) := by
    have := Joins.block_setCell (i := 0) h.box (.slice a0 n' c0)
    simpa using this
  have hb2 : ((V.setCell ⟨LB, 0, none⟩ (.slice a0 n' c0)).setCell ⟨LB, 1, none⟩ (.slice a1 m' c1)).heap[LB]? = some (.cells #[.slice a0 n' c0, .slice a1 m' c1] 46 (0, 0)) := by
    have := Joins.block_setCell (i := 1) hb1 (.slice a1 m' c1)
    simpa using this
  have kp : ∀ b, b ≠ LB → ((V.setCell ⟨LB, 0, none⟩ (.slice a0 n' c0)).setCell ⟨LB, 1, none⟩ (.slice a1 m' c1)).heap[b]? = V.heap[b]? := fun b hb =>
    (Below.heap_setCell _ ⟨LB, 1, none⟩ _ b hb).trans (Below.heap_setCell _ ⟨LB, 0, none⟩ _ b hb)
  have hbel := h.src.bel
  have hvs := h.chg.size
  refine ⟨⟨(kp SB (by omega)).trans h.src.box, (hbel.setCell (p := ⟨LB, 0, none⟩) (show w.heap.size ≤ LB by have := h.src.sb; omega) _).setCell (p := ⟨LB, 1, none⟩) (show w.heap.size ≤ LB by have := h.src.sb; omega) _, h.src.sb⟩, ?_, hb2, (kp RB (by omega)).trans h.res, ?_, ?_, hf, ho⟩
  · exact ⟨h.chg.os, h.chg.tape, h.chg.output, by simpa using hvs, fun b hb hn => (kp b (by omega)).trans (h.chg.block b hb hn)⟩
  · exact Joins.ownsRow_le (row_set_other (row_set_other hs h.box (by decide) _) hb1 (by decide) _) hbase
  · exact Joins.ownsRow_le (row_set_other (row_set_other hg h.box (by decide) _) hb1 (by decide) _) hbase
/-- The result is written. -/
theorem Lr.ret (h : Lr w v V SB ca cn cc t RB LB ta n tc ga m gc ss gs) (x y : Value) : Src w ((V.setCell ⟨RB, 0, none⟩ x).setCell ⟨RB, 1, none⟩ y) SB ca cn cc t ∧ Chg v ((V.setCell ⟨RB, 0, none⟩ x).setCell ⟨RB, 1, none⟩ y) SB (SB + 1) ∧
    ((V.setCell ⟨RB, 0, none⟩ x).setCell ⟨RB, 1, none⟩ y).ownsRow v.heap.size 9 1 (.slice ta n tc) n (ss.map Value.string) ∧ ((V.setCell ⟨RB, 0, none⟩ x).setCell ⟨RB, 1, none⟩ y).ownsRow v.heap.size 130 2 (.slice ga m gc) m (gcells gs) := by
  have ho := h.ord
  have hb1 : (V.setCell ⟨RB, 0, none⟩ x).heap[RB]? = some (.cells #[x, .slice none 0 0] 46 (0, 0)) := by
    have := Joins.block_setCell (i := 0) h.res x
    simpa using this
  have kp : ∀ b, b ≠ RB → ((V.setCell ⟨RB, 0, none⟩ x).setCell ⟨RB, 1, none⟩ y).heap[b]? = V.heap[b]? := fun b hb =>
    (Below.heap_setCell _ ⟨RB, 1, none⟩ _ b hb).trans (Below.heap_setCell _ ⟨RB, 0, none⟩ _ b hb)
  have hvs := h.chg.size
  have hsb := h.src.sb
  refine ⟨⟨(kp SB (by omega)).trans h.src.box, (h.src.bel.setCell (p := ⟨RB, 0, none⟩) (show w.heap.size ≤ RB by omega) _).setCell (p := ⟨RB, 1, none⟩) (show w.heap.size ≤ RB by omega) _, hsb⟩, ?_, ?_, ?_⟩
  · exact ⟨h.chg.os, h.chg.tape, h.chg.output, by simpa using hvs, fun b hb hn => (kp b (by omega)).trans (h.chg.block b hb hn)⟩
  · exact row_set_other (row_set_other h.rs h.res (by decide) _) hb1 (by decide) _
  · exact row_set_other (row_set_other h.rg h.res (by decide) _) hb1 (by decide) _
theorem Lr.putH (h : Lr w v V SB ca cn cc t RB LB ta n tc ga m gc ss gs) {a0 a1 : Option Addr} {n' c0 m' c1 : Nat} (hr : ∃ base, v.heap.size ≤ base ∧ V.ownsRow base 9 1 (.slice a0 n' c0) n' (ss'.map Value.string) ∧ V.ownsRow base 130 2 (.slice a1 m' c1) m' (gcells gs')) (hf : Fine ss' gs') :
    Hid (Lr w v ((V.setCell ⟨LB, 0, none⟩ (.slice a0 n' c0)).setCell ⟨LB, 1, none⟩ (.slice a1 m' c1)) SB ca cn cc t RB LB a0 n' c0 a1 m' c1 ss' gs') := by
  obtain ⟨base, hb, h1, h2⟩ := hr
  exact h.put h1 h2 hb hf

/-- A result that has been laid and is not yet written. -/
def Zx (V : World) (RX LB : Nat) : Prop := LB < RX ∧ V.heap[RX]? = some (.cells #[.int .i64 0, .int .i64 0, .slice none 0 0, .slice none 0 0] 121 (0, 0))
theorem Zx.step {RX : Nat} (h : Zx V RX LB) (hb : Below V.heap.size V V') : Zx V' RX LB := ⟨h.1, (keepb h.2 hb).out⟩
theorem Zx.draw {RX : Nat} (h : Zx V RX LB) (hc : Chg V V' SB (SB + 1)) (hl : SB < LB) : Zx V' RX LB := ⟨h.1, hc.keep1 h.2 (by have := h.1; omega)⟩
theorem Zx.new (hl : LB < V.heap.size) : Zx (V.alloc (.cells #[.int .i64 0, .int .i64 0, .slice none 0 0, .slice none 0 0] 121)) V.heap.size LB := ⟨hl, heap_alloc_new _ _⟩

/-- The result written: laid behind the call. -/
theorem Lr.boxA (h : Lr w v V SB ca cn cc t RB LB ta n tc ga m gc ss gs) {a0 a1 : Option Addr} {n' c0 m' c1 : Nat} {c i : Int} (hr : ∃ base, v.heap.size ≤ base ∧ V.ownsRow base 9 1 (.slice a0 n' c0) n' (ss'.map Value.string) ∧ V.ownsRow base 130 2 (.slice a1 m' c1) m' (gcells gs')) :
    Hid (Lr w v (V.alloc (.cells #[.int .i64 c, .int .i64 i, .slice a0 n' c0, .slice a1 m' c1] 121)) SB ca cn cc t RB LB ta n tc ga m gc ss gs) ∧
    Hid (∃ base, v.heap.size ≤ base ∧ (V.alloc (.cells #[.int .i64 c, .int .i64 i, .slice a0 n' c0, .slice a1 m' c1] 121)).ownsRow base 9 1 (.slice a0 n' c0) n' (ss'.map Value.string) ∧ (V.alloc (.cells #[.int .i64 c, .int .i64 i, .slice a0 n' c0, .slice a1 m' c1] 121)).ownsRow base 130 2 (.slice a1 m' c1) m' (gcells gs')) ∧
    Hid ((V.alloc (.cells #[.int .i64 c, .int .i64 i, .slice a0 n' c0, .slice a1 m' c1] 121)).heap[V.heap.size]? = some (.cells #[.int .i64 c, .int .i64 i, .slice a0 n' c0, .slice a1 m' c1] 121 (0, 0))) := by
  obtain ⟨base, hb, h1, h2⟩ := hr
  exact ⟨h.step (below_box _), ⟨base, hb, h1.alloc _, h2.alloc _⟩, heap_alloc_new _ _⟩

/-- The result written: laid ahead of the call. -/
theorem Lr.boxZ (h : Lr w v V SB ca cn cc t RB LB ta n tc ga m gc ss gs) {RX : Nat} (hz : Zx V RX LB) {a0 a1 : Option Addr} {n' c0 m' c1 : Nat} (c i : Int) (hr : ∃ base, v.heap.size ≤ base ∧ V.ownsRow base 9 1 (.slice a0 n' c0) n' (ss'.map Value.string) ∧ V.ownsRow base 130 2 (.slice a1 m' c1) m' (gcells gs')) :
    Hid (Lr w v ((((V.setCell ⟨RX, 0, none⟩ (.int .i64 c)).setCell ⟨RX, 1, none⟩ (.int .i64 i)).setCell ⟨RX, 2, none⟩ (.slice a0 n' c0)).setCell ⟨RX, 3, none⟩ (.slice a1 m' c1)) SB ca cn cc t RB LB ta n tc ga m gc ss gs) ∧
    Hid (∃ base, v.heap.size ≤ base ∧ ((((V.setCell ⟨RX, 0, none⟩ (.int .i64 c)).setCell ⟨RX, 1, none⟩ (.int .i64 i)).setCell ⟨RX, 2, none⟩ (.slice a0 n' c0)).setCell ⟨RX, 3, none⟩ (.slice a1 m' c1)).ownsRow base 9 1 (.slice a0 n' c0) n' (ss'.map Value.string) ∧ ((((V.setCell ⟨RX, 0, none⟩ (.int .i64 c)).setCell ⟨RX, 1, none⟩ (.int .i64 i)).setCell ⟨RX, 2, none⟩ (.slice a0 n' c0)).setCell ⟨RX, 3, none⟩ (.slice a1 m' c1)).ownsRow base 130 2 (.slice a1 m' c1) m' (gcells gs')) ∧
    Hid (((((V.setCell ⟨RX, 0, none⟩ (.int .i64 c)).setCell ⟨RX, 1, none⟩ (.int .i64 i)).setCell ⟨RX, 2, none⟩ (.slice a0 n' c0)).setCell ⟨RX, 3, none⟩ (.slice a1 m' c1)).heap[RX]? = some (.cells #[.int .i64 c, .int .i64 i, .slice a0 n' c0, .slice a1 m' c1] 121 (0, 0))) := by
  obtain ⟨base, hb, h1, h2⟩ := hr
  have ho := h.ord
  have hz1 := hz.1
  have g1 : (V.setCell ⟨RX, 0, none⟩ (.int .i64 c)).heap[RX]? = some (.cells #[.int .i64 c, .int .i64 0, .slice none 0 0, .slice none 0 0] 121 (0, 0)) := by
    have := Joins.block_setCell (i := 0) hz.2 (.int .i64 c)
    simpa using this
  have g2 : ((V.setCell ⟨RX, 0, none⟩ (.int .i64 c)).setCell ⟨RX, 1, none⟩ (.int .i64 i)).heap[RX]? = some (.cells #[.int .i64 c, .int .i64 i, .slice none 0 0, .slice none 0 0] 121 (0, 0)) := by
    have := Joins.block_setCell (i := 1) g1 (.int .i64 i)
    simpa using this
  have g3 : (((V.setCell ⟨RX, 0, none⟩ (.int .i64 c)).setCell ⟨RX, 1, none⟩ (.int .i64 i)).setCell ⟨RX, 2, none⟩ (.slice a0 n' c0)).heap[RX]? = some (.cells #[.int .i64 c, .int .i64 i, .slice a0 n' c0, .slice none 0 0] 121 (0, 0)) := by
    have := Joins.block_setCell (i := 2) g2 (.slice a0 n' c0)
    simpa using this
  have g4 : ((((V.setCell ⟨RX, 0, none⟩ (.int .i64 c)).setCell ⟨RX, 1, none⟩ (.int .i64 i)).setCell ⟨RX, 2, none⟩ (.slice a0 n' c0)).setCell ⟨RX, 3, none⟩ (.slice a1 m' c1)).heap[RX]? = some (.cells #[.int .i64 c, .int .i64 i, .slice a0 n' c0, .slice a1 m' c1] 121 (0, 0)) := by
    have := Joins.block_setCell (i := 3) g3 (.slice a1 m' c1)
    simpa using this
  have kp : ∀ b, b ≠ RX → ((((V.setCell ⟨RX, 0, none⟩ (.int .i64 c)).setCell ⟨RX, 1, none⟩ (.int .i64 i)).setCell ⟨RX, 2, none⟩ (.slice a0 n' c0)).setCell ⟨RX, 3, none⟩ (.slice a1 m' c1)).heap[b]? = V.heap[b]? := fun b hb =>
    (Below.heap_setCell _ ⟨RX, 3, none⟩ _ b hb).trans ((Below.heap_setCell _ ⟨RX, 2, none⟩ _ b hb).trans ((Below.heap_setCell _ ⟨RX, 1, none⟩ _ b hb).trans (Below.heap_setCell _ ⟨RX, 0, none⟩ _ b hb)))
  have rw4 : ∀ {base : Nat} {e : TypeId} {size k : Nat} {u : Value} {xs : List Value}, V.ownsRow base e size u k xs → e ≠ 121 → ((((V.setCell ⟨RX, 0, none⟩ (.int .i64 c)).setCell ⟨RX, 1, none⟩ (.int .i64 i)).setCell ⟨RX, 2, none⟩ (.slice a0 n' c0)).setCell ⟨RX, 3, none⟩ (.slice a1 m' c1)).ownsRow base e size u k xs := fun h he =>
    row_set_other (row_set_other (row_set_other (row_set_other h hz.2 he _) g1 he _) g2 he _) g3 he _
  have hsb := h.src.sb
  have hvs := h.chg.size
  refine ⟨⟨⟨(kp SB (by omega)).trans h.src.box, (((h.src.bel.setCell (p := ⟨RX, 0, none⟩) (show w.heap.size ≤ RX by omega) _).setCell (p := ⟨RX, 1, none⟩) (show w.heap.size ≤ RX by omega) _).setCell (p := ⟨RX, 2, none⟩) (show w.heap.size ≤ RX by omega) _).setCell (p := ⟨RX, 3, none⟩) (show w.heap.size ≤ RX by omega) _, hsb⟩, ?_, (kp LB (by omega)).trans h.box, (kp RB (by omega)).trans h.res, rw4 h.rs (by decide), rw4 h.rg (by decide), h.fine, ho⟩, ⟨base, hb, rw4 h1 (by decide), rw4 h2 (by decide)⟩, g4⟩
  exact ⟨h.chg.os, h.chg.tape, h.chg.output, by simpa using hvs, fun b hb hn => (kp b (by omega)).trans (h.chg.block b hb hn)⟩
theorem Lr.boxA4 (h : Lr w v V SB ca cn cc t RB LB ta n tc ga m gc ss gs) {a0 a1 : Option Addr} {n' c0 m' c1 : Nat} (c i : Int) (hr : ∃ base, v.heap.size ≤ base ∧ V.ownsRow base 9 1 (.slice a0 n' c0) n' (ss'.map Value.string) ∧ V.ownsRow base 130 2 (.slice a1 m' c1) m' (gcells gs')) :
    ∃ W4, W4 = (V.alloc (.cells #[.int .i64 c, .int .i64 i, .slice a0 n' c0, .slice a1 m' c1] 121)) ∧ Hid (Lr w v W4 SB ca cn cc t RB LB ta n tc ga m gc ss gs) ∧
    Hid (∃ base, v.heap.size ≤ base ∧ W4.ownsRow base 9 1 (.slice a0 n' c0) n' (ss'.map Value.string) ∧ W4.ownsRow base 130 2 (.slice a1 m' c1) m' (gcells gs')) ∧
    Hid (W4.heap[V.heap.size]? = some (.cells #[.int .i64 c, .int .i64 i, .slice a0 n' c0, .slice a1 m' c1] 121 (0, 0))) :=
  ⟨_, rfl, h.boxA hr⟩
theorem Lr.boxZ4 (h : Lr w v V SB ca cn cc t RB LB ta n tc ga m gc ss gs) {RX : Nat} (hz : Zx V RX LB) {a0 a1 : Option Addr} {n' c0 m' c1 : Nat} (c i : Int) (hr : ∃ base, v.heap.size ≤ base ∧ V.ownsRow base 9 1 (.slice a0 n' c0) n' (ss'.map Value.string) ∧ V.ownsRow base 130 2 (.slice a1 m' c1) m' (gcells gs')) :
    ∃ W4, W4 = ((((V.setCell ⟨RX, 0, none⟩ (.int .i64 c)).setCell ⟨RX, 1, none⟩ (.int .i64 i)).setCell ⟨RX, 2, none⟩ (.slice a0 n' c0)).setCell ⟨RX, 3, none⟩ (.slice a1 m' c1)) ∧ Hid (Lr w v W4 SB ca cn cc t RB LB ta n tc ga m gc ss gs) ∧
    Hid (∃ base, v.heap.size ≤ base ∧ W4.ownsRow base 9 1 (.slice a0 n' c0) n' (ss'.map Value.string) ∧ W4.ownsRow base 130 2 (.slice a1 m' c1) m' (gcells gs')) ∧
    Hid (W4.heap[RX]? = some (.cells #[.int .i64 c, .int .i64 i, .slice a0 n' c0, .slice a1 m' c1] 121 (0, 0))) :=
  ⟨_, rfl, h.boxZ hz c i hr⟩
end

end Go.Proofs.YthjolannlefbcaaGreatDoor
