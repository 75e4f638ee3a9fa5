/- Members, a transaction and a number that are drawn. -/
import Derived.Test.YtgfhnmjpkanikaaFp
namespace Go.Proofs.Ytgfhnmjpkanikaa
open Go.RowKit Go.Shelf Go.Maps Go.WideMaps

theorem iatF5 {V : World} {A : Nat} {a b c d e : Int} (h : V.heap[A]? = some (.cells #[.int .i64 a, .int .i64 b, .int .i64 c, .int .i64 d, .int .i64 e] 2 (0, 0))) : IAt V (some ⟨A, 0, none⟩) 5 [a, b, c, d, e] := by
  refine ⟨rfl, .inr ⟨A, 0, rfl, lt_of_block h, fun j hj => ?_⟩⟩
  rw [Nat.zero_add]
  unfold World.cell?
  rw [h]
  match j, hj with
  | 0, _ => rfl
  | 1, _ => rfl
  | 2, _ => rfl
  | 3, _ => rfl
  | 4, _ => rfl
theorem four_far {W : World} {b c : Nat} (h : c ≠ b) (v0 v1 v2 v3 : Value) : ((((W.setCell ⟨b, 0, none⟩ v0).setCell ⟨b, 1, none⟩ v1).setCell ⟨b, 2, none⟩ v2).setCell ⟨b, 3, none⟩ v3).heap[c]? = W.heap[c]? :=
  (Below.heap_setCell _ ⟨b, 3, none⟩ _ c h).trans ((Below.heap_setCell _ ⟨b, 2, none⟩ _ c h).trans ((Below.heap_setCell _ ⟨b, 1, none⟩ _ c h).trans (Below.heap_setCell _ ⟨b, 0, none⟩ _ c h)))
theorem four_box {W : World} {b : Nat} {c0 c1 c2 c3 : Value} {t : TypeId} (h : W.heap[b]? = some (.cells #[c0, c1, c2, c3] t (0, 0))) (v0 v1 v2 v3 : Value) : ((((W.setCell ⟨b, 0, none⟩ v0).setCell ⟨b, 1, none⟩ v1).setCell ⟨b, 2, none⟩ v2).setCell ⟨b, 3, none⟩ v3).heap[b]? = some (.cells #[v0, v1, v2, v3] t (0, 0)) := by
  have h1 : (W.setCell ⟨b, 0, none⟩ v0).heap[b]? = some (.cells #[v0, c1, c2, c3] t (0, 0)) := by simpa using Joins.block_setCell (i := 0) h v0
  have h2 : ((W.setCell ⟨b, 0, none⟩ v0).setCell ⟨b, 1, none⟩ v1).heap[b]? = some (.cells #[v0, v1, c2, c3] t (0, 0)) := by simpa using Joins.block_setCell (i := 1) h1 v1
  have h3 : (((W.setCell ⟨b, 0, none⟩ v0).setCell ⟨b, 1, none⟩ v1).setCell ⟨b, 2, none⟩ v2).heap[b]? = some (.cells #[v0, v1, v2, c3] t (0, 0)) := by simpa using Joins.block_setCell (i := 2) h2 v2
  simpa using Joins.block_setCell (i := 3) h3 v3
theorem OOwn.low {V : World} {lo lo' hi n : Nat} {u : Value} {f : Nat → Ou} {kv : Nat → Value} (h : OOwn V lo hi u n f kv) (hle : lo' ≤ lo) : OOwn V lo' hi u n f kv := by
  obtain ⟨xs, h1, h2⟩ := h.row
  exact ⟨⟨xs, Joins.ownsRow_le h1 hle, h2⟩, h.top, fun j hj => ⟨Joins.ownsRow_le (h.keys j hj).1 hle, (h.keys j hj).2⟩, h.apart⟩
/-- A transaction in a block of its own and members, all in memory of their own. -/
structure TmS (w V : World) (SB R : Nat) (ca : Option Addr) (cn cc t T : Nat) (k f : Int) (ia : Option Addr) (ic : Nat) (rs : List (Int × Int)) (oa : Option Addr) (oc : Nat) (os : List Ou) (g lc : Nat) (ms : List Mb) (c : Array Value) : Prop where
  src : Src w V SB ca cn cc t
  box : V.heap[T]? = some (.cells #[.int .i64 k, .int .i64 f, .slice ia rs.length ic, .slice oa os.length oc] 28 (0, 0))
  res : V.heap[R]? = some (.cells c 28 (0, 0))
  ref : V.ownsRow (SB + 1) 36 2 (.slice ia rs.length ic) rs.length (gcells rs)
  out : ∃ kv, OOwn V (SB + 1) V.heap.size (.slice oa os.length oc) os.length (fun j => os.getD j O0) kv
  mem : V.ownsRow (SB + 1) 38 3 (.slice (some ⟨g, 0, none⟩) ms.length lc) ms.length (mcells ms)
  ord : SB < T
  rb : R < SB ∧ R = w.heap.size
section
variable {w V V' : World} {SB R : Nat} {ca : Option Addr} {cn cc t t' T : Nat} {k f k' f' : Int} {ia ia' : Option Addr} {ic ic' : Nat} {rs rs' : List (Int × Int)} {oa oa' : Option Addr} {oc oc' : Nat} {os os' : List Ou} {g lc : Nat} {ms : List Mb} {c : Array Value}
theorem TmS.draw (H : TmS w V SB R ca cn cc t T k f ia ic rs oa oc os g lc ms c) (hS : Src w V' SB ca cn cc t') (hc : Chg V V' SB (SB + 1)) : TmS w V' SB R ca cn cc t' T k f ia ic rs oa oc os g lc ms c := by
  obtain ⟨kv, hk⟩ := H.out
  have := H.ord
  have := H.rb
  exact ⟨hS, hc.keep1 H.box (by omega), hc.keep1 H.res (by omega), hc.row1 H.ref (by omega), ⟨kv, (hk.chg hc (.inr (by omega))).up hc.size⟩, hc.row1 H.mem (by omega), H.ord, H.rb⟩
theorem TmS.step (H : TmS w V SB R ca cn cc t T k f ia ic rs oa oc os g lc ms c) (hb : Below V.heap.size V V') : TmS w V' SB R ca cn cc t T k f ia ic rs oa oc os g lc ms c := H.draw (H.src.step hb) (Chg.of_below hb _ _)
/-- The transaction is another one, in memory that was laid since. -/
theorem TmS.whole (H : TmS w V SB R ca cn cc t T k f ia ic rs oa oc os g lc ms c) (hN : OwT w V V' SB ca cn cc t' ia' ic' rs' oa' oc' os') : TmS w ((((V'.setCell ⟨T, 0, none⟩ (.int .i64 k')).setCell ⟨T, 1, none⟩ (.int .i64 f')).setCell ⟨T, 2, none⟩ (.slice ia' rs'.length ic')).setCell ⟨T, 3, none⟩ (.slice oa' os'.length oc')) SB R ca cn cc t' T k' f' ia' ic' rs' oa' oc' os' g lc ms c := by
  have H1 := H.draw hN.src hN.chg
  have hso := H.src.lt
  obtain ⟨kv, hk⟩ := hN.out
  have ho := H.ord
  have hrb := H.rb
  have q : ∀ {e : TypeId} {s n : Nat} {u : Value} {xs : List Value}, e ≠ 28 → V'.ownsRow (SB + 1) e s u n xs → ((((V'.setCell ⟨T, 0, none⟩ (.int .i64 k')).setCell ⟨T, 1, none⟩ (.int .i64 f')).setCell ⟨T, 2, none⟩ (.slice ia' rs'.length ic')).setCell ⟨T, 3, none⟩ (.slice oa' os'.length oc')).ownsRow (SB + 1) e s u n xs := fun he h => by
    have hne := row_neT he h H1.box
    have hne' : ∀ {b}, Value.ownBlock _ = some b → b ≠ T := fun {b} e => hne b e
    exact ownsRow_setCell_other (ownsRow_setCell_other (ownsRow_setCell_other (ownsRow_setCell_other h (a := ⟨T, 0, none⟩) (fun e => hne _ e rfl) _) (a := ⟨T, 1, none⟩) (fun e => hne _ e rfl) _) (a := ⟨T, 2, none⟩) (fun e => hne _ e rfl) _) (a := ⟨T, 3, none⟩) (fun e => hne _ e rfl) _
  have hkk := hk.low (lo' := SB + 1) hso
  obtain ⟨xs, k1, k2⟩ := hkk.row
  have hT : w.heap.size ≤ T := by omega
  refine ⟨⟨(four_far (by omega) _ _ _ _).trans hN.src.box, (((hN.src.bel.setCell (p := ⟨T, 0, none⟩) hT _).setCell (p := ⟨T, 1, none⟩) hT _).setCell (p := ⟨T, 2, none⟩) hT _).setCell (p := ⟨T, 3, none⟩) hT _, hN.src.sb⟩, four_box H1.box _ _ _ _, (four_far (by omega) _ _ _ _).trans H1.res, q (by decide) (Joins.ownsRow_le hN.ref hso), ⟨kv, ⟨xs, q (by decide) k1, k2⟩, fun b hb => by simpa using hkk.top b hb, fun j hj => ⟨q (by decide) (hkk.keys j hj).1, fun b hb => by simpa using (hkk.keys j hj).2 b hb⟩, hkk.apart⟩, q (by decide) H1.mem, ho, hrb⟩
theorem TmS.putT (H : TmS w V SB R ca cn cc t T k f ia ic rs oa oc os g lc ms c) {i : Nat} {u : Value} (hr : V.ownsRow (SB + 1) 36 2 (.slice ia' rs'.length ic') rs'.length (gcells rs')) (hq : (#[.int .i64 k, .int .i64 f, .slice ia rs.length ic, .slice oa os.length oc] : Array Value).setIfInBounds i u = #[.int .i64 k', .int .i64 f', .slice ia' rs'.length ic', .slice oa os.length oc]) : TmS w (V.setCell ⟨T, i, none⟩ u) SB R ca cn cc t T k' f' ia' ic' rs' oa oc os g lc ms c := by
  obtain ⟨kv, hk⟩ := H.out
  have ho := H.ord
  have hrb := H.rb
  have hT : w.heap.size ≤ T := by omega
  have hb := Joins.block_setCell (i := i) H.box u
  rw [hq] at hb
  exact ⟨⟨(Below.heap_setCell _ ⟨T, i, none⟩ _ SB (show SB ≠ T by omega)).trans H.src.box, H.src.bel.setCell (p := ⟨T, i, none⟩) hT _, H.src.sb⟩, hb, (Below.heap_setCell _ ⟨T, i, none⟩ _ R (show R ≠ T by omega)).trans H.res, ownsRow_setCell_other hr (a := ⟨T, i, none⟩) (fun e => row_neT (by decide) hr H.box _ e rfl) _, ⟨kv, by simpa using setT_oown (i := i) (z := u) hk H.box⟩, ownsRow_setCell_other H.mem (a := ⟨T, i, none⟩) (fun e => row_neT (by decide) H.mem H.box _ e rfl) _, ho, hrb⟩
theorem TmS.setF (H : TmS w V SB R ca cn cc t T k f ia ic rs oa oc os g lc ms c) (f' : Int) : TmS w (V.setCell ⟨T, 1, none⟩ (.int .i64 f')) SB R ca cn cc t T k f' ia ic rs oa oc os g lc ms c := H.putT H.ref (by simp)
theorem TmS.setI (H : TmS w V SB R ca cn cc t T k f ia ic rs oa oc os g lc ms c) (hr : V.ownsRow (SB + 1) 36 2 (.slice ia' rs'.length ic') rs'.length (gcells rs')) : TmS w (V.setCell ⟨T, 2, none⟩ (.slice ia' rs'.length ic')) SB R ca cn cc t T k f ia' ic' rs' oa oc os g lc ms c := H.putT hr (by simp)
theorem TmS.out4 {b12 : Bool} (H : TmS w V SB R ca cn cc t T k f ia ic rs oa oc os g lc ms (if b12 = true then #[.int .i64 k, .int .i64 f, .slice ia rs.length ic, .slice oa os.length oc] else #[.int .i64 0, .int .i64 0, .slice none 0 0, .slice none 0 0])) : TmS w ((((V.setCell ⟨R, 0, none⟩ (.int .i64 k)).setCell ⟨R, 1, none⟩ (.int .i64 f)).setCell ⟨R, 2, none⟩ (.slice ia rs.length ic)).setCell ⟨R, 3, none⟩ (.slice oa os.length oc)) SB R ca cn cc t T k f ia ic rs oa oc os g lc ms #[.int .i64 k, .int .i64 f, .slice ia rs.length ic, .slice oa os.length oc] := by
  obtain ⟨kv, hk⟩ := H.out
  have ho := H.ord
  have hrb := H.rb
  have hsl := H.src.lt
  have hR : w.heap.size ≤ R := by omega
  have hRS : R < SB + 1 := by omega
  have q : ∀ {e : TypeId} {s n : Nat} {u : Value} {xs : List Value}, V.ownsRow (SB + 1) e s u n xs → ((((V.setCell ⟨R, 0, none⟩ (.int .i64 k)).setCell ⟨R, 1, none⟩ (.int .i64 f)).setCell ⟨R, 2, none⟩ (.slice ia rs.length ic)).setCell ⟨R, 3, none⟩ (.slice oa os.length oc)).ownsRow (SB + 1) e s u n xs := fun h => ownsRow_setCell_below (ownsRow_setCell_below (ownsRow_setCell_below (ownsRow_setCell_below h (a := ⟨R, 0, none⟩) hRS _) (a := ⟨R, 1, none⟩) hRS _) (a := ⟨R, 2, none⟩) hRS _) (a := ⟨R, 3, none⟩) hRS _
  obtain ⟨xs, k1, k2⟩ := hk.row
  refine ⟨⟨(four_far (by omega) _ _ _ _).trans H.src.box, (((H.src.bel.setCell (p := ⟨R, 0, none⟩) hR _).setCell (p := ⟨R, 1, none⟩) hR _).setCell (p := ⟨R, 2, none⟩) hR _).setCell (p := ⟨R, 3, none⟩) hR _, H.src.sb⟩, (four_far (by omega) _ _ _ _).trans H.box, ?_, q H.ref, ⟨kv, ⟨xs, q k1, k2⟩, fun b hb => by simpa using hk.top b hb, fun j hj => ⟨q (hk.keys j hj).1, fun b hb => by simpa using (hk.keys j hj).2 b hb⟩, hk.apart⟩, q H.mem, ho, hrb⟩
  have hres := H.res
  split at hres
  · exact four_box hres _ _ _ _
  · exact four_box hres _ _ _ _
end
/-- What is drawn for TakeMembers. -/
def OutTm (w w' : World) (e : Ending) : Prop :=
  ∃ (ms : List Mb) (g lc : Nat) (k f : Int) (ia : Option Addr) (ic : Nat) (rs : List (Int × Int)) (oa : Option Addr) (oc : Nat) (os : List Ou) (id : Int), e = .returned (.tuple #[.slice (some ⟨g, 0, none⟩) ms.length lc, .agg #[.int .i64 k, .int .i64 f, .slice ia rs.length ic, .slice oa os.length oc], .int .i64 id]) ∧ ms.length ≤ 9 ∧ Hid (KTB k f rs os) ∧ Hid (w'.ownsRow w.heap.size 38 3 (.slice (some ⟨g, 0, none⟩) ms.length lc) ms.length (mcells ms)) ∧ Hid (w'.ownsRow w.heap.size 36 2 (.slice ia rs.length ic) rs.length (gcells rs)) ∧ Hid (∃ kv, OOwn w' w.heap.size w'.heap.size (.slice oa os.length oc) os.length (fun j => os.getD j O0) kv) ∧ Hid (Below w.heap.size w w')
theorem TmS.ret {w V : World} {SB R : Nat} {ca : Option Addr} {cn cc t T : Nat} {k f : Int} {ia : Option Addr} {ic : Nat} {rs : List (Int × Int)} {oa : Option Addr} {oc : Nat} {os : List Ou} {g lc : Nat} {ms : List Mb} {c : Array Value} {id : Int} (H : TmS w V SB R ca cn cc t T k f ia ic rs oa oc os g lc ms c) (hk : KTB k f rs os) (hm : ms.length ≤ 9) : OutTm w V (.returned (.tuple #[.slice (some ⟨g, 0, none⟩) ms.length lc, .agg #[.int .i64 k, .int .i64 f, .slice ia rs.length ic, .slice oa os.length oc], .int .i64 id])) := by
  have hle : w.heap.size ≤ SB + 1 := by have := H.rb; omega
  obtain ⟨kv, ho⟩ := H.out
  exact ⟨ms, g, lc, k, f, ia, ic, rs, oa, oc, os, id, rfl, hm, hk, Joins.ownsRow_le H.mem hle, Joins.ownsRow_le H.ref hle, ⟨kv, ho.low hle⟩, H.src.bel⟩
/-- What holds in the midst of the last drawing. -/
structure R14 (w : World) (SB R : Nat) (ca : Option Addr) (cn cc t0 T : Nat) (k f : Int) (ia : Option Addr) (ic : Nat) (rs : List (Int × Int)) (oa : Option Addr) (oc : Nat) (os : List Ou) (g lc : Nat) (ms : List Mb) (V : World) (b0 b1 b2 b3 b4 b5 b6 b7 b8 b9 b10 b11 b12 b13 : Bool) (x0 x1 x2 x3 x4 x5 x6 x7 x8 x9 x10 x11 x12 x13 : Value) : Prop where
  g0 : b0 = true → x0 = .slice (some ⟨g, 0, none⟩) ms.length lc
  g1 : b1 = true → x1 = .agg #[.int .i64 k, .int .i64 f, .slice ia rs.length ic, .slice oa os.length oc]
  g2 : b2 = true → x2 = .pointer (some ⟨SB, 0, none⟩)
  g3 : b3 = true → x3 = .pointer (some ⟨SB, 0, none⟩)
  g6 : b6 = true → x6 = .pointer (some ⟨SB, 0, none⟩)
  g11 : b11 = true → x11 = .slice (some ⟨g, 0, none⟩) ms.length lc
  o4_3 : b4 = true → b3 = true
  o5_4 : b5 = true → b4 = true
  o7_6 : b7 = true → b6 = true
  o7_4 : b7 = true → b4 = true
  o8_7 : b8 = true → b7 = true
  o9_5 : b9 = true → b5 = true
  o9_8 : b9 = true → b8 = true
  o10_2 : b10 = true → b2 = true
  o10_9 : b10 = true → b9 = true
  o11_0 : b11 = true → b0 = true
  o12_1 : b12 = true → b1 = true
  o13_10 : b13 = true → b10 = true
  m0 : ∃ t1, t1 ≤ t0 + b4.toNat + b7.toNat + b10.toNat ∧ TmS w V SB R ca cn cc t1 T k f ia ic rs oa oc os g lc ms (if b12 = true then #[.int .i64 k, .int .i64 f, .slice ia rs.length ic, .slice oa os.length oc] else #[.int .i64 0, .int .i64 0, .slice none 0 0, .slice none 0 0])
  e4 : b4 = true → ∃ z, x4 = .int .i64 z ∧ 0 ≤ z ∧ z < 9
  e5 : b5 = true → ∃ z, x5 = .int .i64 z
  e7 : b7 = true → ∃ z, x7 = .int .i64 z ∧ 0 ≤ z ∧ z < 9
  e8 : b8 = true → ∃ z, x8 = .int .i64 z
  e9 : b9 = true → b10 = false → ∃ A z1 z2, x9 = .slice (some ⟨A, 0, none⟩) 5 5 ∧ SB < A ∧ A ≠ R ∧ V.heap[A]? = some (.cells #[.int .i64 z1, .int .i64 z2, .int .i64 2, .int .i64 61, .int .i64 0] 2 (0, 0))
  e10 : b10 = true → ∃ z, x10 = .int .i64 z
  e13 : b13 = true → ∃ z, x13 = .int .i64 z

theorem tm_start {w v1 v2 v3 : World} {ca : Option Addr} {cn cc t2 t3 : Nat} {k f : Int} {ia : Option Addr} {ic : Nat} {rs : List (Int × Int)} {oa : Option Addr} {oc : Nat} {os : List Ou} {g lc : Nat} {ms : List Mb} (hS : Src w v1 (w.heap.size + 1) ca cn cc 0) (hR : v1.heap[w.heap.size]? = some (.cells #[.int .i64 0, .int .i64 0, .slice none 0 0, .slice none 0 0] 28 (0, 0))) (hM : MdS w v1 v2 (w.heap.size + 1) ca cn cc t2 (some ⟨g, 0, none⟩) lc ms) (hO : OwT w v2 v3 (w.heap.size + 1) ca cn cc t3 ia ic rs oa oc os) : TmS w (v3.alloc (.cells #[.int .i64 k, .int .i64 f, .slice ia rs.length ic, .slice oa os.length oc] 28)) (w.heap.size + 1) w.heap.size ca cn cc t3 v3.heap.size k f ia ic rs oa oc os g lc ms #[.int .i64 0, .int .i64 0, .slice none 0 0, .slice none 0 0] := by
  have hs1 := hS.lt
  have hs2 := hM.src.lt
  have hb := below_box (w := v3) (.cells #[.int .i64 k, .int .i64 f, .slice ia rs.length ic, .slice oa os.length oc] 28)
  have hM3 := (hM.draw hO.src hO.chg).step hb
  obtain ⟨kv, hk⟩ := hO.out
  have hso := hO.src.lt
  have hR2 := hM.chg.keep1 hR (by omega)
  have hR3 := hO.chg.keep1 hR2 (by omega)
  exact ⟨hM3.src, heap_alloc_new _ _, (keepb hR3 hb).out, Joins.ownsRow_le (hO.ref.alloc _) (by omega), ⟨kv, ((hk.below hb).low (by omega)).up (by simp)⟩, Joins.ownsRow_le hM3.own (by omega), hso, by omega, rfl⟩
theorem mem_cells {V : World} {base g lc j : Nat} {ms : List Mb} (h : V.ownsRow base 38 3 (.slice (some ⟨g, 0, none⟩) ms.length lc) ms.length (mcells ms)) (hj : j < ms.length) : V.cell? ⟨g, j * 3, none⟩ = some (.int .i64 (ms.getD j Z3).1) ∧ V.cell? ⟨g, j * 3 + 1, none⟩ = some (.int .i64 (ms.getD j Z3).2.1) ∧ V.cell? ⟨g, j * 3 + 2, none⟩ = some (.int .i64 (ms.getD j Z3).2.2) := by
  have hx := h.1
  rw [mcells_length] at hx
  obtain ⟨a0, a1, a2⟩ := mcells_at ms j hj
  exact ⟨(h.cellAt _ (by omega)).trans a0, (h.cellAt _ (by omega)).trans a1, (h.cellAt _ (by omega)).trans a2⟩
theorem one_ref {v6 : World} {SB : Nat} {p : Int × Int} (h : SB < v6.heap.size) : (v6.alloc (.cells #[.int .i64 p.1, .int .i64 p.2] 36)).ownsRow (SB + 1) 36 2 (.slice (some ⟨v6.heap.size, 0, none⟩) [p].length 1) [p].length (gcells [p]) :=
  ⟨rfl, .inr ⟨v6.heap.size, 1, _, rfl, h, heap_alloc_new _ _, Nat.le_refl _, by unfold maxLen; omega, rfl, rfl⟩⟩
set_option maxRecDepth 20000 in
set_option maxHeartbeats 8000000 in
theorem drawTakeMembers_any (ca : Option Addr) (cn cc : Nat) (l0 : List Int) (w : World) (hcn : cn ≤ 1048576) (hB : BAt w ca cn l0) :
    Calls Try.prog 5 #[.slice ca cn cc] w fun e w' => OutTm w w' e := by
  have HBA : Hid (BAt w ca cn l0) := hB
  have hs := l1Source_any ca cn cc (w.alloc (.cells #[.int .i64 0, .int .i64 0, .slice none 0 0, .slice none 0 0] 28))
  clear hB
  go_enter Try.func5, Try.ntmps5
  go_upto_if 15 with (first
    | (go_at_call 12; (with_reducible refine hs.mono ?_); clear hs; rintro e v1 ⟨rfl, hS⟩; rw [show (w.alloc (.cells #[.int .i64 0, .int .i64 0, .slice none 0 0, .slice none 0 0] 28)).heap.size = w.heap.size + 1 by simp] at hS ⊢; have HS1 : Hid (Src w v1 (w.heap.size + 1) ca cn cc 0) := ⟨hS.box, (below_box _).trans (hS.bel.mono (by simp)), by omega⟩; have HRB : Hid (v1.heap[w.heap.size]? = some (.cells #[.int .i64 0, .int .i64 0, .slice none 0 0, .slice none 0 0] 28 (0, 0))) := (hS.bel.block w.heap.size (by simp)).trans (heap_alloc_new _ _); clear hS; have h1 := l6Bent_any (w.heap.size + 1) cn cc 0 ca l0 w v1 (by omega) hcn HBA.out HS1.out)
    | (go_at_call 13; (with_reducible refine h1.mono ?_); clear h1; rintro e v2 ⟨ms, g, lc, t2, rfl, ht2, hm9, HD2⟩; have h2 := l3Draw_any (w.heap.size + 1) cn cc t2 ca l0 w v2 (by omega) hcn HBA.out HD2.out.src)
    | (go_at_call 14; (with_reducible refine h2.mono ?_); clear h2; rintro e v3 ⟨k, f, ia, ic, rs, oa, oc, os, t3, rfl, ht3, HK3, HO3⟩; have HKT : Hid (KTB k f rs os) := ⟨by have := HK3.out.2.1.1; omega, by have := HK3.out.2.2.1; omega, fun o ho => (by have := (HK3.out.2.2.2 o ho).2.1; omega)⟩; have HD3 : Hid (TmS w (v3.alloc (.cells #[.int .i64 k, .int .i64 f, .slice ia rs.length ic, .slice oa os.length oc] 28)) (w.heap.size + 1) w.heap.size ca cn cc t3 v3.heap.size k f ia ic rs oa oc os g lc ms #[.int .i64 0, .int .i64 0, .slice none 0 0, .slice none 0 0]) := tm_start HS1.out HRB.out HD2.out HO3.out; have hch := l1Chance_any (w.heap.size + 1) cn cc t3 ca l0 8 w (v3.alloc (.cells #[.int .i64 k, .int .i64 f, .slice ia rs.length ic, .slice oa os.length oc] 28)) (by omega) (by omega) hcn HBA.out HD3.out.src)
    | (go_at_call 15; (with_reducible refine hch.mono ?_); clear hch; rintro e v4 ⟨b, rfl, hS4, hc4⟩; have HD4 : Hid (TmS w v4 (w.heap.size + 1) w.heap.size ca cn cc (t3 + 1) v3.heap.size k f ia ic rs oa oc os g lc ms #[.int .i64 0, .int .i64 0, .slice none 0 0, .slice none 0 0]) := HD3.out.draw hS4 hc4; clear hS4 hc4))
  obtain ⟨T, hT⟩ : ∃ x, x = v3.heap.size := ⟨_, rfl⟩
  rw [← hT] at HD4 ⊢
  obtain ⟨SB, hSB⟩ : ∃ x, x = w.heap.size + 1 := ⟨_, rfl⟩
  rw [← hSB] at HD4 ⊢
  obtain ⟨R, hR⟩ : ∃ x, x = w.heap.size := ⟨_, rfl⟩
  rw [← hR] at HD4 ⊢
  have htb : t3 ≤ 50 := by omega
  clear HD3 HO3 HK3 HD2 HS1 HRB hT hSB hR ht2 ht3
  go_cut [5, 6, 7] (fun s l q wc => s = .pointer (some ⟨SB, 0, none⟩) ∧ l = .slice (some ⟨g, 0, none⟩) ms.length lc ∧ q = .pointer (some ⟨T, 0, none⟩) ∧ Hid (∃ (t1 : Nat) (k f : Int) (ia : Option Addr) (ic : Nat) (rs : List (Int × Int)) (oa : Option Addr) (oc : Nat) (os : List Ou), t1 ≤ 150 ∧ KTB k f rs os ∧ TmS w wc SB R ca cn cc t1 T k f ia ic rs oa oc os g lc ms #[.int .i64 0, .int .i64 0, .slice none 0 0, .slice none 0 0]))
  case first =>
    cases b
    · go_wp2
      go_meet
      exact ⟨rfl, rfl, rfl, t3 + 1, k, f, ia, ic, rs, oa, oc, os, by omega, HKT.out, HD4.out⟩
    · have h5 := l3Bent_any SB cn cc (t3 + 1) ca l0 w v4 (by omega) hcn HBA.out HD4.out.src
      go_wp2_with (first
        | (go_at_call 16; (with_reducible refine h5.mono ?_); clear h5; rintro e v6 ⟨k', f', ia', ic', rs', oa', oc', os', t6, rfl, ht6, HK6, HO6⟩; have HD6 : Hid (TmS w ((((v6.setCell ⟨T, 0, none⟩ (.int .i64 k')).setCell ⟨T, 1, none⟩ (.int .i64 f')).setCell ⟨T, 2, none⟩ (.slice ia' rs'.length ic')).setCell ⟨T, 3, none⟩ (.slice oa' os'.length oc')) SB R ca cn cc t6 T k' f' ia' ic' rs' oa' oc' os' g lc ms #[.int .i64 0, .int .i64 0, .slice none 0 0, .slice none 0 0]) := HD4.out.whole HO6.out; obtain ⟨c0, c1, c2, c3, c4, c5, c6, c7⟩ := cells4 (HD4.out.draw HO6.out.src HO6.out.chg).box))
      go_meet
      exact ⟨rfl, rfl, rfl, t6, k', f', ia', ic', rs', oa', oc', os', by omega, HK6.out, HD6.out⟩
  case rest =>
    clear HD4 HKT
    obtain ⟨rfl, rfl, rfl, HX⟩ := hcut
    obtain ⟨t5, k, f, ia, ic, rs, oa, oc, os, ht5, hKT, hD⟩ := HX.out
    have HD5 : Hid (TmS w wc SB R ca cn cc t5 T k f ia ic rs oa oc os g lc ms #[.int .i64 0, .int .i64 0, .slice none 0 0, .slice none 0 0]) := hD
    have HKT : Hid (KTB k f rs os) := hKT
    clear HX hD hKT
    go_upto_region 6 with fail
    go_cut [5, 6, 7, 29] (fun s l q b wc => s = .pointer (some ⟨SB, 0, none⟩) ∧ l = .slice (some ⟨g, 0, none⟩) ms.length lc ∧ q = .pointer (some ⟨T, 0, none⟩) ∧ ∃ bb : Bool, b = .bool bb ∧ (bb = true → 0 < ms.length) ∧ Hid (∃ (t1 : Nat) (k f : Int) (ia : Option Addr) (ic : Nat) (rs : List (Int × Int)) (oa : Option Addr) (oc : Nat) (os : List Ou), t1 ≤ 180 ∧ KTB k f rs os ∧ TmS w wc SB R ca cn cc t1 T k f ia ic rs oa oc os g lc ms #[.int .i64 0, .int .i64 0, .slice none 0 0, .slice none 0 0]))
    case first =>
      have hx := l1Chance_any SB cn cc t5 ca l0 2 w wc (by omega) (by omega) hcn HBA.out HD5.out.src
      go_wp2_with fail
      refine hx.mono ?_
      rintro e v6 ⟨b, rfl, hS6, hc6⟩
      have HD6 : Hid (TmS w v6 SB R ca cn cc (t5 + 1) T k f ia ic rs oa oc os g lc ms #[.int .i64 0, .int .i64 0, .slice none 0 0, .slice none 0 0]) := HD5.out.draw hS6 hc6
      clear hx hS6 hc6 HD5
      obtain ⟨c0, c1, c2, c3, _⟩ := cells4 HD6.out.box
      cases b
      · go_wp2
        go_meet
        exact ⟨rfl, rfl, rfl, false, rfl, nofun, t5 + 1, k, f, ia, ic, rs, oa, oc, os, by omega, HKT.out, HD6.out⟩
      · by_cases hk : k = 0
        · have hkb : (k != 0) = false := by simp [hk]
          go_wp2
          go_meet
          exact ⟨rfl, rfl, rfl, false, rfl, nofun, t5 + 1, k, f, ia, ic, rs, oa, oc, os, by omega, HKT.out, HD6.out⟩
        · have hkb : (k != 0) = true := by simp [hk]
          by_cases hm : 0 < ms.length
          · have hmi : (0 : Int) < (ms.length : Int) := by omega
            go_wp2
            go_meet
            exact ⟨rfl, rfl, rfl, true, rfl, fun _ => hm, t5 + 1, k, f, ia, ic, rs, oa, oc, os, by omega, HKT.out, HD6.out⟩
          · have hmi : ¬ (0 : Int) < (ms.length : Int) := by omega
            go_wp2
            go_meet
            exact ⟨rfl, rfl, rfl, false, rfl, nofun, t5 + 1, k, f, ia, ic, rs, oa, oc, os, by omega, HKT.out, HD6.out⟩
    case rest =>
      clear HD5 HKT ht5
      obtain ⟨rfl, rfl, rfl, bb, rfl, hbm, HX⟩ := hcut
      obtain ⟨t5, k, f, ia, ic, rs, oa, oc, os, ht5, hKT, hD⟩ := HX.out
      have HD5 : Hid (TmS w wc SB R ca cn cc t5 T k f ia ic rs oa oc os g lc ms #[.int .i64 0, .int .i64 0, .slice none 0 0, .slice none 0 0]) := hD
      have HKT : Hid (KTB k f rs os) := hKT
      clear HX hD hKT
      go_upto_if 29 with fail
      go_cut [5, 6, 7] (fun s l q wc => s = .pointer (some ⟨SB, 0, none⟩) ∧ l = .slice (some ⟨g, 0, none⟩) ms.length lc ∧ q = .pointer (some ⟨T, 0, none⟩) ∧ Hid (∃ (t1 : Nat) (k f : Int) (ia : Option Addr) (ic : Nat) (rs : List (Int × Int)) (oa : Option Addr) (oc : Nat) (os : List Ou), t1 ≤ 200 ∧ KTB k f rs os ∧ TmS w wc SB R ca cn cc t1 T k f ia ic rs oa oc os g lc ms #[.int .i64 0, .int .i64 0, .slice none 0 0, .slice none 0 0]))
      case first =>
        cases bb
        · go_wp2
          go_meet
          exact ⟨rfl, rfl, rfl, t5, k, f, ia, ic, rs, oa, oc, os, by omega, HKT.out, HD5.out⟩
        · have hm := hbm rfl
          have hmi : (0 : Int) < (ms.length : Int) := by omega
          have hx := l1Next_any SB cn cc t5 ca l0 (ms.length : Int) w wc (by omega) (by omega) hcn HBA.out HD5.out.src
          go_wp2_with fail
          refine hx.mono ?_
          rintro e v6 ⟨r, rfl, ⟨a6, b6⟩, hS6, hc6⟩
          have b6' := b6 (by omega)
          obtain ⟨j, hj⟩ : ∃ j : Nat, r = (j : Int) := ⟨r.toNat, by omega⟩
          subst hj
          have hj2 : j < ms.length := by omega
          have HD6 : Hid (TmS w v6 SB R ca cn cc (t5 + 1) T k f ia ic rs oa oc os g lc ms #[.int .i64 0, .int .i64 0, .slice none 0 0, .slice none 0 0]) := HD5.out.draw hS6 hc6
          clear hx hS6 hc6 HD5 b6
          have hml : ms.length ≤ 9 := hm9
          obtain ⟨y0, y1, y2⟩ := mem_cells HD6.out.mem hj2
          obtain ⟨x0, hx0⟩ : ∃ x, x = (ms.getD j Z3).1 := ⟨_, rfl⟩
          rw [← hx0] at y0
          clear hx0 y1 y2
          obtain ⟨c0, c1, c2, c3, c4, c5, c6, c7⟩ := cells4 HD6.out.box
          have HD7 : Hid (TmS w (v6.setCell ⟨T, 1, none⟩ (.int .i64 x0)) SB R ca cn cc (t5 + 1) T k x0 ia ic rs oa oc os g lc ms #[.int .i64 0, .int .i64 0, .slice none 0 0, .slice none 0 0]) := HD6.out.setF _
          go_wp2
          go_meet
          exact ⟨rfl, rfl, rfl, t5 + 1, k, x0, ia, ic, rs, oa, oc, os, by omega, HKT.out, HD7.out⟩
      case rest =>
        clear HD5 HKT ht5 hbm
        obtain ⟨rfl, rfl, rfl, HX⟩ := hcut
        obtain ⟨t5, k, f, ia, ic, rs, oa, oc, os, ht5, hKT, hD⟩ := HX.out
        have HD5 : Hid (TmS w wc SB R ca cn cc t5 T k f ia ic rs oa oc os g lc ms #[.int .i64 0, .int .i64 0, .slice none 0 0, .slice none 0 0]) := hD
        have HKT : Hid (KTB k f rs os) := hKT
        clear HX hD hKT
        go_upto_region 8 with fail
        go_cut [5, 6, 7, 51] (fun s l q b wc => s = .pointer (some ⟨SB, 0, none⟩) ∧ l = .slice (some ⟨g, 0, none⟩) ms.length lc ∧ q = .pointer (some ⟨T, 0, none⟩) ∧ ∃ bb : Bool, b = .bool bb ∧ (bb = true → 0 < ms.length) ∧ Hid (∃ (t1 : Nat) (k f : Int) (ia : Option Addr) (ic : Nat) (rs : List (Int × Int)) (oa : Option Addr) (oc : Nat) (os : List Ou), t1 ≤ 250 ∧ KTB k f rs os ∧ TmS w wc SB R ca cn cc t1 T k f ia ic rs oa oc os g lc ms #[.int .i64 0, .int .i64 0, .slice none 0 0, .slice none 0 0]))
        case first =>
          obtain ⟨c0, c1, c2, c3, _⟩ := cells4 HD5.out.box
          by_cases hm : 0 < ms.length
          · have hmi : (0 : Int) < (ms.length : Int) := by omega
            by_cases hr : 0 < rs.length
            · have hri : (0 : Int) < (rs.length : Int) := by omega
              have hx := l1Chance_any SB cn cc t5 ca l0 3 w wc (by omega) (by omega) hcn HBA.out HD5.out.src
              go_wp2_with fail
              refine hx.mono ?_
              rintro e v6 ⟨b, rfl, hS6, hc6⟩
              have HD6 : Hid (TmS w v6 SB R ca cn cc (t5 + 1) T k f ia ic rs oa oc os g lc ms #[.int .i64 0, .int .i64 0, .slice none 0 0, .slice none 0 0]) := HD5.out.draw hS6 hc6
              go_wp2
              go_meet
              exact ⟨rfl, rfl, rfl, b, rfl, fun _ => hm, t5 + 1, k, f, ia, ic, rs, oa, oc, os, by omega, HKT.out, HD6.out⟩
            · have hri : ¬ (0 : Int) < (rs.length : Int) := by omega
              go_wp2
              go_meet
              exact ⟨rfl, rfl, rfl, false, rfl, nofun, t5, k, f, ia, ic, rs, oa, oc, os, by omega, HKT.out, HD5.out⟩
          · have hmi : ¬ (0 : Int) < (ms.length : Int) := by omega
            go_wp2
            go_meet
            exact ⟨rfl, rfl, rfl, false, rfl, nofun, t5, k, f, ia, ic, rs, oa, oc, os, by omega, HKT.out, HD5.out⟩
        case rest =>
          clear HD5 HKT ht5
          obtain ⟨rfl, rfl, rfl, bb, rfl, hbm, HX⟩ := hcut
          obtain ⟨t5, k, f, ia, ic, rs, oa, oc, os, ht5, hKT, hD⟩ := HX.out
          have HD5 : Hid (TmS w wc SB R ca cn cc t5 T k f ia ic rs oa oc os g lc ms #[.int .i64 0, .int .i64 0, .slice none 0 0, .slice none 0 0]) := hD
          have HKT : Hid (KTB k f rs os) := hKT
          clear HX hD hKT
          go_upto_if 51 with fail
          go_cut [5, 6, 7] (fun s l q wc => s = .pointer (some ⟨SB, 0, none⟩) ∧ l = .slice (some ⟨g, 0, none⟩) ms.length lc ∧ q = .pointer (some ⟨T, 0, none⟩) ∧ Hid (∃ (t1 : Nat) (k f : Int) (ia : Option Addr) (ic : Nat) (rs : List (Int × Int)) (oa : Option Addr) (oc : Nat) (os : List Ou), t1 ≤ 300 ∧ KTB k f rs os ∧ TmS w wc SB R ca cn cc t1 T k f ia ic rs oa oc os g lc ms #[.int .i64 0, .int .i64 0, .slice none 0 0, .slice none 0 0]))
          case first =>
            cases bb
            · go_wp2
              go_meet
              exact ⟨rfl, rfl, rfl, t5, k, f, ia, ic, rs, oa, oc, os, by omega, HKT.out, HD5.out⟩
            · have hm := hbm rfl
              have hmi : (0 : Int) < (ms.length : Int) := by omega
              have hx := l1Next_any SB cn cc t5 ca l0 (ms.length : Int) w wc (by omega) (by omega) hcn HBA.out HD5.out.src
              go_wp2_with fail
              refine hx.mono ?_
              rintro e v6 ⟨r, rfl, ⟨a6, b6⟩, hS6, hc6⟩
              have b6' := b6 (by omega)
              obtain ⟨j, hj⟩ : ∃ j : Nat, r = (j : Int) := ⟨r.toNat, by omega⟩
              subst hj
              have hj2 : j < ms.length := by omega
              have HD6 : Hid (TmS w v6 SB R ca cn cc (t5 + 1) T k f ia ic rs oa oc os g lc ms #[.int .i64 0, .int .i64 0, .slice none 0 0, .slice none 0 0]) := HD5.out.draw hS6 hc6
              clear hx hS6 hc6 HD5 b6
              have hml : ms.length ≤ 9 := hm9
              obtain ⟨y0, y1, y2⟩ := mem_cells HD6.out.mem hj2
              obtain ⟨x1, hx1⟩ : ∃ x, x = (ms.getD j Z3).2.1 := ⟨_, rfl⟩
              obtain ⟨x2, hx2⟩ : ∃ x, x = (ms.getD j Z3).2.2 := ⟨_, rfl⟩
              rw [← hx1] at y1
              rw [← hx2] at y2
              clear hx1 hx2 y0
              have HD7 : Hid (TmS w ((v6.alloc (.cells #[.int .i64 x1, .int .i64 x2] 36)).setCell ⟨T, 2, none⟩ (.slice (some ⟨v6.heap.size, 0, none⟩) [(x1, x2)].length 1)) SB R ca cn cc (t5 + 1) T k f (some ⟨v6.heap.size, 0, none⟩) 1 [(x1, x2)] oa oc os g lc ms #[.int .i64 0, .int .i64 0, .slice none 0 0, .slice none 0 0]) := (HD6.out.step (below_box (.cells #[.int .i64 x1, .int .i64 x2] 36))).setI (one_ref (p := (x1, x2)) HD6.out.src.lt)
              obtain ⟨c0, c1, c2, c3, c4, c5, c6, c7⟩ := cells4 (HD6.out.step (below_box (.cells #[.int .i64 x1, .int .i64 x2] 36))).box
              go_wp2
              go_meet
              exact ⟨rfl, rfl, rfl, t5 + 1, k, f, _, _, _, oa, oc, os, by omega, ⟨by simp, HKT.out.2⟩, HD7.out⟩
          case rest =>
            clear HD5 HKT ht5 hbm
            obtain ⟨rfl, rfl, rfl, HX⟩ := hcut
            obtain ⟨t5, k, f, ia, ic, rs, oa, oc, os, ht5, hKT, hD⟩ := HX.out
            have HD5 : Hid (TmS w wc SB R ca cn cc t5 T k f ia ic rs oa oc os g lc ms #[.int .i64 0, .int .i64 0, .slice none 0 0, .slice none 0 0]) := hD
            have HKT : Hid (KTB k f rs os) := hKT
            clear HX hD hKT
            obtain ⟨t0, ht0⟩ : ∃ x, x = t5 := ⟨_, rfl⟩
            rw [← ht0] at HD5
            have HDF : Hid (TmS w wc SB R ca cn cc t0 T k f ia ic rs oa oc os g lc ms #[.int .i64 0, .int .i64 0, .slice none 0 0, .slice none 0 0]) := HD5.out
            have ht0b : t0 ≤ 300 := by omega
            clear HD5 ht0
            go_wp2
            refine wp_region_any (by kernel_rfl) ?_
            change wpAny _ _ _ _ _ _ _ (World.drew _)
            refine wpAny_inv (fun L a V => ∃ (b0 b1 b2 b3 b4 b5 b6 b7 b8 b9 b10 b11 b12 b13 : Bool) (x0 x1 x2 x3 x4 x5 x6 x7 x8 x9 x10 x11 x12 x13 : Value), L = #[b0, b1, b2, b3, b4, b5, b6, b7, b8, b9, b10, b11, b12, b13] ∧ Fr 73 [some 62, some 63, some 64, some 65, some 66, some 67, some 68, some 69, some 70, some 71, some 72, some 2, none, some 4, some 3, some 5, some 6, some 7] [b0, b1, b2, b3, b4, b5, b6, b7, b8, b9, b10, b11, b12, b13, true, true, true, true] [x0, x1, x2, x3, x4, x5, x6, x7, x8, x9, x10, x11, x12, x13, .pointer (some ⟨R, 0, none⟩), .pointer (some ⟨SB, 0, none⟩), .slice (some ⟨g, 0, none⟩) ms.length lc, .pointer (some ⟨T, 0, none⟩)] a ∧ R14 w SB R ca cn cc t0 T k f ia ic rs oa oc os g lc ms V b0 b1 b2 b3 b4 b5 b6 b7 b8 b9 b10 b11 b12 b13 x0 x1 x2 x3 x4 x5 x6 x7 x8 x9 x10 x11 x12 x13) ?step ?done _ _ _ _ (by simp) ?start
            case start =>
              refine ⟨false, false, false, false, false, false, false, false, false, false, false, false, false, false, undef, undef, undef, undef, undef, undef, undef, undef, undef, undef, undef, undef, undef, undef, rfl, ⟨rfl, rfl, rfl, rfl, fun i d h1 h2 => ?_⟩, ?_⟩
              · have hlt : i < 18 := (List.getElem?_eq_some_iff.1 h1).1
                obtain rfl | rfl | rfl | rfl | rfl | rfl | rfl | rfl | rfl | rfl | rfl | rfl | rfl | rfl | rfl | rfl | rfl | rfl : i = 0 ∨ i = 1 ∨ i = 2 ∨ i = 3 ∨ i = 4 ∨ i = 5 ∨ i = 6 ∨ i = 7 ∨ i = 8 ∨ i = 9 ∨ i = 10 ∨ i = 11 ∨ i = 12 ∨ i = 13 ∨ i = 14 ∨ i = 15 ∨ i = 16 ∨ i = 17 := by omega
                all_goals first | exact absurd h2 (by decide) | (have := Option.some.inj (Option.some.inj h1); subst this; rfl)
              · exact { m0 := ⟨t0, Nat.le_refl _, HDF.out.step (Below.refl _ _).drew⟩, e4 := nofun, e5 := nofun, e7 := nofun, e8 := nofun, e9 := nofun, e10 := nofun, e13 := nofun, g0 := nofun, g1 := nofun, g2 := nofun, g3 := nofun, g6 := nofun, g11 := nofun, o4_3 := nofun, o5_4 := nofun, o7_6 := nofun, o7_4 := nofun, o8_7 := nofun, o9_5 := nofun, o9_8 := nofun, o10_2 := nofun, o10_9 := nofun, o11_0 := nofun, o12_1 := nofun, o13_10 := nofun }
            case done =>
              rintro L a V ⟨b0, b1, b2, b3, b4, b5, b6, b7, b8, b9, b10, b11, b12, b13, x0, x1, x2, x3, x4, x5, x6, x7, x8, x9, x10, x11, x12, x13, rfl, FR, H⟩ hr
              have hall := ready_all (by kernel_rfl) hr
              obtain ⟨tm, df⟩ := a
              obtain rfl : df = [] := FR.hd
              obtain ⟨F, hF⟩ := arr_of FR.hs
              have hF2 : tm = #[F 0, F 1, F 2, F 3, F 4, F 5, F 6, F 7, F 8, F 9, F 10, F 11, F 12, F 13, F 14, F 15, F 16, F 17, F 18, F 19, F 20, F 21, F 22, F 23, F 24, F 25, F 26, F 27, F 28, F 29, F 30, F 31, F 32, F 33, F 34, F 35, F 36, F 37, F 38, F 39, F 40, F 41, F 42, F 43, F 44, F 45, F 46, F 47, F 48, F 49, F 50, F 51, F 52, F 53, F 54, F 55, F 56, F 57, F 58, F 59, F 60, F 61, F 62, F 63, F 64, F 65, F 66, F 67, F 68, F 69, F 70, F 71, F 72] := hF
              subst hF2
              have kk3 : F 3 = .pointer (some ⟨R, 0, none⟩) := Option.some.inj (FR.get 14 3 rfl rfl)
              have kk5 : F 5 = .pointer (some ⟨SB, 0, none⟩) := Option.some.inj (FR.get 15 5 rfl rfl)
              have kk6 : F 6 = .slice (some ⟨g, 0, none⟩) ms.length lc := Option.some.inj (FR.get 16 6 rfl rfl)
              have kk7 : F 7 = .pointer (some ⟨T, 0, none⟩) := Option.some.inj (FR.get 17 7 rfl rfl)
              obtain rfl : b11 = true := hall 11 (by decide)
              obtain rfl : b12 = true := hall 12 (by decide)
              obtain rfl : b13 = true := hall 13 (by decide)
              obtain ⟨t1, ht1, hD⟩ := H.m0
              obtain rfl := H.g11 rfl
              obtain ⟨id, rfl⟩ := H.e13 rfl
              have kr11 : F 2 = .slice (some ⟨g, 0, none⟩) ms.length lc := Option.some.inj (FR.get 11 2 rfl rfl)
              have kr13 : F 4 = .int .i64 id := Option.some.inj (FR.get 13 4 rfl rfl)
              rw [kr11, kr13]
              rw [kk3, kk5, kk6, kk7]
              have HDE : Hid (TmS w V SB R ca cn cc t1 T k f ia ic rs oa oc os g lc ms #[.int .i64 k, .int .i64 f, .slice ia rs.length ic, .slice oa os.length oc]) := hD
              clear hD H hr hall FR kk3 kk5 kk6 kk7 kr11 kr13 hF
              obtain ⟨r0, r1, r2, r3, r4, r5, r6, r7⟩ := cells4 HDE.out.res
              go_wp2
              refine bodyPost_ret (v := .tuple #[.slice (some ⟨g, 0, none⟩) ms.length lc, .agg #[.int .i64 k, .int .i64 f, .slice ia rs.length ic, .slice oa os.length oc], .int .i64 id]) (by simp [results, Try.results5, go_sem, r0, r1, r2, r3]) rfl ?_
              exact HDE.out.ret HKT.out hm9
            case step =>
              rintro L a V i ⟨b0, b1, b2, b3, b4, b5, b6, b7, b8, b9, b10, b11, b12, b13, x0, x1, x2, x3, x4, x5, x6, x7, x8, x9, x10, x11, x12, x13, rfl, FR, H⟩ hi
              have hlt : i < 14 := ready_lt hi
              obtain rfl | rfl | rfl | rfl | rfl | rfl | rfl | rfl | rfl | rfl | rfl | rfl | rfl | rfl : i = 0 ∨ i = 1 ∨ i = 2 ∨ i = 3 ∨ i = 4 ∨ i = 5 ∨ i = 6 ∨ i = 7 ∨ i = 8 ∨ i = 9 ∨ i = 10 ∨ i = 11 ∨ i = 12 ∨ i = 13 := by omega
              · obtain rfl : b0 = false := ready_new hi
                have k6 : a.tmps[6]? = some (.slice (some ⟨g, 0, none⟩) ms.length lc) := FR.get 16 6 rfl rfl
                refine wpOp_run (o := _) rfl (fun K hK => ?_)
                go_simp
                refine hK _ _ ?_
                exact ⟨_, _, _, _, _, _, _, _, _, _, _, _, _, _, _, _, _, _, _, _, _, _, _, _, _, _, _, _, rfl, FR.put 0 62 (by decide), { H with g0 := fun _ => rfl, o11_0 := fun _ => rfl }⟩
              · obtain rfl : b1 = false := ready_new hi
                obtain ⟨t1, ht1, hD⟩ := H.m0
                obtain ⟨c0, c1, c2, c3, _⟩ := cells4 hD.box
                have k7 : a.tmps[7]? = some (.pointer (some ⟨T, 0, none⟩)) := FR.get 17 7 rfl rfl
                refine wpOp_run (o := _) rfl (fun K hK => ?_)
                go_simp
                refine hK _ _ ?_
                exact ⟨_, _, _, _, _, _, _, _, _, _, _, _, _, _, _, _, _, _, _, _, _, _, _, _, _, _, _, _, rfl, FR.put 1 63 (by decide), { H with g1 := fun _ => rfl, o12_1 := fun _ => rfl }⟩
              · obtain rfl : b2 = false := ready_new hi
                have k5 : a.tmps[5]? = some (.pointer (some ⟨SB, 0, none⟩)) := FR.get 15 5 rfl rfl
                refine wpOp_run (o := _) rfl (fun K hK => ?_)
                go_simp
                refine hK _ _ ?_
                exact ⟨_, _, _, _, _, _, _, _, _, _, _, _, _, _, _, _, _, _, _, _, _, _, _, _, _, _, _, _, rfl, FR.put 2 64 (by decide), { H with g2 := fun _ => rfl, o10_2 := fun _ => rfl }⟩
              · obtain rfl : b3 = false := ready_new hi
                have k5 : a.tmps[5]? = some (.pointer (some ⟨SB, 0, none⟩)) := FR.get 15 5 rfl rfl
                refine wpOp_run (o := _) rfl (fun K hK => ?_)
                go_simp
                refine hK _ _ ?_
                exact ⟨_, _, _, _, _, _, _, _, _, _, _, _, _, _, _, _, _, _, _, _, _, _, _, _, _, _, _, _, rfl, FR.put 3 65 (by decide), { H with g3 := fun _ => rfl, o4_3 := fun _ => rfl }⟩
              · obtain rfl : b4 = false := ready_new hi
                obtain rfl : b3 = true := ready_dep (d := 3) hi (by kernel_rfl)
                obtain rfl := H.g3 rfl
                obtain rfl : b5 = false := Bool.eq_false_iff.2 (fun h => by have := H.o5_4 h; simp at this)
                obtain rfl : b7 = false := Bool.eq_false_iff.2 (fun h => by have := H.o7_4 h; simp at this)
                obtain rfl : b8 = false := Bool.eq_false_iff.2 (fun h => by have := H.o8_7 h; simp at this)
                obtain rfl : b9 = false := Bool.eq_false_iff.2 (fun h => by have := H.o9_8 h; simp at this)
                obtain rfl : b10 = false := Bool.eq_false_iff.2 (fun h => by have := H.o10_9 h; simp at this)
                obtain rfl : b13 = false := Bool.eq_false_iff.2 (fun h => by have := H.o13_10 h; simp at this)
                obtain ⟨t1, ht1, hD⟩ := H.m0
                have ht2 : t1 ≤ t0 + 0 := ht1
                have hN := l1Next_any SB cn cc t1 ca l0 9 w V (by omega) (by omega) hcn HBA.out hD.src
                have l3 : a.tmps[65]? = some (.pointer (some ⟨SB, 0, none⟩)) := FR.get 3 65 rfl rfl
                refine wpOp_run (o := _) rfl (fun K hK => ?_)
                go_simp
                go_at_call 17
                refine hN.mono ?_
                rintro e v5 ⟨z, rfl, ⟨z0, z1⟩, hS, hc⟩
                have z2 : z < 9 := z1 (by omega)
                have hD5 := hD.draw hS hc
                go_simp
                refine hK _ _ ?_
                exact ⟨_, _, _, _, _, _, _, _, _, _, _, _, _, _, _, _, _, _, _, _, _, _, _, _, _, _, _, _, rfl, FR.put 4 66 (by decide), { H with m0 := ⟨t1 + 1, Nat.succ_le_succ ht2, hD5⟩, e4 := fun _ => ⟨z, rfl, z0, z2⟩, e9 := nofun, o5_4 := fun _ => rfl, o7_4 := fun _ => rfl, o4_3 := fun _ => rfl }⟩
              · obtain rfl : b5 = false := ready_new hi
                obtain rfl : b4 = true := ready_dep (d := 4) hi (by kernel_rfl)
                obtain rfl : b3 = true := H.o4_3 rfl
                obtain ⟨z, rfl, z0, z1⟩ := H.e4 rfl
                have hw := IntWalk.i64_in (10 + z) (by omega)
                have l4 : a.tmps[66]? = some (.int .i64 z) := FR.get 4 66 rfl rfl
                refine wpOp_run (o := _) rfl (fun K hK => ?_)
                go_simp
                refine hK _ _ ?_
                exact ⟨_, _, _, _, _, _, _, _, _, _, _, _, _, _, _, _, _, _, _, _, _, _, _, _, _, _, _, _, rfl, FR.put 5 67 (by decide), { H with e5 := fun _ => ⟨_, rfl⟩, o9_5 := fun _ => rfl, o5_4 := fun _ => rfl }⟩
              · obtain rfl : b6 = false := ready_new hi
                have k5 : a.tmps[5]? = some (.pointer (some ⟨SB, 0, none⟩)) := FR.get 15 5 rfl rfl
                refine wpOp_run (o := _) rfl (fun K hK => ?_)
                go_simp
                refine hK _ _ ?_
                exact ⟨_, _, _, _, _, _, _, _, _, _, _, _, _, _, _, _, _, _, _, _, _, _, _, _, _, _, _, _, rfl, FR.put 6 68 (by decide), { H with g6 := fun _ => rfl, o7_6 := fun _ => rfl }⟩
              · obtain rfl : b7 = false := ready_new hi
                obtain rfl : b6 = true := ready_dep (d := 6) hi (by kernel_rfl)
                obtain rfl := H.g6 rfl
                obtain rfl : b4 = true := ready_dep (d := 4) hi (by kernel_rfl)
                obtain rfl : b8 = false := Bool.eq_false_iff.2 (fun h => by have := H.o8_7 h; simp at this)
                obtain rfl : b9 = false := Bool.eq_false_iff.2 (fun h => by have := H.o9_8 h; simp at this)
                obtain rfl : b10 = false := Bool.eq_false_iff.2 (fun h => by have := H.o10_9 h; simp at this)
                obtain rfl : b13 = false := Bool.eq_false_iff.2 (fun h => by have := H.o13_10 h; simp at this)
                obtain ⟨t1, ht1, hD⟩ := H.m0
                have ht2 : t1 ≤ t0 + 1 := ht1
                have hN := l1Next_any SB cn cc t1 ca l0 9 w V (by omega) (by omega) hcn HBA.out hD.src
                have l6 : a.tmps[68]? = some (.pointer (some ⟨SB, 0, none⟩)) := FR.get 6 68 rfl rfl
                refine wpOp_run (o := _) rfl (fun K hK => ?_)
                go_simp
                go_at_call 17
                refine hN.mono ?_
                rintro e v5 ⟨z, rfl, ⟨z0, z1⟩, hS, hc⟩
                have z2 : z < 9 := z1 (by omega)
                have hD5 := hD.draw hS hc
                go_simp
                refine hK _ _ ?_
                exact ⟨_, _, _, _, _, _, _, _, _, _, _, _, _, _, _, _, _, _, _, _, _, _, _, _, _, _, _, _, rfl, FR.put 7 69 (by decide), { H with m0 := ⟨t1 + 1, Nat.succ_le_succ ht2, hD5⟩, e7 := fun _ => ⟨z, rfl, z0, z2⟩, e9 := nofun, o8_7 := fun _ => rfl, o7_6 := fun _ => rfl, o7_4 := fun _ => rfl }⟩
              · obtain rfl : b8 = false := ready_new hi
                obtain rfl : b7 = true := ready_dep (d := 7) hi (by kernel_rfl)
                obtain rfl : b6 = true := H.o7_6 rfl
                obtain ⟨z, rfl, z0, z1⟩ := H.e7 rfl
                have hw := IntWalk.i64_in (10 + z) (by omega)
                have l7 : a.tmps[69]? = some (.int .i64 z) := FR.get 7 69 rfl rfl
                refine wpOp_run (o := _) rfl (fun K hK => ?_)
                go_simp
                refine hK _ _ ?_
                exact ⟨_, _, _, _, _, _, _, _, _, _, _, _, _, _, _, _, _, _, _, _, _, _, _, _, _, _, _, _, rfl, FR.put 8 70 (by decide), { H with e8 := fun _ => ⟨_, rfl⟩, o9_8 := fun _ => rfl, o8_7 := fun _ => rfl }⟩
              · obtain rfl : b9 = false := ready_new hi
                obtain rfl : b5 = true := ready_dep (d := 5) hi (by kernel_rfl)
                obtain rfl : b8 = true := ready_dep (d := 8) hi (by kernel_rfl)
                obtain rfl : b4 = true := H.o5_4 rfl
                obtain rfl : b7 = true := H.o8_7 rfl
                obtain rfl : b3 = true := H.o4_3 rfl
                obtain rfl : b6 = true := H.o7_6 rfl
                obtain rfl : b10 = false := Bool.eq_false_iff.2 (fun h => by have := H.o10_9 h; simp at this)
                obtain rfl : b13 = false := Bool.eq_false_iff.2 (fun h => by have := H.o13_10 h; simp at this)
                obtain ⟨z1, rfl⟩ := H.e5 rfl
                obtain ⟨z2, rfl⟩ := H.e8 rfl
                obtain ⟨t1, ht1, hD⟩ := H.m0
                have hsl := hD.src.lt
                have hR := hD.rb
                have l5 : a.tmps[67]? = some (.int .i64 z1) := FR.get 5 67 rfl rfl
                have l8 : a.tmps[70]? = some (.int .i64 z2) := FR.get 8 70 rfl rfl
                refine wpOp_run (o := _) rfl (fun K hK => ?_)
                go_simp
                refine hK _ _ ?_
                exact ⟨_, _, _, _, _, _, _, _, _, _, _, _, _, _, _, _, _, _, _, _, _, _, _, _, _, _, _, _, rfl, FR.put 9 71 (by decide), { H with m0 := ⟨t1, ht1, hD.step (below_box _)⟩, e9 := fun _ _ => ⟨_, z1, z2, rfl, hsl, (by omega), heap_alloc_new _ _⟩, o10_9 := fun _ => rfl, o9_5 := fun _ => rfl, o9_8 := fun _ => rfl }⟩
              · obtain rfl : b10 = false := ready_new hi
                obtain rfl : b2 = true := ready_dep (d := 2) hi (by kernel_rfl)
                obtain rfl : b9 = true := ready_dep (d := 9) hi (by kernel_rfl)
                obtain rfl : b5 = true := H.o9_5 rfl
                obtain rfl : b8 = true := H.o9_8 rfl
                obtain rfl : b4 = true := H.o5_4 rfl
                obtain rfl : b7 = true := H.o8_7 rfl
                obtain rfl : b3 = true := H.o4_3 rfl
                obtain rfl : b6 = true := H.o7_6 rfl
                obtain rfl := H.g2 rfl
                obtain rfl : b13 = false := Bool.eq_false_iff.2 (fun h => by have := H.o13_10 h; simp at this)
                obtain ⟨A, z1, z2, ea, hA, hAR, hv⟩ := H.e9 rfl rfl
                subst ea
                obtain ⟨t1, ht1, hD⟩ := H.m0
                have ht2 : t1 ≤ t0 + 2 := ht1
                have hN := l1Pick_any SB cn cc t1 5 5 ca (some ⟨A, 0, none⟩) l0 [z1, z2, 2, 61, 0] w V (by omega) (by omega) (by omega) hcn HBA.out hD.src (iatF5 hv) (fun b off e => (by cases e; omega))
                have l2 : a.tmps[64]? = some (.pointer (some ⟨SB, 0, none⟩)) := FR.get 2 64 rfl rfl
                have l9 : a.tmps[71]? = some (.slice (some ⟨A, 0, none⟩) 5 5) := FR.get 9 71 rfl rfl
                refine wpOp_run (o := _) rfl (fun K hK => ?_)
                go_simp
                go_at_call 18
                refine hN.mono ?_
                rintro e v5 ⟨z, rfl, _, hS, hc⟩
                have hD5 := hD.draw hS hc
                go_simp
                refine hK _ _ ?_
                exact ⟨_, _, _, _, _, _, _, _, _, _, _, _, _, _, _, _, _, _, _, _, _, _, _, _, _, _, _, _, rfl, FR.put 10 72 (by decide), { H with m0 := ⟨t1 + 1, Nat.succ_le_succ ht2, hD5⟩, e9 := fun _ h => (by cases h), e10 := fun _ => ⟨z, rfl⟩, o13_10 := fun _ => rfl, o10_2 := fun _ => rfl, o10_9 := fun _ => rfl }⟩
              · obtain rfl : b11 = false := ready_new hi
                obtain rfl : b0 = true := ready_dep (d := 0) hi (by kernel_rfl)
                obtain rfl := H.g0 rfl
                have l0 : a.tmps[62]? = some (.slice (some ⟨g, 0, none⟩) ms.length lc) := FR.get 0 62 rfl rfl
                refine wpOp_run (o := _) rfl (fun K hK => ?_)
                go_simp
                refine hK _ _ ?_
                exact ⟨_, _, _, _, _, _, _, _, _, _, _, _, _, _, _, _, _, _, _, _, _, _, _, _, _, _, _, _, rfl, FR.put 11 2 (by decide), { H with g11 := fun _ => rfl, o11_0 := fun _ => rfl }⟩
              · obtain rfl : b12 = false := ready_new hi
                obtain rfl : b1 = true := ready_dep (d := 1) hi (by kernel_rfl)
                obtain rfl := H.g1 rfl
                obtain ⟨t1, ht1, hD⟩ := H.m0
                have hres := hD.res
                obtain ⟨r0, r1, r2, r3, r4, r5, r6, r7⟩ := cells4 hres
                have hD5 := hD.out4
                have l1 : a.tmps[63]? = some (.agg #[.int .i64 k, .int .i64 f, .slice ia rs.length ic, .slice oa os.length oc]) := FR.get 1 63 rfl rfl
                have k3 : a.tmps[3]? = some (.pointer (some ⟨R, 0, none⟩)) := FR.get 14 3 rfl rfl
                refine wpOp_run (o := _) rfl (fun K hK => ?_)
                go_simp
                refine hK _ _ ?_
                exact ⟨_, _, _, _, _, _, _, _, _, _, _, _, _, _, _, _, _, _, _, _, _, _, _, _, _, _, _, _, rfl, FR.skip 12 rfl, { H with m0 := ⟨t1, ht1, hD5⟩, e9 := fun h h2 => (by obtain ⟨A, z1, z2, e, hA, hAR, hv⟩ := H.e9 h h2; exact ⟨A, z1, z2, e, hA, hAR, (four_far hAR _ _ _ _).trans hv⟩), o12_1 := fun _ => rfl }⟩
              · obtain rfl : b13 = false := ready_new hi
                obtain rfl : b10 = true := ready_dep (d := 10) hi (by kernel_rfl)
                obtain rfl : b2 = true := H.o10_2 rfl
                obtain rfl : b9 = true := H.o10_9 rfl
                obtain rfl : b5 = true := H.o9_5 rfl
                obtain rfl : b8 = true := H.o9_8 rfl
                obtain rfl : b4 = true := H.o5_4 rfl
                obtain rfl : b7 = true := H.o8_7 rfl
                obtain rfl : b3 = true := H.o4_3 rfl
                obtain rfl : b6 = true := H.o7_6 rfl
                obtain ⟨z, rfl⟩ := H.e10 rfl
                have l10 : a.tmps[72]? = some (.int .i64 z) := FR.get 10 72 rfl rfl
                refine wpOp_run (o := _) rfl (fun K hK => ?_)
                go_simp
                refine hK _ _ ?_
                exact ⟨_, _, _, _, _, _, _, _, _, _, _, _, _, _, _, _, _, _, _, _, _, _, _, _, _, _, _, _, rfl, FR.put 13 4 (by decide), { H with e13 := fun _ => ⟨z, rfl⟩, o13_10 := fun _ => rfl }⟩

end Go.Proofs.Ytgfhnmjpkanikaa
