/- DrawSpendTx. -/
import Derived.Test.YthjolannlefbcaaGreatDoorIg
import Derived.Test.YthjolannlefbcaaGreatDoorJn7
namespace Go.Proofs.YthjolannlefbcaaGreatDoor
open Go.RowKit Go.Shelf Go.Maps Go.WideMaps

theorem iatF4 {V : World} {A : Nat} {a b c d : Int} (h : V.heap[A]? = some (.cells #[.int .i64 a, .int .i64 b, .int .i64 c, .int .i64 d] 2 (0, 0))) : IAt V (some ⟨A, 0, none⟩) 4 [a, b, c, d] := by
  refine ⟨rfl, .inr ⟨A, 0, rfl, lt_of_block h, fun j hj => ?_⟩⟩
  rw [Nat.zero_add]
  unfold World.cell?
  rw [h]
  match j, hj with
  | 0, _ => rfl
  | 1, _ => rfl
  | 2, _ => rfl
  | 3, _ => rfl
theorem Tryz.infoU8w : (Tryz.prog.info? 5).map (fun i => (i.zero, i.size, i.bytes)) = some (some (.int .u8 0), 1, 1) := by kernel_rfl
/-- A byte laid ahead of others. -/
theorem byte_front {W : World} {X cn cc : Nat} {ca : Option Addr} {l0 : List Int} {x : Int} (hx : 0 ≤ x ∧ x ≤ 255) (hB : BAt W ca cn l0) (hcn : cn ≤ 1048576) (hX : W.heap[X]? = some (.cells #[.int .u8 x] 5 (0, 0))) :
    ∃ g cap w5, (Builtin.append_ #[22, 22] 22 #[.slice (some ⟨X, 0, none⟩) 1 1, .slice ca cn cc]).run Tryz.prog W = .ok (.slice (some ⟨g, 0, none⟩) (cn + 1) cap) w5 ∧ Hid (BAt w5 (some ⟨g, 0, none⟩) (cn + 1) (x :: l0) ∧ X ≤ g ∧ g < w5.heap.size) ∧ Hid (Below X W w5) := by
  have hown : W.ownsRow X 5 1 (.slice (some ⟨X, 0, none⟩) 1 1) 1 [.int .u8 x] := ⟨rfl, .inr ⟨X, 1, _, rfl, Nat.le_refl _, hX, Nat.le_refl _, by unfold maxLen; omega, rfl, rfl⟩⟩
  obtain ⟨i0, hi, hz0, hz1, hz2⟩ := info_parts Tryz.infoU8w
  have key : ∃ g cap w5, (Builtin.append_ #[22, 22] 22 #[.slice (some ⟨X, 0, none⟩) 1 1, .slice ca cn cc]).run Tryz.prog W = .ok (.slice (some ⟨g, 0, none⟩) (cn + 1) cap) w5 ∧ w5.ownsRow X 5 1 (.slice (some ⟨g, 0, none⟩) (cn + 1) cap) (cn + 1) (.int .u8 x :: (List.range cn).map fun j => .int .u8 (l0.getD j 0)) ∧ Below X W w5 := by
    cases ca with
    | none =>
      have h0 : cn = 0 := by
        rcases hB.2 with h | ⟨b, off, h, _⟩
        · exact h
        · cases h
      subst h0
      refine ⟨X, 1, W, ?_, hown, Below.refl _ _⟩
      simp [Builtin.append_, run_underlying Tryz.underlying22, sizeOf, typeInfo, hi, Builtin.lenOf, Builtin.firstCells, storeCells]
    | some ad =>
      have hc : ∀ j u, ((List.range cn).map fun j => (Value.int .u8 (l0.getD j 0)))[j]? = some u → W.cell? (ad.add j) = some u := by
        intro j u hj
        have hlt := (List.getElem?_eq_some_iff.1 hj).1
        simp at hlt
        rcases hB.2 with h | ⟨b, off, h, _, hcell⟩
        · omega
        obtain rfl := Option.some.inj h
        have e : Addr.add ⟨b, off, none⟩ j = ⟨b, off + j, none⟩ := by
          unfold Addr.add
          by_cases h0 : j = 0
          · rw [h0]; rfl
          · rw [if_neg h0]
        rw [e, hcell j hlt, ← hj]
        simp [hlt]
      obtain ⟨v', w5, hrun, hown', hgrow, _⟩ := run_append_own (P := Tryz.prog) W X 22 22 5 i0 (.int .u8 0) 1 1 Tryz.underlying22 hi hz0 hz1 hz2 rfl (by decide) (.slice (some ⟨X, 0, none⟩) 1 1) 1 [.int .u8 x] hown ad cn cc ((List.range cn).map fun j => .int .u8 (l0.getD j 0)) (by simp) hc (by
        intro u hu
        simp only [List.mem_map] at hu
        obtain ⟨_, _, rfl⟩ := hu; rfl) (by unfold maxLen; omega) (by omega) (Nat.le_of_lt (lt_of_block hX))
      have e1 : 1 + cn = cn + 1 := Nat.add_comm _ _
      rw [e1] at hown'
      rcases hown'.2 with ⟨_, q⟩ | ⟨g, cap, cur, rfl, _⟩
      · omega
      · exact ⟨g, cap, w5, hrun, hown', (Below.refl _ _).grown hgrow (Nat.le_of_lt (lt_of_block hX)) (fun k hk => by cases hk; exact Nat.le_refl _)⟩
  obtain ⟨g, cap, w5, h1, h2, h3⟩ := key
  refine ⟨g, cap, w5, h1, ⟨⟨fun j => ?_, .inr ⟨g, 0, rfl, (h2.lt g rfl).2, fun j hj => ?_⟩⟩, (h2.lt g rfl).1, (h2.lt g rfl).2⟩, h3⟩
  · cases j with
    | zero => simpa using hx
    | succ j => simpa using hB.1 j
  · rw [Nat.zero_add, h2.cellAt j (by omega)]
    cases j with
    | zero => rfl
    | succ j =>
      have : j < cn := by omega
      simp [this]
theorem bat_belowD {w w' : World} {a : Option Addr} {n : Nat} {l : List Int} (h : BAt w a n l) (hb : Below w.heap.size w w') : BAt w' a n l := by
  refine ⟨h.1, h.2.imp id fun ⟨b, off, e, hl, hc⟩ => ⟨b, off, e, Nat.lt_of_lt_of_le hl hb.size, fun j hj => (hb.cell (p := ⟨b, off + j, none⟩) hl).trans (hc j hj)⟩⟩
/-- Coins and a transaction in memory from B on. -/
structure DrQ (V : World) (B : Nat) (z : Wr) : Prop where
  own : (∃ (kv : Nat → Value) (lo hi : Nat), COwn V lo hi (.slice z.va z.cs.length z.vc) z.cs.length (fun j => z.cs.getD j C0) kv ∧ B ≤ lo ∧ hi ≤ V.heap.size) ∨ ((∀ V' lo, Chg V V' lo B → CAt V' z.va z.cs.length z.cs) ∧ ∃ cs0 : List Co, 0 < cs0.length ∧ z.cs = cs0 ++ [cs0.getD 0 C0])
  ref : V.ownsRow B 38 2 (.slice z.ia z.rs.length z.ic) z.rs.length (gcells z.rs)
  out : ∃ (kv : Nat → Value) (lo hi : Nat), OOwn V lo hi (.slice z.oa z.os.length z.oc) z.os.length (fun j => z.os.getD j O0) kv ∧ B ≤ lo ∧ hi ≤ V.heap.size
  zk : KTB z.k z.f z.rs z.os
  zc : z.cs.length ≤ 43 ∧ ∀ j, j < z.cs.length → (z.cs.getD j C0).l.length ≤ 3
section
variable {V V' : World} {B lo : Nat} {z : Wr}
theorem DrQ.turn (h : DrQ V B z) (hC : Chg V V' lo B) : DrQ V' B z := by
  obtain ⟨ku, lo2, hi2, hu, u1, u2⟩ := h.out
  refine ⟨?_, hC.row h.ref fun b hb => .inr (h.ref.lt b hb).1, ⟨ku, lo2, hi2, hu.chg hC (.inr u1), u1, Nat.le_trans u2 hC.size⟩, h.zk, h.zc⟩
  rcases h.own with ⟨kv, l1, h1, hk, k1, k2⟩ | ⟨h1, h2⟩
  · exact .inl ⟨kv, l1, h1, hk.chg hC (.inr k1), k1, Nat.le_trans k2 hC.size⟩
  · exact .inr ⟨fun V2 l2 q => h1 V2 (min l2 lo) ((hC.wideC (Nat.min_le_right _ _)).trans (q.wideC (Nat.min_le_left _ _))), h2⟩
theorem DrQ.cat (h : DrQ V B z) : CAt V z.va z.cs.length z.cs := by
  rcases h.own with ⟨kv, lo, hi, hk, _⟩ | hk
  · exact own_at2 hk rfl fun j hj => by have := h.zc.2 j hj; omega
  · exact hk.1 V 0 (Chg.refl _ _ _)
theorem DrQ.tx (h : DrQ V B z) : TxAt V z.ia z.rs.length z.oa z.os.length z.rs z.os := by
  obtain ⟨ku, lo, hi, hu, _⟩ := h.out
  exact ⟨gat_ref h.ref rfl, oown_atY hu fun j hj => by have := h.zk.2.2 _ (getD_mem (d := O0) hj); omega⟩
end
theorem CkF.drq {w V : World} {SB cn cc t LB : Nat} {ca : Option Addr} {ta : Option Addr} {n tc : Nat} {ga : Option Addr} {m gc : Nat} {ss : List ByteArray} {gs : List (Int × Int)} {z : Wr} {c0 c1 : Array Value} (h : CkF w V SB ca cn cc t LB ta n tc ga m gc ss gs z c0 c1) : DrQ V (w.heap.size + 3) z := by
  obtain ⟨ku, lo, hi, hu, u1, u2, _⟩ := h.out
  refine ⟨?_, h.ref, ⟨ku, lo, hi, hu, u1, u2⟩, h.zk, h.zc⟩
  rcases h.own with ⟨kv, l1, h1, hk, k1, k2, _⟩ | ⟨h1, h2⟩
  · exact .inl ⟨kv, l1, h1, hk, k1, k2⟩
  · exact .inr ⟨fun V2 l2 q => h1 V2 l2 q, h2⟩
/-- Coins, a transaction in a block of its own, a source of its own, a block for the result. -/
structure SpF (w V : World) (SB R B TB : Nat) (a : Option Addr) (n c t : Nat) (l : List Int) (z : Wr) (c1 : Array Value) : Prop where
  src : ∃ w0, (BAt w0 a n l ∧ R < w0.heap.size ∧ ∀ b off, a = some ⟨b, off, none⟩ → b ≠ R) ∧ Src w0 V SB a n c t
  box : V.heap[TB]? = some (.cells #[.int .i64 z.k, .int .i64 z.f, .slice z.ia z.rs.length z.ic, .slice z.oa z.os.length z.oc] 28 (0, 0))
  res : V.heap[R]? = some (.cells c1 28 (0, 0))
  q : DrQ V B z
  bel : Below w.heap.size w V
  ord : w.heap.size ≤ R ∧ R < SB ∧ SB < B ∧ B ≤ TB
section
variable {w V V' w0 : World} {SB R B TB n c t t' : Nat} {a : Option Addr} {l : List Int} {z : Wr} {c1 : Array Value}
theorem SpF.lt (h : SpF w V SB R B TB a n c t l z c1) : SB < V.heap.size := by
  obtain ⟨w0, _, h⟩ := h.src
  exact h.lt
theorem SpF.step (h : SpF w V SB R B TB a n c t l z c1) (hb : Below V.heap.size V V') : SpF w V' SB R B TB a n c t l z c1 := by
  obtain ⟨w0, h1, h2⟩ := h.src
  exact ⟨⟨w0, h1, h2.step hb⟩, (keepb h.box hb).out, (keepb h.res hb).out, h.q.turn (Chg.of_below hb 0 _), h.bel.trans (hb.mono h.bel.size), h.ord⟩
theorem SpF.draw (h : SpF w V SB R B TB a n c t l z c1) (h0 : BAt w0 a n l ∧ R < w0.heap.size ∧ ∀ b off, a = some ⟨b, off, none⟩ → b ≠ R) (hS : Src w0 V' SB a n c t') (hc : Chg V V' SB (SB + 1)) : SpF w V' SB R B TB a n c t' l z c1 := by
  have ho := h.ord
  exact ⟨⟨w0, h0, hS⟩, hc.keep1 h.box (by omega), hc.keep1 h.res (by omega), h.q.turn (show Chg V V' SB B from ⟨hc.os, hc.tape, hc.output, hc.size, fun b hb hd => hc.block b hb (by omega)⟩), h.bel.trans (hc.below (by omega) h.bel.size), ho⟩
set_option maxHeartbeats 2000000 in
theorem SpF.out4 {b : Bool} (h : SpF w V SB R B TB a n c t l z (if b = true then #[.int .i64 z.k, .int .i64 z.f, .slice z.ia z.rs.length z.ic, .slice z.oa z.os.length z.oc] else #[.int .i64 0, .int .i64 0, .slice none 0 0, .slice none 0 0])) : SpF w ((((V.setCell ⟨R, 0, none⟩ (.int .i64 z.k)).setCell ⟨R, 1, none⟩ (.int .i64 z.f)).setCell ⟨R, 2, none⟩ (.slice z.ia z.rs.length z.ic)).setCell ⟨R, 3, none⟩ (.slice z.oa z.os.length z.oc)) SB R B TB a n c t l z #[.int .i64 z.k, .int .i64 z.f, .slice z.ia z.rs.length z.ic, .slice z.oa z.os.length z.oc] := by
  have ho := h.ord
  obtain ⟨w0, ⟨h1, h2, h3⟩, h4⟩ := h.src
  obtain ⟨a0, a1, a2, a3, hq⟩ : ∃ a0 a1 a2 a3, V.heap[R]? = some (.cells #[a0, a1, a2, a3] 28 (0, 0)) := by
    have := h.res
    split at this
    · exact ⟨_, _, _, _, this⟩
    · exact ⟨_, _, _, _, this⟩
  have hq0 : w0.heap[R]? = some (.cells #[a0, a1, a2, a3] 28 (0, 0)) := (h4.bel.block R h2).symm.trans hq
  have hC : Chg V ((((V.setCell ⟨R, 0, none⟩ (.int .i64 z.k)).setCell ⟨R, 1, none⟩ (.int .i64 z.f)).setCell ⟨R, 2, none⟩ (.slice z.ia z.rs.length z.ic)).setCell ⟨R, 3, none⟩ (.slice z.oa z.os.length z.oc)) R (R + 1) := ((((Chg.refl _ _ _).setCell ⟨by omega, by omega⟩ _).setCell ⟨by omega, by omega⟩ _).setCell ⟨by omega, by omega⟩ _).setCell ⟨by omega, by omega⟩ _
  have hC0 : Chg w0 ((((w0.setCell ⟨R, 0, none⟩ (.int .i64 z.k)).setCell ⟨R, 1, none⟩ (.int .i64 z.f)).setCell ⟨R, 2, none⟩ (.slice z.ia z.rs.length z.ic)).setCell ⟨R, 3, none⟩ (.slice z.oa z.os.length z.oc)) R (R + 1) := ((((Chg.refl _ _ _).setCell ⟨by omega, by omega⟩ _).setCell ⟨by omega, by omega⟩ _).setCell ⟨by omega, by omega⟩ _).setCell ⟨by omega, by omega⟩ _
  have hsz : ((((w0.setCell ⟨R, 0, none⟩ (.int .i64 z.k)).setCell ⟨R, 1, none⟩ (.int .i64 z.f)).setCell ⟨R, 2, none⟩ (.slice z.ia z.rs.length z.ic)).setCell ⟨R, 3, none⟩ (.slice z.oa z.os.length z.oc)).heap.size = w0.heap.size := by simp
  refine ⟨⟨((((w0.setCell ⟨R, 0, none⟩ (.int .i64 z.k)).setCell ⟨R, 1, none⟩ (.int .i64 z.f)).setCell ⟨R, 2, none⟩ (.slice z.ia z.rs.length z.ic)).setCell ⟨R, 3, none⟩ (.slice z.oa z.os.length z.oc)), ⟨⟨h1.1, ?_⟩, by rw [hsz]; exact h2, h3⟩, hC.keep h4.box (by omega), ?_, by rw [hsz]; exact h4.sb⟩, hC.keep h.box (by omega), four_boxC hq _ _ _ _, h.q.turn (show Chg V ((((V.setCell ⟨R, 0, none⟩ (.int .i64 z.k)).setCell ⟨R, 1, none⟩ (.int .i64 z.f)).setCell ⟨R, 2, none⟩ (.slice z.ia z.rs.length z.ic)).setCell ⟨R, 3, none⟩ (.slice z.oa z.os.length z.oc)) R B from ⟨hC.os, hC.tape, hC.output, hC.size, fun b hb hd => hC.block b hb (by omega)⟩), h.bel.trans (hC.below (by omega) h.bel.size), ho⟩
  · rcases h1.2 with hn | ⟨b, off, e, hb, hcell⟩
    · exact .inl hn
    · refine .inr ⟨b, off, e, by rw [hsz]; exact hb, fun j hj => ?_⟩
      have hne := h3 b off e
      exact (World.cell?_of_block (hC0.block b hb (by omega))).trans (hcell j hj)
  · refine ⟨hC.os.trans (h4.bel.os.trans hC0.os.symm), hC.tape.trans (h4.bel.tape.trans hC0.tape.symm), hC.output.trans (h4.bel.output.trans hC0.output.symm), by rw [hsz]; exact Nat.le_trans h4.bel.size hC.size, fun k hk => ?_⟩
    rw [hsz] at hk
    by_cases e : k = R
    · subst e
      exact (four_boxC hq _ _ _ _).trans (four_boxC hq0 _ _ _ _).symm
    · exact (four_farC e _ _ _ _).trans ((h4.bel.block k hk).trans (four_farC e _ _ _ _).symm)
end
/-- What DrawSpendTx answers. -/
def OutSp (w V : World) (e : Ending) : Prop := ∃ (z : Wr) (id hh : Int), e = .returned (.tuple #[.slice z.va z.cs.length z.vc, .agg #[.int .i64 z.k, .int .i64 z.f, .slice z.ia z.rs.length z.ic, .slice z.oa z.os.length z.oc], .int .i64 id, .int .i64 hh]) ∧ (∃ B, w.heap.size ≤ B ∧ DrQ V B z) ∧ Below w.heap.size w V
structure R16 (w : World) (SB R B TB : Nat) (cd : Option Addr) (n c t0 : Nat) (l : List Int) (z : Wr) (hh : Int) (V : World) (b0 b1 b2 b3 b4 b5 b6 b7 b8 b9 b10 b11 b12 b13 b14 b15 : Bool) (x0 x1 x2 x3 x4 x5 x6 x7 x8 x9 x10 x11 x12 x13 x14 x15 : Value) : Prop where
  g0 : b0 = true → x0 = .slice z.va z.cs.length z.vc
  g1 : b1 = true → x1 = .agg #[.int .i64 z.k, .int .i64 z.f, .slice z.ia z.rs.length z.ic, .slice z.oa z.os.length z.oc]
  g2 : b2 = true → x2 = .pointer (some ⟨SB, 0, none⟩)
  g3 : b3 = true → x3 = .pointer (some ⟨SB, 0, none⟩)
  g6 : b6 = true → x6 = .pointer (some ⟨SB, 0, none⟩)
  g11 : b11 = true → x11 = .int .i64 hh
  g12 : b12 = true → x12 = .slice z.va z.cs.length z.vc
  g15 : b15 = true → x15 = .int .i64 hh
  o4_3 : b4 = true → b3 = true
  o5_4 : b5 = true → b4 = true
  o7_6 : b7 = true → b6 = true
  o7_4 : b7 = true → b4 = true
  o8_7 : b8 = true → b7 = true
  o9_5 : b9 = true → b5 = true
  o9_8 : b9 = true → b8 = true
  o10_2 : b10 = true → b2 = true
  o10_9 : b10 = true → b9 = true
  o12_0 : b12 = true → b0 = true
  o13_1 : b13 = true → b1 = true
  o14_10 : b14 = true → b10 = true
  o15_11 : b15 = true → b11 = true
  m0 : ∃ t1, t1 ≤ t0 + b4.toNat + b7.toNat + b10.toNat ∧ SpF w V SB R B TB cd n c t1 l z (if b13 = true then #[.int .i64 z.k, .int .i64 z.f, .slice z.ia z.rs.length z.ic, .slice z.oa z.os.length z.oc] else #[.int .i64 0, .int .i64 0, .slice none 0 0, .slice none 0 0])
  e4 : b4 = true → ∃ y, x4 = .int .i64 y ∧ 0 ≤ y ∧ y < 9
  e5 : b5 = true → ∃ y, x5 = .int .i64 y
  e7 : b7 = true → ∃ y, x7 = .int .i64 y ∧ 0 ≤ y ∧ y < 9
  e8 : b8 = true → ∃ y, x8 = .int .i64 y
  e9 : b9 = true → b10 = false → ∃ A y1 y2, x9 = .slice (some ⟨A, 0, none⟩) 4 4 ∧ SB < A ∧ A ≠ R ∧ V.heap[A]? = some (.cells #[.int .i64 y1, .int .i64 y2, .int .i64 1, .int .i64 61] 2 (0, 0))
  e10 : b10 = true → ∃ y, x10 = .int .i64 y
  e14 : b14 = true → ∃ y, x14 = .int .i64 y

set_option maxRecDepth 20000 in
set_option maxHeartbeats 8000000 in
theorem drawSpendTx_any (ca : Option Addr) (cn cc : Nat) (l0 : List Int) (w : World) (hcn0 : cn ≤ 1048576) (hB : BAt w ca cn l0) :
    Calls Tryz.prog 5 #[.slice ca cn cc] w fun e w' => OutSp w w' e := by
  have HBA : Hid (BAt w ca cn l0) := hB
  have hb1 : Below w.heap.size w ((w.alloc (.cells #[.int .i64 0, .int .i64 0, .slice none 0 0, .slice none 0 0] 28)).alloc (.cells #[.int .u8 3] 5)) := below_box2 _ _
  obtain ⟨g, cap, w5, hrun, HBF, HBB⟩ := byte_front (cc := cc) (x := 3) (by omega) (bat_belowD hB hb1) hcn0 (show ((w.alloc (.cells #[.int .i64 0, .int .i64 0, .slice none 0 0, .slice none 0 0] 28)).alloc (.cells #[.int .u8 3] 5)).heap[w.heap.size + 1]? = some (.cells #[.int .u8 3] 5 (0, 0)) from heap_at _ _ _ (by simp))
  have HR0 : Hid (w5.heap[w.heap.size]? = some (.cells #[.int .i64 0, .int .i64 0, .slice none 0 0, .slice none 0 0] 28 (0, 0))) := (HBB.out.block w.heap.size (by simp)).trans block_at2
  have HBW : Hid (Below w.heap.size w w5) := hb1.trans (HBB.out.mono (by simp))
  clear hB
  have hs := l1Source_any (some ⟨g, 0, none⟩) (cn + 1) cap w5
  have hcn : cn + 1 ≤ 1048577 := by omega
  go_enter Tryz.func5, Tryz.ntmps5
  go_upto_region 3 with (first
    | (at_builtin; go_must (refine wpList_append_runC (by rfl) _ _ _ (by rfl) (by rfl) (by rfl) hrun ?_); clear hrun)
    | (go_at_call 13; (with_reducible refine hs.mono ?_); clear hs; rintro e v1 ⟨rfl, hS⟩; have HS1 : Hid (Src w5 v1 w5.heap.size (some ⟨g, 0, none⟩) (cn + 1) cap 0) := hS; have HBV : Hid (Below w.heap.size w v1) := HBW.out.trans (hS.bel.mono HBW.out.size); clear hS; have h1 := drawCheckTx_any ca cn cc l0 v1 (by omega) (bat_belowD HBA.out HBV.out))
    | (go_at_call 14; (with_reducible refine h1.mono ?_); clear h1; rintro e v2 ⟨t2, LB, ta, tn, tc, ga, gm, gc, ss, gs, z, hh, rfl, ht2, HCK⟩; have HCF := (show Hid _ from HCK); clear HCK))
  obtain ⟨SB, hSB⟩ : ∃ x, x = w5.heap.size := ⟨_, rfl⟩
  obtain ⟨R, hR⟩ : ∃ x, x = w.heap.size := ⟨_, rfl⟩
  obtain ⟨TB, hTB⟩ : ∃ x, x = v2.heap.size + 1 := ⟨_, rfl⟩
  have hRw : R < w5.heap.size := by rw [hR]; exact lt_of_block HR0.out
  have hg := HBF.out.2
  have hv1 := HS1.out.lt
  have hv2 := HCF.out.src.bel
  have hLB := lt_of_block HCF.out.b9
  have hlo := HCF.out.ord
  have hbx : Below v2.heap.size v2 ((v2.alloc (.cells #[.slice ta tn tc, .slice ga gm gc] 46)).alloc (.cells #[.int .i64 z.k, .int .i64 z.f, .slice z.ia z.rs.length z.ic, .slice z.oa z.os.length z.oc] 28)) := below_box2 _ _
  have hall : Below v1.heap.size v1 ((v2.alloc (.cells #[.slice ta tn tc, .slice ga gm gc] 46)).alloc (.cells #[.int .i64 z.k, .int .i64 z.f, .slice z.ia z.rs.length z.ic, .slice z.oa z.os.length z.oc] 28)) := hv2.trans (hbx.mono hv2.size)
  obtain ⟨B, hBB⟩ : ∃ x, x = v1.heap.size + 3 := ⟨_, rfl⟩
  have HDF : Hid (SpF w ((v2.alloc (.cells #[.slice ta tn tc, .slice ga gm gc] 46)).alloc (.cells #[.int .i64 z.k, .int .i64 z.f, .slice z.ia z.rs.length z.ic, .slice z.oa z.os.length z.oc] 28)) SB R B TB (some ⟨g, 0, none⟩) (cn + 1) cap 0 (3 :: l0) z #[.int .i64 0, .int .i64 0, .slice none 0 0, .slice none 0 0]) := by
    refine ⟨⟨w5, ⟨HBF.out.1, hRw, fun b off e => by cases e; omega⟩, ?_⟩, ?_, ?_, ?_, HBV.out.trans (hall.mono HBV.out.size), by omega, by omega, by omega, by omega⟩
    · rw [hSB]; exact HS1.out.step hall
    · rw [hTB]; exact heap_at _ _ _ (by simp)
    · rw [hR]
      exact (hall.block _ (by omega)).trans ((HS1.out.bel.block _ (by omega)).trans HR0.out)
    · rw [hBB]; exact HCF.out.drq.turn (Chg.of_below hbx 0 _)
  rw [← hSB, ← hR, ← hTB]
  obtain ⟨wc, hwc⟩ : ∃ x, x = (v2.alloc (.cells #[.slice ta tn tc, .slice ga gm gc] 46)).alloc (.cells #[.int .i64 z.k, .int .i64 z.f, .slice z.ia z.rs.length z.ic, .slice z.oa z.os.length z.oc] 28) := ⟨_, rfl⟩
  rw [← hwc] at HDF ⊢
  obtain ⟨cd, ha⟩ : ∃ x, x = some (⟨g, 0, none⟩ : Addr) := ⟨_, rfl⟩
  obtain ⟨n, hn⟩ : ∃ x, x = cn + 1 := ⟨_, rfl⟩
  obtain ⟨l, hl⟩ : ∃ x, x = 3 :: l0 := ⟨_, rfl⟩
  obtain ⟨c, hc⟩ : ∃ x, x = cap := ⟨_, rfl⟩
  rw [← ha, ← hn, ← hl, ← hc] at HDF
  rw [← hn] at hcn
  have HDF0 := HDF
  clear HDF
  obtain ⟨t0, ht0b, HDF⟩ : ∃ t0, t0 ≤ 300 ∧ Hid (SpF w wc SB R B TB cd n c t0 l z #[.int .i64 0, .int .i64 0, .slice none 0 0, .slice none 0 0]) := ⟨0, by omega, HDF0⟩
  clear HDF0 hbx hall HCF HS1 HBV HBF HBB HBW HR0 hRw hg hv1 hv2 hLB hlo hBB hSB hR hTB hwc ha hn hl hc ht2
  go_wp2
  refine wp_region_any (by kernel_rfl) ?_
  change wpAny _ _ _ _ _ _ _ (World.drew _)
  refine wpAny_inv (fun L a V => ∃ (b0 b1 b2 b3 b4 b5 b6 b7 b8 b9 b10 b11 b12 b13 b14 b15 : Bool) (x0 x1 x2 x3 x4 x5 x6 x7 x8 x9 x10 x11 x12 x13 x14 x15 : Value), L = #[b0, b1, b2, b3, b4, b5, b6, b7, b8, b9, b10, b11, b12, b13, b14, b15] ∧ Fr 34 [some 22, some 23, some 24, some 25, some 26, some 27, some 28, some 29, some 30, some 31, some 32, some 33, some 2, none, some 4, some 5, some 3, some 6, some 8, some 9, some 10] [b0, b1, b2, b3, b4, b5, b6, b7, b8, b9, b10, b11, b12, b13, b14, b15, true, true, true, true, true] [x0, x1, x2, x3, x4, x5, x6, x7, x8, x9, x10, x11, x12, x13, x14, x15, .pointer (some ⟨R, 0, none⟩), .pointer (some ⟨SB, 0, none⟩), .slice z.va z.cs.length z.vc, .pointer (some ⟨TB, 0, none⟩), .int .i64 hh] a ∧ R16 w SB R B TB cd n c t0 l z hh V b0 b1 b2 b3 b4 b5 b6 b7 b8 b9 b10 b11 b12 b13 b14 b15 x0 x1 x2 x3 x4 x5 x6 x7 x8 x9 x10 x11 x12 x13 x14 x15) ?step ?done _ _ _ _ (by simp) ?start
  case start =>
    refine ⟨false, false, false, false, false, false, false, false, false, false, false, false, false, false, false, false, undef, undef, undef, undef, undef, undef, undef, undef, undef, undef, undef, undef, undef, undef, undef, undef, rfl, ⟨rfl, rfl, rfl, rfl, fun i d h1 h2 => ?_⟩, ?_⟩
    · have hlt : i < 21 := (List.getElem?_eq_some_iff.1 h1).1
      obtain rfl | rfl | rfl | rfl | rfl | rfl | rfl | rfl | rfl | rfl | rfl | rfl | rfl | rfl | rfl | rfl | rfl | rfl | rfl | rfl | rfl : i = 0 ∨ i = 1 ∨ i = 2 ∨ i = 3 ∨ i = 4 ∨ i = 5 ∨ i = 6 ∨ i = 7 ∨ i = 8 ∨ i = 9 ∨ i = 10 ∨ i = 11 ∨ i = 12 ∨ i = 13 ∨ i = 14 ∨ i = 15 ∨ i = 16 ∨ i = 17 ∨ i = 18 ∨ i = 19 ∨ i = 20 := by omega
      all_goals first | exact absurd h2 (by decide) | (have := Option.some.inj (Option.some.inj h1); subst this; rfl)
    · exact { m0 := ⟨t0, Nat.le_refl _, HDF.out.step (Below.refl _ _).drew⟩, e4 := nofun, e5 := nofun, e7 := nofun, e8 := nofun, e9 := nofun, e10 := nofun, e14 := nofun, g0 := nofun, g1 := nofun, g2 := nofun, g3 := nofun, g6 := nofun, g11 := nofun, g12 := nofun, g15 := nofun, o4_3 := nofun, o5_4 := nofun, o7_6 := nofun, o7_4 := nofun, o8_7 := nofun, o9_5 := nofun, o9_8 := nofun, o10_2 := nofun, o10_9 := nofun, o12_0 := nofun, o13_1 := nofun, o14_10 := nofun, o15_11 := nofun }
  case done =>
    rintro L a V ⟨b0, b1, b2, b3, b4, b5, b6, b7, b8, b9, b10, b11, b12, b13, b14, b15, x0, x1, x2, x3, x4, x5, x6, x7, x8, x9, x10, x11, x12, x13, x14, x15, rfl, FR, H⟩ hr
    have hall := ready_all (by kernel_rfl) hr
    obtain ⟨tm, df⟩ := a
    obtain rfl : df = [] := FR.hd
    obtain ⟨F, hF⟩ := arr_of FR.hs
    have hF2 : tm = #[F 0, F 1, F 2, F 3, F 4, F 5, F 6, F 7, F 8, F 9, F 10, F 11, F 12, F 13, F 14, F 15, F 16, F 17, F 18, F 19, F 20, F 21, F 22, F 23, F 24, F 25, F 26, F 27, F 28, F 29, F 30, F 31, F 32, F 33] := hF
    subst hF2
    have kk3 : F 3 = .pointer (some ⟨R, 0, none⟩) := Option.some.inj (FR.get 16 3 rfl rfl)
    have kk6 : F 6 = .pointer (some ⟨SB, 0, none⟩) := Option.some.inj (FR.get 17 6 rfl rfl)
    have kk8 : F 8 = .slice z.va z.cs.length z.vc := Option.some.inj (FR.get 18 8 rfl rfl)
    have kk9 : F 9 = .pointer (some ⟨TB, 0, none⟩) := Option.some.inj (FR.get 19 9 rfl rfl)
    have kk10 : F 10 = .int .i64 hh := Option.some.inj (FR.get 20 10 rfl rfl)
    obtain rfl : b12 = true := hall 12 (by decide)
    obtain rfl : b13 = true := hall 13 (by decide)
    obtain rfl : b14 = true := hall 14 (by decide)
    obtain rfl : b15 = true := hall 15 (by decide)
    obtain ⟨t1, ht1, hD⟩ := H.m0
    obtain rfl := H.g12 rfl
    obtain rfl := H.g15 rfl
    obtain ⟨id, rfl⟩ := H.e14 rfl
    have kr12 : F 2 = .slice z.va z.cs.length z.vc := Option.some.inj (FR.get 12 2 rfl rfl)
    have kr14 : F 4 = .int .i64 id := Option.some.inj (FR.get 14 4 rfl rfl)
    have kr15 : F 5 = .int .i64 hh := Option.some.inj (FR.get 15 5 rfl rfl)
    rw [kr12, kr14, kr15]
    rw [kk3, kk6, kk8, kk9, kk10]
    have HDE : Hid (SpF w V SB R B TB cd n c t1 l z #[.int .i64 z.k, .int .i64 z.f, .slice z.ia z.rs.length z.ic, .slice z.oa z.os.length z.oc]) := hD
    clear hD H hr hall FR kk3 kk6 kk8 kk9 kk10 kr12 kr14 kr15 hF
    obtain ⟨q0, q1, q2, q3, _⟩ := cells4 HDE.out.res
    go_wp2
    refine bodyPost_ret (v := .tuple #[.slice z.va z.cs.length z.vc, .agg #[.int .i64 z.k, .int .i64 z.f, .slice z.ia z.rs.length z.ic, .slice z.oa z.os.length z.oc], .int .i64 id, .int .i64 hh]) (by simp [results, Tryz.results5, go_sem, q0, q1, q2, q3]) rfl ?_
    exact ⟨z, id, hh, rfl, ⟨B, by have := HDE.out.ord; omega, HDE.out.q⟩, HDE.out.bel⟩
  case step =>
    rintro L a V i ⟨b0, b1, b2, b3, b4, b5, b6, b7, b8, b9, b10, b11, b12, b13, b14, b15, x0, x1, x2, x3, x4, x5, x6, x7, x8, x9, x10, x11, x12, x13, x14, x15, rfl, FR, H⟩ hi
    have hlt : i < 16 := ready_lt hi
    obtain rfl | rfl | rfl | rfl | rfl | rfl | rfl | rfl | rfl | rfl | rfl | rfl | rfl | rfl | rfl | rfl : i = 0 ∨ i = 1 ∨ i = 2 ∨ i = 3 ∨ i = 4 ∨ i = 5 ∨ i = 6 ∨ i = 7 ∨ i = 8 ∨ i = 9 ∨ i = 10 ∨ i = 11 ∨ i = 12 ∨ i = 13 ∨ i = 14 ∨ i = 15 := by omega
    · obtain rfl : b0 = false := ready_new hi
      have k8 : a.tmps[8]? = some (.slice z.va z.cs.length z.vc) := FR.get 18 8 rfl rfl
      refine wpOp_run (o := _) rfl (fun K hK => ?_)
      go_simp
      refine hK _ _ ?_
      exact ⟨_, _, _, _, _, _, _, _, _, _, _, _, _, _, _, _, _, _, _, _, _, _, _, _, _, _, _, _, _, _, _, _, rfl, FR.put 0 22 (by decide), { H with g0 := fun _ => rfl, o12_0 := fun _ => rfl }⟩
    · obtain rfl : b1 = false := ready_new hi
      obtain ⟨t1, ht1, hD⟩ := H.m0
      obtain ⟨c0, c1, c2, c3, _⟩ := cells4 hD.box
      have k9 : a.tmps[9]? = some (.pointer (some ⟨TB, 0, none⟩)) := FR.get 19 9 rfl rfl
      refine wpOp_run (o := _) rfl (fun K hK => ?_)
      go_simp
      refine hK _ _ ?_
      exact ⟨_, _, _, _, _, _, _, _, _, _, _, _, _, _, _, _, _, _, _, _, _, _, _, _, _, _, _, _, _, _, _, _, rfl, FR.put 1 23 (by decide), { H with g1 := fun _ => rfl, o13_1 := fun _ => rfl }⟩
    · obtain rfl : b2 = false := ready_new hi
      have k6 : a.tmps[6]? = some (.pointer (some ⟨SB, 0, none⟩)) := FR.get 17 6 rfl rfl
      refine wpOp_run (o := _) rfl (fun K hK => ?_)
      go_simp
      refine hK _ _ ?_
      exact ⟨_, _, _, _, _, _, _, _, _, _, _, _, _, _, _, _, _, _, _, _, _, _, _, _, _, _, _, _, _, _, _, _, rfl, FR.put 2 24 (by decide), { H with g2 := fun _ => rfl, o10_2 := fun _ => rfl }⟩
    · obtain rfl : b3 = false := ready_new hi
      have k6 : a.tmps[6]? = some (.pointer (some ⟨SB, 0, none⟩)) := FR.get 17 6 rfl rfl
      refine wpOp_run (o := _) rfl (fun K hK => ?_)
      go_simp
      refine hK _ _ ?_
      exact ⟨_, _, _, _, _, _, _, _, _, _, _, _, _, _, _, _, _, _, _, _, _, _, _, _, _, _, _, _, _, _, _, _, rfl, FR.put 3 25 (by decide), { H with g3 := fun _ => rfl, o4_3 := fun _ => rfl }⟩
    · obtain rfl : b4 = false := ready_new hi
      obtain rfl : b3 = true := ready_dep (d := 3) hi (by kernel_rfl)
      obtain rfl := H.g3 rfl
      obtain rfl : b5 = false := Bool.eq_false_iff.2 (fun h => by have := H.o5_4 h; simp at this)
      obtain rfl : b7 = false := Bool.eq_false_iff.2 (fun h => by have := H.o7_4 h; simp at this)
      obtain rfl : b8 = false := Bool.eq_false_iff.2 (fun h => by have := H.o8_7 h; simp at this)
      obtain rfl : b9 = false := Bool.eq_false_iff.2 (fun h => by have := H.o9_8 h; simp at this)
      obtain rfl : b10 = false := Bool.eq_false_iff.2 (fun h => by have := H.o10_9 h; simp at this)
      obtain rfl : b14 = false := Bool.eq_false_iff.2 (fun h => by have := H.o14_10 h; simp at this)
      obtain ⟨t1, ht1, hD⟩ := H.m0
      obtain ⟨w0, hB0, hS0⟩ := hD.src
      have ht2 : t1 ≤ t0 + 0 := ht1
      have hN := l1Next_any SB n c t1 cd l 9 w0 V (by omega) (by omega) hcn hB0.1 hS0
      have l3 : a.tmps[25]? = some (.pointer (some ⟨SB, 0, none⟩)) := FR.get 3 25 rfl rfl
      refine wpOp_run (o := _) rfl (fun K hK => ?_)
      go_simp
      go_at_call 16
      refine hN.mono ?_
      rintro e v5 ⟨y, rfl, ⟨z0, z1⟩, hS, hc⟩
      have z2 : y < 9 := z1 (by omega)
      have hD5 := hD.draw hB0 hS hc
      go_simp
      refine hK _ _ ?_
      exact ⟨_, _, _, _, _, _, _, _, _, _, _, _, _, _, _, _, _, _, _, _, _, _, _, _, _, _, _, _, _, _, _, _, rfl, FR.put 4 26 (by decide), { H with m0 := ⟨t1 + 1, Nat.succ_le_succ ht2, hD5⟩, e4 := fun _ => ⟨y, rfl, z0, z2⟩, e9 := nofun, o5_4 := fun _ => rfl, o7_4 := fun _ => rfl, o4_3 := fun _ => rfl }⟩
    · obtain rfl : b5 = false := ready_new hi
      obtain rfl : b4 = true := ready_dep (d := 4) hi (by kernel_rfl)
      obtain rfl : b3 = true := H.o4_3 rfl
      obtain ⟨y, rfl, z0, z1⟩ := H.e4 rfl
      have hw := IntWalk.i64_in (20 + y) (by omega)
      have l4 : a.tmps[26]? = some (.int .i64 y) := FR.get 4 26 rfl rfl
      refine wpOp_run (o := _) rfl (fun K hK => ?_)
      go_simp
      refine hK _ _ ?_
      exact ⟨_, _, _, _, _, _, _, _, _, _, _, _, _, _, _, _, _, _, _, _, _, _, _, _, _, _, _, _, _, _, _, _, rfl, FR.put 5 27 (by decide), { H with e5 := fun _ => ⟨_, rfl⟩, o9_5 := fun _ => rfl, o5_4 := fun _ => rfl }⟩
    · obtain rfl : b6 = false := ready_new hi
      have k6 : a.tmps[6]? = some (.pointer (some ⟨SB, 0, none⟩)) := FR.get 17 6 rfl rfl
      refine wpOp_run (o := _) rfl (fun K hK => ?_)
      go_simp
      refine hK _ _ ?_
      exact ⟨_, _, _, _, _, _, _, _, _, _, _, _, _, _, _, _, _, _, _, _, _, _, _, _, _, _, _, _, _, _, _, _, rfl, FR.put 6 28 (by decide), { H with g6 := fun _ => rfl, o7_6 := fun _ => rfl }⟩
    · obtain rfl : b7 = false := ready_new hi
      obtain rfl : b6 = true := ready_dep (d := 6) hi (by kernel_rfl)
      obtain rfl := H.g6 rfl
      obtain rfl : b4 = true := ready_dep (d := 4) hi (by kernel_rfl)
      obtain rfl : b8 = false := Bool.eq_false_iff.2 (fun h => by have := H.o8_7 h; simp at this)
      obtain rfl : b9 = false := Bool.eq_false_iff.2 (fun h => by have := H.o9_8 h; simp at this)
      obtain rfl : b10 = false := Bool.eq_false_iff.2 (fun h => by have := H.o10_9 h; simp at this)
      obtain rfl : b14 = false := Bool.eq_false_iff.2 (fun h => by have := H.o14_10 h; simp at this)
      obtain ⟨t1, ht1, hD⟩ := H.m0
      obtain ⟨w0, hB0, hS0⟩ := hD.src
      have ht2 : t1 ≤ t0 + 1 := ht1
      have hN := l1Next_any SB n c t1 cd l 9 w0 V (by omega) (by omega) hcn hB0.1 hS0
      have l6 : a.tmps[28]? = some (.pointer (some ⟨SB, 0, none⟩)) := FR.get 6 28 rfl rfl
      refine wpOp_run (o := _) rfl (fun K hK => ?_)
      go_simp
      go_at_call 16
      refine hN.mono ?_
      rintro e v5 ⟨y, rfl, ⟨z0, z1⟩, hS, hc⟩
      have z2 : y < 9 := z1 (by omega)
      have hD5 := hD.draw hB0 hS hc
      go_simp
      refine hK _ _ ?_
      exact ⟨_, _, _, _, _, _, _, _, _, _, _, _, _, _, _, _, _, _, _, _, _, _, _, _, _, _, _, _, _, _, _, _, rfl, FR.put 7 29 (by decide), { H with m0 := ⟨t1 + 1, Nat.succ_le_succ ht2, hD5⟩, e7 := fun _ => ⟨y, rfl, z0, z2⟩, e9 := nofun, o8_7 := fun _ => rfl, o7_6 := fun _ => rfl, o7_4 := fun _ => rfl }⟩
    · obtain rfl : b8 = false := ready_new hi
      obtain rfl : b7 = true := ready_dep (d := 7) hi (by kernel_rfl)
      obtain rfl : b6 = true := H.o7_6 rfl
      obtain ⟨y, rfl, z0, z1⟩ := H.e7 rfl
      have hw := IntWalk.i64_in (20 + y) (by omega)
      have l7 : a.tmps[29]? = some (.int .i64 y) := FR.get 7 29 rfl rfl
      refine wpOp_run (o := _) rfl (fun K hK => ?_)
      go_simp
      refine hK _ _ ?_
      exact ⟨_, _, _, _, _, _, _, _, _, _, _, _, _, _, _, _, _, _, _, _, _, _, _, _, _, _, _, _, _, _, _, _, rfl, FR.put 8 30 (by decide), { H with e8 := fun _ => ⟨_, rfl⟩, o9_8 := fun _ => rfl, o8_7 := fun _ => rfl }⟩
    · obtain rfl : b9 = false := ready_new hi
      obtain rfl : b5 = true := ready_dep (d := 5) hi (by kernel_rfl)
      obtain rfl : b8 = true := ready_dep (d := 8) hi (by kernel_rfl)
      obtain rfl : b4 = true := H.o5_4 rfl
      obtain rfl : b7 = true := H.o8_7 rfl
      obtain rfl : b3 = true := H.o4_3 rfl
      obtain rfl : b6 = true := H.o7_6 rfl
      obtain rfl : b10 = false := Bool.eq_false_iff.2 (fun h => by have := H.o10_9 h; simp at this)
      obtain rfl : b14 = false := Bool.eq_false_iff.2 (fun h => by have := H.o14_10 h; simp at this)
      obtain ⟨y1, rfl⟩ := H.e5 rfl
      obtain ⟨y2, rfl⟩ := H.e8 rfl
      obtain ⟨t1, ht1, hD⟩ := H.m0
      have hsl := hD.lt
      have hR := hD.ord
      have l5 : a.tmps[27]? = some (.int .i64 y1) := FR.get 5 27 rfl rfl
      have l8 : a.tmps[30]? = some (.int .i64 y2) := FR.get 8 30 rfl rfl
      refine wpOp_run (o := _) rfl (fun K hK => ?_)
      go_simp
      refine hK _ _ ?_
      exact ⟨_, _, _, _, _, _, _, _, _, _, _, _, _, _, _, _, _, _, _, _, _, _, _, _, _, _, _, _, _, _, _, _, rfl, FR.put 9 31 (by decide), { H with m0 := ⟨t1, ht1, hD.step (below_box _)⟩, e9 := fun _ _ => ⟨_, y1, y2, rfl, hsl, (by omega), heap_alloc_new _ _⟩, o10_9 := fun _ => rfl, o9_5 := fun _ => rfl, o9_8 := fun _ => rfl }⟩
    · obtain rfl : b10 = false := ready_new hi
      obtain rfl : b2 = true := ready_dep (d := 2) hi (by kernel_rfl)
      obtain rfl : b9 = true := ready_dep (d := 9) hi (by kernel_rfl)
      obtain rfl : b5 = true := H.o9_5 rfl
      obtain rfl : b8 = true := H.o9_8 rfl
      obtain rfl : b4 = true := H.o5_4 rfl
      obtain rfl : b7 = true := H.o8_7 rfl
      obtain rfl : b3 = true := H.o4_3 rfl
      obtain rfl : b6 = true := H.o7_6 rfl
      obtain rfl := H.g2 rfl
      obtain rfl : b14 = false := Bool.eq_false_iff.2 (fun h => by have := H.o14_10 h; simp at this)
      obtain ⟨A, y1, y2, ea, hA, hAR, hv⟩ := H.e9 rfl rfl
      subst ea
      obtain ⟨t1, ht1, hD⟩ := H.m0
      obtain ⟨w0, hB0, hS0⟩ := hD.src
      have ht2 : t1 ≤ t0 + 2 := ht1
      have hN := l1Pick_any SB n c t1 4 4 cd (some ⟨A, 0, none⟩) l [y1, y2, 1, 61] w0 V (by omega) (by omega) (by omega) hcn hB0.1 hS0 (iatF4 hv) (fun b off e => (by cases e; omega))
      have l2 : a.tmps[24]? = some (.pointer (some ⟨SB, 0, none⟩)) := FR.get 2 24 rfl rfl
      have l9 : a.tmps[31]? = some (.slice (some ⟨A, 0, none⟩) 4 4) := FR.get 9 31 rfl rfl
      refine wpOp_run (o := _) rfl (fun K hK => ?_)
      go_simp
      go_at_call 15
      refine hN.mono ?_
      rintro e v5 ⟨y, rfl, _, hS, hc⟩
      have hD5 := hD.draw hB0 hS hc
      go_simp
      refine hK _ _ ?_
      exact ⟨_, _, _, _, _, _, _, _, _, _, _, _, _, _, _, _, _, _, _, _, _, _, _, _, _, _, _, _, _, _, _, _, rfl, FR.put 10 32 (by decide), { H with m0 := ⟨t1 + 1, Nat.succ_le_succ ht2, hD5⟩, e9 := fun _ h => (by cases h), e10 := fun _ => ⟨y, rfl⟩, o14_10 := fun _ => rfl, o10_2 := fun _ => rfl, o10_9 := fun _ => rfl }⟩
    · obtain rfl : b11 = false := ready_new hi
      have k10 : a.tmps[10]? = some (.int .i64 hh) := FR.get 20 10 rfl rfl
      refine wpOp_run (o := _) rfl (fun K hK => ?_)
      go_simp
      refine hK _ _ ?_
      exact ⟨_, _, _, _, _, _, _, _, _, _, _, _, _, _, _, _, _, _, _, _, _, _, _, _, _, _, _, _, _, _, _, _, rfl, FR.put 11 33 (by decide), { H with g11 := fun _ => rfl, o15_11 := fun _ => rfl }⟩
    · obtain rfl : b12 = false := ready_new hi
      obtain rfl : b0 = true := ready_dep (d := 0) hi (by kernel_rfl)
      obtain rfl := H.g0 rfl
      have l0 : a.tmps[22]? = some (.slice z.va z.cs.length z.vc) := FR.get 0 22 rfl rfl
      refine wpOp_run (o := _) rfl (fun K hK => ?_)
      go_simp
      refine hK _ _ ?_
      exact ⟨_, _, _, _, _, _, _, _, _, _, _, _, _, _, _, _, _, _, _, _, _, _, _, _, _, _, _, _, _, _, _, _, rfl, FR.put 12 2 (by decide), { H with g12 := fun _ => rfl, o12_0 := fun _ => rfl }⟩
    · obtain rfl : b13 = false := ready_new hi
      obtain rfl : b1 = true := ready_dep (d := 1) hi (by kernel_rfl)
      obtain rfl := H.g1 rfl
      obtain ⟨t1, ht1, hD⟩ := H.m0
      have hres := hD.res
      obtain ⟨r0, r1, r2, r3, r4, r5, r6, r7⟩ := cells4 hres
      have hD5 := hD.out4
      have l1 : a.tmps[23]? = some (.agg #[.int .i64 z.k, .int .i64 z.f, .slice z.ia z.rs.length z.ic, .slice z.oa z.os.length z.oc]) := FR.get 1 23 rfl rfl
      have k3 : a.tmps[3]? = some (.pointer (some ⟨R, 0, none⟩)) := FR.get 16 3 rfl rfl
      refine wpOp_run (o := _) rfl (fun K hK => ?_)
      go_simp
      refine hK _ _ ?_
      exact ⟨_, _, _, _, _, _, _, _, _, _, _, _, _, _, _, _, _, _, _, _, _, _, _, _, _, _, _, _, _, _, _, _, rfl, FR.skip 13 rfl, { H with m0 := ⟨t1, ht1, hD5⟩, e9 := fun h h2 => (by obtain ⟨A, y1, y2, e, hA, hAR, hv⟩ := H.e9 h h2; exact ⟨A, y1, y2, e, hA, hAR, (four_farC hAR _ _ _ _).trans hv⟩), o13_1 := fun _ => rfl }⟩
    · obtain rfl : b14 = false := ready_new hi
      obtain rfl : b10 = true := ready_dep (d := 10) hi (by kernel_rfl)
      obtain rfl : b2 = true := H.o10_2 rfl
      obtain rfl : b9 = true := H.o10_9 rfl
      obtain rfl : b5 = true := H.o9_5 rfl
      obtain rfl : b8 = true := H.o9_8 rfl
      obtain rfl : b4 = true := H.o5_4 rfl
      obtain rfl : b7 = true := H.o8_7 rfl
      obtain rfl : b3 = true := H.o4_3 rfl
      obtain rfl : b6 = true := H.o7_6 rfl
      obtain ⟨y, rfl⟩ := H.e10 rfl
      have l10 : a.tmps[32]? = some (.int .i64 y) := FR.get 10 32 rfl rfl
      refine wpOp_run (o := _) rfl (fun K hK => ?_)
      go_simp
      refine hK _ _ ?_
      exact ⟨_, _, _, _, _, _, _, _, _, _, _, _, _, _, _, _, _, _, _, _, _, _, _, _, _, _, _, _, _, _, _, _, rfl, FR.put 14 4 (by decide), { H with e14 := fun _ => ⟨y, rfl⟩, o14_10 := fun _ => rfl }⟩
    · obtain rfl : b15 = false := ready_new hi
      obtain rfl : b11 = true := ready_dep (d := 11) hi (by kernel_rfl)
      obtain rfl := H.g11 rfl
      have l11 : a.tmps[33]? = some (.int .i64 hh) := FR.get 11 33 rfl rfl
      refine wpOp_run (o := _) rfl (fun K hK => ?_)
      go_simp
      refine hK _ _ ?_
      exact ⟨_, _, _, _, _, _, _, _, _, _, _, _, _, _, _, _, _, _, _, _, _, _, _, _, _, _, _, _, _, _, _, _, rfl, FR.put 15 5 (by decide), { H with g15 := fun _ => rfl, o15_11 := fun _ => rfl }⟩
end Go.Proofs.YthjolannlefbcaaGreatDoor
