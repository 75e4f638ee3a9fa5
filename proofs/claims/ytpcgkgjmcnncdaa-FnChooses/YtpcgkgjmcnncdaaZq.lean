/- A voter is drawn, whatever the bytes are. -/
import Derived.Test.YtpcgkgjmcnncdaaZo
import Derived.Test.YtpcgkgjmcnncdaaZj
import Derived.Deep.RegionHeld3
namespace Go.Proofs.Ytpcgkgjmcnncdaa
open Go.RowKit Go.Maps Go.WideMaps

theorem good_small {p q t : Int} (h0 : 1 ≤ p) (h1 : p ≤ 60) (h2 : 0 ≤ q) (h3 : q ≤ 3) (h4 : 1 ≤ t) (h5 : t ≤ 60) : goodC (p, q, t) = true := by
  unfold goodC refB
  simp only [inB_true.2 ⟨h0, h1⟩, inB_true.2 ⟨h2, h3⟩, inB_true.2 ⟨h4, h5⟩]
  rfl
theorem iatV3 (V : World) (a b c : Int) : IAt (V.alloc (.cells #[.int .i64 a, .int .i64 b, .int .i64 c] 2)) (some ⟨V.heap.size, 0, none⟩) 3 [a, b, c] :=
  ⟨rfl, .inr ⟨V.heap.size, 0, rfl, by simp, fun j hj => by
    have h := heap_alloc_new V (.cells #[.int .i64 a, .int .i64 b, .int .i64 c] 2)
    match j, hj with
    | 0, _ => unfold World.cell?; rw [h]; rfl
    | 1, _ => unfold World.cell?; rw [h]; rfl
    | 2, _ => unfold World.cell?; rw [h]; rfl⟩⟩
section
variable {w v V V' : World} {SB : Nat} {ca : Option Addr} {cn cc t t' LB : Nat} {k l : Int} {va : Option Addr} {n vc : Nat} {ms : List Mb}
theorem Dv.setX (h : Dv w v V SB ca cn cc t LB k l va n vc ms) {i : Nat} {u : Value} {k' l' : Int} {a0 : Option Addr} {m d0 base : Nat} {ms' : List Mb} (hb : (V.setCell ⟨LB, i, none⟩ u).heap[LB]? = some (.cells #[.int .i64 k', .int .i64 l', .slice a0 m d0] 26 (0, 0))) (ho : V.ownsRow base 44 3 (.slice a0 m d0) m (mcells ms')) (hbase : v.heap.size ≤ base) (hm : ms'.length = m) :
    Dv w v (V.setCell ⟨LB, i, none⟩ u) SB ca cn cc t LB k' l' a0 m d0 ms' := by
  have hord := h.ord
  have hsb := h.src.sb
  have hvs := h.chg.size
  have kp : ∀ b, b ≠ LB → (V.setCell ⟨LB, i, none⟩ u).heap[b]? = V.heap[b]? := fun b hb => Below.heap_setCell V ⟨LB, i, none⟩ u b hb
  have hbl : Below LB V (V.setCell ⟨LB, i, none⟩ u) := (Below.refl _ _).setCell (p := ⟨LB, i, none⟩) (Nat.le_refl _) _
  have hne : (Value.slice a0 m d0).ownBlock ≠ some LB := row_neV ho h.box (of_decide_eq_true (by kernel_rfl))
  exact ⟨⟨(kp SB (by omega)).trans h.src.box, h.src.bel.trans (hbl.mono (by omega)), hsb⟩, ⟨hbl.os.trans h.chg.os, hbl.tape.trans h.chg.tape, hbl.output.trans h.chg.output, Nat.le_trans hvs hbl.size, fun b h1 h2 => (kp b (by omega)).trans (h.chg.block b h1 h2)⟩, hb, (kp _ (by omega)).trans h.res, Joins.ownsRow_le (ownsRow_setCell_other ho (a := ⟨LB, i, none⟩) hne _) hbase, hm, hord⟩
theorem Dv.set0 (h : Dv w v V SB ca cn cc t LB k l va n vc ms) (z : Int) : Dv w v (V.setCell ⟨LB, 0, none⟩ (.int .i64 z)) SB ca cn cc t LB z l va n vc ms := by
  have := Joins.block_setCell (i := 0) h.box (.int .i64 z)
  exact h.setX (by simpa using this) h.row (Nat.le_refl _) h.len
theorem Dv.set1 (h : Dv w v V SB ca cn cc t LB k l va n vc ms) (z : Int) : Dv w v (V.setCell ⟨LB, 1, none⟩ (.int .i64 z)) SB ca cn cc t LB k z va n vc ms := by
  have := Joins.block_setCell (i := 1) h.box (.int .i64 z)
  exact h.setX (by simpa using this) h.row (Nat.le_refl _) h.len
theorem Dv.ret (h : Dv w v V SB ca cn cc t LB k l va n vc ms) {T : Nat} (hn : n ≤ 41) (hT : t ≤ T) : OutDv w v SB ca cn cc T (.returned (.agg #[.int .i64 k, .int .i64 l, .slice va n vc])) (((V.setCell ⟨v.heap.size, 0, none⟩ (.int .i64 k)).setCell ⟨v.heap.size, 1, none⟩ (.int .i64 l)).setCell ⟨v.heap.size, 2, none⟩ (.slice va n vc)) := by
  have hord := h.ord
  have hsb := h.src.sb
  have hvs := h.chg.size
  have kp : ∀ b, b ≠ v.heap.size → (((V.setCell ⟨v.heap.size, 0, none⟩ (.int .i64 k)).setCell ⟨v.heap.size, 1, none⟩ (.int .i64 l)).setCell ⟨v.heap.size, 2, none⟩ (.slice va n vc)).heap[b]? = V.heap[b]? := fun b hb => heap_set3 hb _ _ _
  have hbl : Below v.heap.size V (((V.setCell ⟨v.heap.size, 0, none⟩ (.int .i64 k)).setCell ⟨v.heap.size, 1, none⟩ (.int .i64 l)).setCell ⟨v.heap.size, 2, none⟩ (.slice va n vc)) := below_set3 (Below.refl _ _) (Nat.le_refl _) _ _ _
  have hne : (Value.slice va n vc).ownBlock ≠ some v.heap.size := row_neV h.row h.res (of_decide_eq_true (by kernel_rfl))
  exact ⟨k, l, va, n, vc, ms, t, rfl, ⟨hn, hT, h.len⟩, ⟨(kp SB (by omega)).trans h.src.box, h.src.bel.trans (hbl.mono (by omega)), hsb⟩, ⟨hbl.os.trans h.chg.os, hbl.tape.trans h.chg.tape, hbl.output.trans h.chg.output, Nat.le_trans hvs hbl.size, fun b h1 h2 => (kp b (by omega)).trans (h.chg.block b h1 h2)⟩, ownsRow_setCell_other (ownsRow_setCell_other (ownsRow_setCell_other h.row (a := ⟨v.heap.size, 0, none⟩) hne _) (a := ⟨v.heap.size, 1, none⟩) hne _) (a := ⟨v.heap.size, 2, none⟩) hne _⟩
/-- A choice is appended to the voter under way. -/
theorem Dv.more (h : Dv w v V SB ca cn cc t LB k l va n vc ms) (x y z : Int) (hn : n ≤ 1000) :
    ∃ va' vc' v6, (Builtin.append_ #[24, 24] 24 #[.slice va n vc, .slice (some ⟨V.heap.size, 0, none⟩) 1 1]).run Try.prog (V.alloc (.cells #[.int .i64 x, .int .i64 y, .int .i64 z] 44)) = .ok (.slice va' (n + 1) vc') v6 ∧ Hid (v6.heap[LB]? = some (.cells #[.int .i64 k, .int .i64 l, .slice va n vc] 26 (0, 0))) ∧
      Hid (Dv w v (v6.setCell ⟨LB, 2, none⟩ (.slice va' (n + 1) vc')) SB ca cn cc t LB k l va' (n + 1) vc' (ms ++ [(x, y, z)])) := by
  have hb1 : Below V.heap.size V (V.alloc (.cells #[.int .i64 x, .int .i64 y, .int .i64 z] 44)) := below_box _
  have h1 := h.step hb1
  have hord := h.ord
  have hvs := h1.chg.size
  have hsb := h1.src.sb
  obtain ⟨v', v6, hrun, hO, hg, va', vc', rfl⟩ := chos_more (c := 1) h1.row (by omega) (cho_at (heap_alloc_new V (.cells #[.int .i64 x, .int .i64 y, .int .i64 z] 44))) (by omega) hvs
  have nT : (26 : TypeId) ≠ 44 := of_decide_eq_true (by kernel_rfl)
  have n1 := row_neV h1.row h1.box nT
  have n2 := row_neV h1.row h1.res nT
  have n3 : (Value.slice va n vc).ownBlock ≠ some SB := fun e => by have := (h1.row.lt _ e).1; omega
  have k1 : v6.heap[LB]? = some (.cells #[.int .i64 k, .int .i64 l, .slice va n vc] 26 (0, 0)) := (hg.block _ (lt_of_block h1.box) (fun e => n1 e.symm)).trans h1.box
  have k2 := (hg.block _ (lt_of_block h1.res) (fun e => n2 e.symm)).trans h1.res
  have k3 := (hg.block _ (lt_of_block h1.src.box) (fun e => n3 e.symm)).trans h1.src.box
  have hbel : Below w.heap.size w v6 := h1.src.bel.grown hg h1.src.bel.size (fun j e => by have := (h1.row.lt j e).1; omega)
  have hchg : Chg v v6 SB (SB + 1) := ⟨hg.os.trans h1.chg.os, hg.tape.trans h1.chg.tape, hg.output.trans h1.chg.output, Nat.le_trans hvs hg.size, fun b e1 e2 => (hg.block b (by omega) (fun e => by have := (h1.row.lt b e.symm).1; omega)).trans (h1.chg.block b e1 e2)⟩
  have hne := row_neV hO k1 nT
  refine ⟨va', vc', v6, hrun, k1, ?_⟩
  have kp : ∀ b, b ≠ LB → (v6.setCell ⟨LB, 2, none⟩ (.slice va' (n + 1) vc')).heap[b]? = v6.heap[b]? := fun b hb => Below.heap_setCell v6 ⟨LB, 2, none⟩ _ b hb
  have hbl : Below LB v6 (v6.setCell ⟨LB, 2, none⟩ (.slice va' (n + 1) vc')) := (Below.refl _ _).setCell (p := ⟨LB, 2, none⟩) (Nat.le_refl _) _
  exact ⟨⟨(kp SB (by omega)).trans k3, hbel.trans (hbl.mono (by omega)), hsb⟩, ⟨hbl.os.trans hchg.os, hbl.tape.trans hchg.tape, hbl.output.trans hchg.output, Nat.le_trans hchg.size hbl.size, fun b e1 e2 => (kp b (by omega)).trans (hchg.block b e1 e2)⟩, set3_2 k1 _, (kp _ (by omega)).trans k2, ownsRow_setCell_other hO (a := ⟨LB, 2, none⟩) hne _, by rw [List.length_append, h.len]; rfl, h.ord⟩
end
theorem step_append_runZ {P : Program} {w : World} {ops : Array Oper} {o : Oper} {a : Act} {K : Act → World → Prop} {Q : Exit → Act → World → Prop} {E : Prop} (hgd : o.guard = none) (s x : Operand) (t : TypeId)
    (ho : o.op = .call { callee := .builtin .append, args := #[s, x], argTypes := #[t, t] }) {v u v' : Value} {w' : World} (hs : a.eval s = v) (hx : a.eval x = u) (hrun : (Builtin.append_ #[t, t] o.type #[v, u]).run P w = .ok v' w') (h : K (a.put o.dst v') w') :
    if Region.wanted o (yielded ops a.tmps) = true then Oper.wp P o a w K Q else E := by
  have hw : Region.wanted o (yielded ops a.tmps) = true := by simp [Region.wanted, hgd]
  rw [if_pos hw]
  unfold Oper.wp
  simp [execOp, ho, resolve, invoke, builtin, hs, hx, hrun, Result.andThen]
  exact h
theorem iat_blk3 {V : World} {X : Nat} {a b c : Int} (h : V.heap[X]? = some (.cells #[.int .i64 a, .int .i64 b, .int .i64 c] 2 (0, 0))) : IAt V (some ⟨X, 0, none⟩) 3 [a, b, c] :=
  ⟨rfl, .inr ⟨X, 0, rfl, lt_of_block h, fun j hj => by
    match j, hj with
    | 0, _ => unfold World.cell?; rw [h]; rfl
    | 1, _ => unfold World.cell?; rw [h]; rfl
    | 2, _ => unfold World.cell?; rw [h]; rfl⟩⟩
theorem iat_blk2 {V : World} {X : Nat} {a b : Int} (h : V.heap[X]? = some (.cells #[.int .i64 a, .int .i64 b] 2 (0, 0))) : IAt V (some ⟨X, 0, none⟩) 2 [a, b] :=
  ⟨rfl, .inr ⟨X, 0, rfl, lt_of_block h, fun j hj => by
    match j, hj with
    | 0, _ => unfold World.cell?; rw [h]; rfl
    | 1, _ => unfold World.cell?; rw [h]; rfl⟩⟩

set_option maxRecDepth 20000 in
set_option maxHeartbeats 8000000 in
theorem l11Draw_any (SB cn cc t : Nat) (ca : Option Addr) (lst : List Int) (w v : World) (ht : t ≤ 800) (hcn : cn ≤ 1048576) (hB : BAt w ca cn lst) (h : Src w v SB ca cn cc t) :
    Calls Try.prog 11 #[.pointer (some ⟨SB, 0, none⟩), .slice none 0 0] v fun e v' => OutDv w v SB ca cn cc (t + 20) e v' := by
  have hlt := h.lt
  have HB : Hid (BAt w ca cn lst) := hB
  have hnx := l1Next_any SB cn cc t ca lst 8 w (v.alloc (.cells #[.int .i64 0, .int .i64 0, .slice none 0 0] 26)) (by omega) (by omega) hcn hB (h.step (below_box _))
  clear hB h
  go_enter Try.func11, Try.ntmps11
  go_wp2_with (first
    | (go_at_call 13; have hq := hnx; clear hnx; (with_reducible refine hq.mono ?_); clear hq; rintro e v1 ⟨r, rfl, ⟨hr0, hr1⟩, hS1, hc1⟩; have hr8 : r < 8 := hr1 (by omega); have hwr : IntKind.i64.wrap (1 + r) = 1 + r := IntWalk.i64_in _ (by omega); have hvv : v.heap.size < v1.heap.size := (by have := hc1.size; simp at this; omega); have HD1 : Hid (Dv w v (v1.alloc (.cells #[.int .i64 (1 + r), .int .i64 0, .slice none 0 0] 26)) SB ca cn cc (t + 1) v1.heap.size (1 + r) 0 none 0 0 []) := ⟨hS1.step (below_box _), ((Chg.of_below (below_box (.cells #[.int .i64 0, .int .i64 0, .slice none 0 0] 26)) _ _).trans hc1).trans (Chg.of_below (below_box _) _ _), heap_alloc_new _ _, (keepb (hc1.keep1 (heap_alloc_new v (.cells #[.int .i64 0, .int .i64 0, .slice none 0 0] 26)) (by omega)) (below_box _)).out, World.ownsRow_nil _ _ _ _, rfl, ⟨hlt, hvv⟩⟩; have hn2 := l1Next_any SB cn cc (t + 1) ca lst 4 w _ (by omega) (by omega) hcn HB.out HD1.out.src; clear hS1 hc1 hr1)
    | (go_at_call 13; have hq := hn2; clear hn2; (with_reducible refine hq.mono ?_); clear hq; rintro e v2 ⟨r2, rfl, ⟨hs0, hs1⟩, hS2, hc2⟩; have hr4 : r2 < 4 := hs1 (by omega); obtain ⟨k0, rfl⟩ := Int.eq_ofNat_of_zero_le hs0; have HD2 : Hid (Dv w v v2 SB ca cn cc (t + 1 + 1) v1.heap.size (1 + r) 0 none 0 0 []) := HD1.out.draw hS2 hc2; clear hS2 hc2 hs1))
  go_loopw [6] (fun i wr => ∃ j : Nat, j ≤ 3 ∧ i = .int .i64 j ∧ ∃ (t2 : Nat) (va : Option Addr) (n vc : Nat) (ms : List Mb), t2 + 3 * j ≤ t + 11 ∧ Hid (Dv w v wr SB ca cn cc t2 v1.heap.size (1 + r) 0 va n vc ms) ∧ Hid (voterR (1 + r) 0 ms = 0)) (fun i _ => (intOf i).toNat)
  case atStart => exact ⟨k0, by omega, rfl, t + 1 + 1, none, 0, 0, [], by omega, HD2, voterR_of (inB_true.2 ⟨by omega, by omega⟩) (by decide) (by simp) rfl⟩
  case round =>
    clear HD2 HD1
    obtain ⟨j, hj, rfl, t2, va, n, vc, ms, htj, HL, HV⟩ := hrel
    by_cases hpos : 0 < j
    · have HLD : Hid (Dv w v wr.drew SB ca cn cc t2 v1.heap.size (1 + r) 0 va n vc ms) := HL.out.step (Below.refl _ _).drew
      obtain ⟨q0, q1, q2⟩ := cells3 HL.out.box
      have hLl := lt_of_block HL.out.box
      have hSL : SB < v1.heap.size := by have := HL.out.ord; omega
      have HZD : Hid (Zv (wr.alloc (.cells #[.int .i64 0, .int .i64 0, .int .i64 0, .int .i64 0, .int .i64 0, .int .i64 0, .int .i64 0, .int .i64 0, .int .i64 0, .slice none 0 0] 34)).drew wr.heap.size v1.heap.size) := (Zv.new hLl).step (Below.refl _ _).drew
      have HNX : Hid (∀ (V : World) (tt : Nat) (kk : Int), kk ≤ 200 → tt ≤ 1000 → Dv w v V SB ca cn cc tt v1.heap.size (1 + r) 0 va n vc ms → Calls Try.prog 13 #[.pointer (some ⟨SB, 0, none⟩), .int .i64 kk] V fun e v' => ∃ z : Int, e = .returned (.int .i64 z) ∧ (0 ≤ z ∧ (1 ≤ kk → z < kk)) ∧ Hid (Dv w v v' SB ca cn cc (tt + 1) v1.heap.size (1 + r) 0 va n vc ms) ∧ Hid (Chg V v' SB (SB + 1))) := fun V tt kk h1 h2 h3 =>
        (l1Next_any SB cn cc tt ca lst kk w V h1 h2 hcn HB.out h3.src).mono fun e v' ⟨z, e1, e2, e3, e4⟩ => ⟨z, e1, e2, h3.draw e3 e4, e4⟩
      have HCH : Hid (∀ (V : World) (tt : Nat) (p q tx : Int) (rr : Vr), Dv w v V SB ca cn cc tt v1.heap.size (1 + r) 0 va n vc ms → goodC (p, q, tx) = true → rr = chooseR (1 + r) 0 ms p q tx → Calls Try.prog 19 #[.agg #[.int .i64 (1 + r), .int .i64 0, .slice va n vc], .agg #[.int .i64 p, .int .i64 q], .int .i64 tx] V fun e w' => ∃ a0 d0, e = .returned (.agg #[.int .i64 rr.c, .int .i64 rr.v.k, .int .i64 rr.v.d, .int .i64 rr.v.b, .int .i64 rr.v.p, .int .i64 rr.v.q, .int .i64 rr.v.t, .int .i64 rr.k, .int .i64 rr.l, .slice a0 rr.ms.length d0]) ∧ Hid (w'.ownsRow V.heap.size 44 3 (.slice a0 rr.ms.length d0) rr.ms.length (mcells rr.ms)) ∧ Hid (Below V.heap.size V w')) := fun V tt p q tx rr h1 h2 h3 => by
        rw [h3]
        exact (l11Choose_any (1 + r) 0 p q tx va n vc ms V h1.at HV.out h2).mono fun _ _ ⟨a0, d0, e1, hO, hb⟩ => ⟨a0, d0, e1, hO, hb⟩
      have far0 : ∀ (V : World) (i j : Nat) (u : Value), (V.setCell ⟨wr.heap.size, i, none⟩ u).cell? ⟨v1.heap.size, j, none⟩ = V.cell? ⟨v1.heap.size, j, none⟩ := fun V i j u => World.cell?_setCell_far V _ _ u (show wr.heap.size ≠ v1.heap.size by omega)
      have dx0 : wr.drew.cell? ⟨v1.heap.size, 0, none⟩ = some (.int .i64 (1 + r)) := q0
      have dx1 : wr.drew.cell? ⟨v1.heap.size, 1, none⟩ = some (.int .i64 0) := q1
      have dx2 : wr.drew.cell? ⟨v1.heap.size, 2, none⟩ = some (.slice va n vc) := q2
      have ax0 : (wr.alloc (.cells #[.int .i64 0, .int .i64 0, .int .i64 0, .int .i64 0, .int .i64 0, .int .i64 0, .int .i64 0, .int .i64 0, .int .i64 0, .slice none 0 0] 34)).drew.cell? ⟨v1.heap.size, 0, none⟩ = some (.int .i64 (1 + r)) := cell_newV q0
      have ax1 : (wr.alloc (.cells #[.int .i64 0, .int .i64 0, .int .i64 0, .int .i64 0, .int .i64 0, .int .i64 0, .int .i64 0, .int .i64 0, .int .i64 0, .slice none 0 0] 34)).drew.cell? ⟨v1.heap.size, 1, none⟩ = some (.int .i64 0) := cell_newV q1
      have ax2 : (wr.alloc (.cells #[.int .i64 0, .int .i64 0, .int .i64 0, .int .i64 0, .int .i64 0, .int .i64 0, .int .i64 0, .int .i64 0, .int .i64 0, .slice none 0 0] 34)).drew.cell? ⟨v1.heap.size, 2, none⟩ = some (.slice va n vc) := cell_newV q2
      have hki : 0 < (j : Int) := by omega
      go_wp2
      go_region_held3 (fun w' => w'.cell? ⟨v1.heap.size, 0, none⟩ = some (.int .i64 (1 + r)) ∧ w'.cell? ⟨v1.heap.size, 1, none⟩ = some (.int .i64 0) ∧ w'.cell? ⟨v1.heap.size, 2, none⟩ = some (.slice va n vc)) (first | (with_reducible exact ⟨dx0, dx1, dx2⟩) | (with_reducible exact ⟨ax0, ax1, ax2⟩) | (with_reducible exact ⟨x10, x11, x12⟩) | (with_reducible exact ⟨x20, x21, x22⟩) | (with_reducible exact ⟨x30, x31, x32⟩) | (with_reducible exact ⟨x40, x41, x42⟩) | (with_reducible exact ⟨cell_newV x10, cell_newV x11, cell_newV x12⟩) | (with_reducible exact ⟨cell_newV x20, cell_newV x21, cell_newV x22⟩) | (with_reducible exact ⟨cell_newV x30, cell_newV x31, cell_newV x32⟩) | (with_reducible exact ⟨cell_newV x40, cell_newV x41, cell_newV x42⟩) | (simp only [far0]; with_reducible exact ⟨x40, x41, x42⟩) | (simp only [far1]; with_reducible exact ⟨x40, x41, x42⟩) | (simp only [far2]; with_reducible exact ⟨x40, x41, x42⟩) | (simp only [far3]; with_reducible exact ⟨x40, x41, x42⟩) | go_keep) (first
        | (go_at_call 13; (first
            | (first | ((with_reducible refine (HNX.out wr.drew (t2) 4 (by omega) (by omega) HLD.out).mono ?_); rintro e u1 ⟨i1, rfl, ⟨lo1, hi1⟩, HD1, HC1⟩; have hlt1 : i1 < 4 := hi1 (by omega); have hw1 : IntKind.i64.wrap (1 + i1) = 1 + i1 := IntWalk.i64_in _ (by omega); obtain ⟨x10, x11, x12⟩ := cells3 HD1.out.box; have hl1 := lt_of_block HD1.out.box; have far1 : ∀ (V : World) (i j : Nat) (u : Value), (V.setCell ⟨u1.heap.size, i, none⟩ u).cell? ⟨v1.heap.size, j, none⟩ = V.cell? ⟨v1.heap.size, j, none⟩ := fun V i j u => World.cell?_setCell_far V _ _ u (show u1.heap.size ≠ v1.heap.size by have := hl1; omega); clear hi1) | ((with_reducible refine (HNX.out (wr.alloc (.cells #[.int .i64 0, .int .i64 0, .int .i64 0, .int .i64 0, .int .i64 0, .int .i64 0, .int .i64 0, .int .i64 0, .int .i64 0, .slice none 0 0] 34)).drew (t2) 4 (by omega) (by omega) ((HL.out.step (below_box (.cells #[.int .i64 0, .int .i64 0, .int .i64 0, .int .i64 0, .int .i64 0, .int .i64 0, .int .i64 0, .int .i64 0, .int .i64 0, .slice none 0 0] 34))).step (Below.refl _ _).drew)).mono ?_); rintro e u1 ⟨i1, rfl, ⟨lo1, hi1⟩, HD1, HC1⟩; have hlt1 : i1 < 4 := hi1 (by omega); have hw1 : IntKind.i64.wrap (1 + i1) = 1 + i1 := IntWalk.i64_in _ (by omega); obtain ⟨x10, x11, x12⟩ := cells3 HD1.out.box; have hl1 := lt_of_block HD1.out.box; have far1 : ∀ (V : World) (i j : Nat) (u : Value), (V.setCell ⟨u1.heap.size, i, none⟩ u).cell? ⟨v1.heap.size, j, none⟩ = V.cell? ⟨v1.heap.size, j, none⟩ := fun V i j u => World.cell?_setCell_far V _ _ u (show u1.heap.size ≠ v1.heap.size by have := hl1; omega); have HZ1_0 : Hid (Zv u1 wr.heap.size v1.heap.size) := HZD.out.draw HC1.out hSL; clear hi1))
            | (first | ((with_reducible refine (HNX.out u1 (t2 + 1) 2 (by omega) (by omega) HD1.out).mono ?_); rintro e u2 ⟨i2, rfl, ⟨lo2, hi2⟩, HD2, HC2⟩; have hlt2 : i2 < 2 := hi2 (by omega); have hw2 : IntKind.i64.wrap (1 + i2) = 1 + i2 := IntWalk.i64_in _ (by omega); obtain ⟨x20, x21, x22⟩ := cells3 HD2.out.box; have hl2 := lt_of_block HD2.out.box; have far2 : ∀ (V : World) (i j : Nat) (u : Value), (V.setCell ⟨u2.heap.size, i, none⟩ u).cell? ⟨v1.heap.size, j, none⟩ = V.cell? ⟨v1.heap.size, j, none⟩ := fun V i j u => World.cell?_setCell_far V _ _ u (show u2.heap.size ≠ v1.heap.size by have := hl2; omega); (first | (have hz := HZ1_0; have HZ2_0 : Hid (Zv u2 wr.heap.size v1.heap.size) := hz.out.draw HC2.out hSL) | skip); clear hi2) | ((with_reducible refine (HNX.out (u1.alloc (.cells #[.int .i64 0, .int .i64 0, .int .i64 0, .int .i64 0, .int .i64 0, .int .i64 0, .int .i64 0, .int .i64 0, .int .i64 0, .slice none 0 0] 34)) (t2 + 1) 2 (by omega) (by omega) (HD1.out.step (below_box (.cells #[.int .i64 0, .int .i64 0, .int .i64 0, .int .i64 0, .int .i64 0, .int .i64 0, .int .i64 0, .int .i64 0, .int .i64 0, .slice none 0 0] 34)))).mono ?_); rintro e u2 ⟨i2, rfl, ⟨lo2, hi2⟩, HD2, HC2⟩; have hlt2 : i2 < 2 := hi2 (by omega); have hw2 : IntKind.i64.wrap (1 + i2) = 1 + i2 := IntWalk.i64_in _ (by omega); obtain ⟨x20, x21, x22⟩ := cells3 HD2.out.box; have hl2 := lt_of_block HD2.out.box; have far2 : ∀ (V : World) (i j : Nat) (u : Value), (V.setCell ⟨u2.heap.size, i, none⟩ u).cell? ⟨v1.heap.size, j, none⟩ = V.cell? ⟨v1.heap.size, j, none⟩ := fun V i j u => World.cell?_setCell_far V _ _ u (show u2.heap.size ≠ v1.heap.size by have := hl2; omega); have HZ2_1 : Hid (Zv u2 u1.heap.size v1.heap.size) := (Zv.new hl1).draw HC2.out hSL; clear hi2))
            | (first | ((with_reducible refine (HNX.out u2 (t2 + 1 + 1) 3 (by omega) (by omega) HD2.out).mono ?_); rintro e u3 ⟨i3, rfl, ⟨lo3, hi3⟩, HD3, HC3⟩; have hlt3 : i3 < 3 := hi3 (by omega); have hw3 : IntKind.i64.wrap (1 + i3) = 1 + i3 := IntWalk.i64_in _ (by omega); obtain ⟨x30, x31, x32⟩ := cells3 HD3.out.box; have hl3 := lt_of_block HD3.out.box; have far3 : ∀ (V : World) (i j : Nat) (u : Value), (V.setCell ⟨u3.heap.size, i, none⟩ u).cell? ⟨v1.heap.size, j, none⟩ = V.cell? ⟨v1.heap.size, j, none⟩ := fun V i j u => World.cell?_setCell_far V _ _ u (show u3.heap.size ≠ v1.heap.size by have := hl3; omega); (first | (have hz := HZ2_0; have HZ3_0 : Hid (Zv u3 wr.heap.size v1.heap.size) := hz.out.draw HC3.out hSL) | (have hz := HZ2_1; have HZ3_1 : Hid (Zv u3 u1.heap.size v1.heap.size) := hz.out.draw HC3.out hSL) | skip); clear hi3) | ((with_reducible refine (HNX.out (u2.alloc (.cells #[.int .i64 0, .int .i64 0, .int .i64 0, .int .i64 0, .int .i64 0, .int .i64 0, .int .i64 0, .int .i64 0, .int .i64 0, .slice none 0 0] 34)) (t2 + 1 + 1) 3 (by omega) (by omega) (HD2.out.step (below_box (.cells #[.int .i64 0, .int .i64 0, .int .i64 0, .int .i64 0, .int .i64 0, .int .i64 0, .int .i64 0, .int .i64 0, .int .i64 0, .slice none 0 0] 34)))).mono ?_); rintro e u3 ⟨i3, rfl, ⟨lo3, hi3⟩, HD3, HC3⟩; have hlt3 : i3 < 3 := hi3 (by omega); have hw3 : IntKind.i64.wrap (1 + i3) = 1 + i3 := IntWalk.i64_in _ (by omega); obtain ⟨x30, x31, x32⟩ := cells3 HD3.out.box; have hl3 := lt_of_block HD3.out.box; have far3 : ∀ (V : World) (i j : Nat) (u : Value), (V.setCell ⟨u3.heap.size, i, none⟩ u).cell? ⟨v1.heap.size, j, none⟩ = V.cell? ⟨v1.heap.size, j, none⟩ := fun V i j u => World.cell?_setCell_far V _ _ u (show u3.heap.size ≠ v1.heap.size by have := hl3; omega); have HZ3_2 : Hid (Zv u3 u2.heap.size v1.heap.size) := (Zv.new hl2).draw HC3.out hSL; clear hi3))))
        | (go_at_call 19; obtain ⟨rr, hrr⟩ : ∃ q, q = chooseR (1 + r) 0 ms (1 + i1) i2 (1 + i3) := ⟨_, rfl⟩; have HRR : Hid (rr = chooseR (1 + r) 0 ms (1 + i1) i2 (1 + i3)) := hrr; have hgd : goodC (1 + i1, i2, 1 + i3) = true := good_small (by omega) (by omega) (by omega) (by omega) (by omega) (by omega); (first | ((with_reducible refine (HCH.out u3 (t2 + 1 + 1 + 1) (1 + i1) i2 (1 + i3) rr HD3.out hgd hrr).mono ?_); clear hrr; rintro e u4 ⟨a0, d0, rfl, HROW, HB4⟩; have HD4 : Hid (Dv w v u4 SB ca cn cc (t2 + 1 + 1 + 1) v1.heap.size (1 + r) 0 va n vc ms) := HD3.out.step HB4.out; obtain ⟨x40, x41, x42⟩ := cells3 HD4.out.box; (first | (have hzz := HZ3_0; have HZ4_0 : Hid (Zv u4 wr.heap.size v1.heap.size) := hzz.out.step HB4.out; have hz := HZ4_0; obtain ⟨y0, y1, y2, y3, y4, y5, y6, y7, y8, y9⟩ := cells10V hz.out.2; have f0 := Joins.unfrozen_of_block hz.out.2 0; have f1 := Joins.unfrozen_of_block hz.out.2 1; have f2 := Joins.unfrozen_of_block hz.out.2 2; have f3 := Joins.unfrozen_of_block hz.out.2 3; have f4 := Joins.unfrozen_of_block hz.out.2 4; have f5 := Joins.unfrozen_of_block hz.out.2 5; have f6 := Joins.unfrozen_of_block hz.out.2 6; have f7 := Joins.unfrozen_of_block hz.out.2 7; have f8 := Joins.unfrozen_of_block hz.out.2 8; have f9 := Joins.unfrozen_of_block hz.out.2 9) | (have hzz := HZ3_1; have HZ4_1 : Hid (Zv u4 u1.heap.size v1.heap.size) := hzz.out.step HB4.out; have hz := HZ4_1; obtain ⟨y0, y1, y2, y3, y4, y5, y6, y7, y8, y9⟩ := cells10V hz.out.2; have f0 := Joins.unfrozen_of_block hz.out.2 0; have f1 := Joins.unfrozen_of_block hz.out.2 1; have f2 := Joins.unfrozen_of_block hz.out.2 2; have f3 := Joins.unfrozen_of_block hz.out.2 3; have f4 := Joins.unfrozen_of_block hz.out.2 4; have f5 := Joins.unfrozen_of_block hz.out.2 5; have f6 := Joins.unfrozen_of_block hz.out.2 6; have f7 := Joins.unfrozen_of_block hz.out.2 7; have f8 := Joins.unfrozen_of_block hz.out.2 8; have f9 := Joins.unfrozen_of_block hz.out.2 9) | (have hzz := HZ3_2; have HZ4_2 : Hid (Zv u4 u2.heap.size v1.heap.size) := hzz.out.step HB4.out; have hz := HZ4_2; obtain ⟨y0, y1, y2, y3, y4, y5, y6, y7, y8, y9⟩ := cells10V hz.out.2; have f0 := Joins.unfrozen_of_block hz.out.2 0; have f1 := Joins.unfrozen_of_block hz.out.2 1; have f2 := Joins.unfrozen_of_block hz.out.2 2; have f3 := Joins.unfrozen_of_block hz.out.2 3; have f4 := Joins.unfrozen_of_block hz.out.2 4; have f5 := Joins.unfrozen_of_block hz.out.2 5; have f6 := Joins.unfrozen_of_block hz.out.2 6; have f7 := Joins.unfrozen_of_block hz.out.2 7; have f8 := Joins.unfrozen_of_block hz.out.2 8; have f9 := Joins.unfrozen_of_block hz.out.2 9) | skip)) | ((with_reducible refine (HCH.out (u3.alloc (.cells #[.int .i64 0, .int .i64 0, .int .i64 0, .int .i64 0, .int .i64 0, .int .i64 0, .int .i64 0, .int .i64 0, .int .i64 0, .slice none 0 0] 34)) (t2 + 1 + 1 + 1) (1 + i1) i2 (1 + i3) rr (HD3.out.step (below_box (.cells #[.int .i64 0, .int .i64 0, .int .i64 0, .int .i64 0, .int .i64 0, .int .i64 0, .int .i64 0, .int .i64 0, .int .i64 0, .slice none 0 0] 34))) hgd hrr).mono ?_); clear hrr; rintro e u4 ⟨a0, d0, rfl, HROW, HB4⟩; have HD4 : Hid (Dv w v u4 SB ca cn cc (t2 + 1 + 1 + 1) v1.heap.size (1 + r) 0 va n vc ms) := (HD3.out.step (below_box (.cells #[.int .i64 0, .int .i64 0, .int .i64 0, .int .i64 0, .int .i64 0, .int .i64 0, .int .i64 0, .int .i64 0, .int .i64 0, .slice none 0 0] 34))).step HB4.out; obtain ⟨x40, x41, x42⟩ := cells3 HD4.out.box; have HZ4_3 : Hid (Zv u4 u3.heap.size v1.heap.size) := (Zv.new hl3).step HB4.out; have hz := HZ4_3; obtain ⟨y0, y1, y2, y3, y4, y5, y6, y7, y8, y9⟩ := cells10V hz.out.2; have f0 := Joins.unfrozen_of_block hz.out.2 0; have f1 := Joins.unfrozen_of_block hz.out.2 1; have f2 := Joins.unfrozen_of_block hz.out.2 2; have f3 := Joins.unfrozen_of_block hz.out.2 3; have f4 := Joins.unfrozen_of_block hz.out.2 4; have f5 := Joins.unfrozen_of_block hz.out.2 5; have f6 := Joins.unfrozen_of_block hz.out.2 6; have f7 := Joins.unfrozen_of_block hz.out.2 7; have f8 := Joins.unfrozen_of_block hz.out.2 8; have f9 := Joins.unfrozen_of_block hz.out.2 9))))
      all_goals
        (first
          | (have hzz := HZ4_0; obtain ⟨W4, hW4, HD5, HRW, HRB⟩ := HD4.out.boxZ hzz HROW)
          | (have hzz := HZ4_1; obtain ⟨W4, hW4, HD5, HRW, HRB⟩ := HD4.out.boxZ hzz HROW)
          | (have hzz := HZ4_2; obtain ⟨W4, hW4, HD5, HRW, HRB⟩ := HD4.out.boxZ hzz HROW)
          | (have hzz := HZ4_3; obtain ⟨W4, hW4, HD5, HRW, HRB⟩ := HD4.out.boxZ hzz HROW)
          | (obtain ⟨W4, hW4, HD5, HRW, HRB⟩ := HD4.out.boxA HROW))
        rw [hW4]
        clear hW4
        have hv4 : v.heap.size ≤ u4.heap.size := HD4.out.chg.size
        have hb3 : v.heap.size ≤ u3.heap.size := HD3.out.chg.size
        have hcase := choose_two (p := 1 + i1) (q := i2) (t := 1 + i3) HV.out
        rw [← HRR.out] at hcase
        have HCS : Hid _ := hcase
        clear hcase x10 x11 x12 x20 x21 x22 x30 x31 x32 x40 x41 x42 dx0 dx1 dx2 ax0 ax1 ax2 q0 q1 q2 far0 far1 far2 far3
        rcases HCS.out with ⟨c, hc, e⟩ | ⟨ms', e, hv⟩
        · subst e
          obtain ⟨b0, b1, b2, b3, b4, b5, b6, b7, b8, b9⟩ := cells10V HRB.out
          simp only [vrBad] at b0
          have hcn : (c == 0) = false := by simpa using hc
          clear HCS hc b1 b2 b3 b4 b5 b6 b7 b8 b9
          go_wp2
          go_roundw
          case rel => exact ⟨j - 1, by omega, by go_num, t2 + 1 + 1 + 1, va, n, vc, ms, by omega, HD5, HV⟩
          case measure => simp [intOf]; omega
        · subst e
          obtain ⟨b0, b1, b2, b3, b4, b5, b6, b7, b8, b9⟩ := cells10V HRB.out
          simp only at b0 b7 b8 b9
          obtain ⟨z0, z1, z2⟩ := cells3 HD5.out.box
          have g0 := Joins.unfrozen_of_block HD5.out.box 0
          have g1 := Joins.unfrozen_of_block HD5.out.box 1
          have g2 := Joins.unfrozen_of_block HD5.out.box 2
          have HP : Hid (Dv w v (((W4.setCell ⟨v1.heap.size, 0, none⟩ (.int .i64 (1 + r))).setCell ⟨v1.heap.size, 1, none⟩ (.int .i64 0)).setCell ⟨v1.heap.size, 2, none⟩ (.slice a0 ms'.length d0)) SB ca cn cc (t2 + 1 + 1 + 1) v1.heap.size (1 + r) 0 a0 ms'.length d0 ms') := HD5.out.put HRW.out (by first | exact hb3 | (simp; omega)) rfl
          have HV2 : Hid (voterR (1 + r) 0 ms' = 0) := hv
          clear HCS hv b1 b2 b3 b4 b5 b6
          go_wp2
          go_roundw
          case rel => exact ⟨j - 1, by omega, by go_num, t2 + 1 + 1 + 1, a0, ms'.length, d0, ms', by omega, HP, HV2⟩
          case measure => simp [intOf]; omega
    · obtain rfl : j = 0 := by omega
      have hn40 : n ≤ 40 := by rw [← HL.out.len]; exact (voterR_ok HV.out).2.2.1
      have hn5 := l1Next_any SB cn cc t2 ca lst 16 w wr (by omega) (by omega) hcn HB.out HL.out.src
      clear hpos hwr
      go_wp2_with fail
      refine hn5.mono ?_
      clear hn5
      rintro e v3 ⟨r3, rfl, _, hS3, hc3⟩
      have HD3 : Hid (Dv w v v3 SB ca cn cc (t2 + 1) v1.heap.size (1 + r) 0 va n vc ms) := HL.out.draw hS3 hc3
      clear hS3 hc3 HL
      by_cases h0 : r3 = 0
      · subst h0
        have hp := l1Pick_any SB cn cc (t2 + 1) 3 3 ca (some ⟨v3.heap.size, 0, none⟩) lst [0, 1000, 999] w (v3.alloc (.cells #[.int .i64 0, .int .i64 1000, .int .i64 999] 2)) (by omega) (by omega) (by omega) hcn HB.out (HD3.out.step (below_box _)).src (iatV3 _ 0 1000 999) (fun b o e => by cases e; have := HD3.out.src.lt; omega)
        go_wp2_with (go_at_call 12; (with_reducible refine hp.mono ?_); clear hp; rintro e v5 ⟨z, rfl, _, hS5, hc5⟩; have HD5 : Hid (Dv w v v5 SB ca cn cc (t2 + 1 + 1) v1.heap.size (1 + r) 0 va n vc ms) := (HD3.out.step (below_box _)).draw hS5 hc5; obtain ⟨z0, z1, z2⟩ := cells3 HD5.out.box; have g0 := Joins.unfrozen_of_block HD5.out.box 0; have HD6 : Hid (Dv w v (v5.setCell ⟨v1.heap.size, 0, none⟩ (.int .i64 z)) SB ca cn cc (t2 + 1 + 1) v1.heap.size z 0 va n vc ms) := HD5.out.set0 z; obtain ⟨s0, s1, s2⟩ := cells3 HD6.out.box; obtain ⟨r0, r1, r2⟩ := cells3 HD6.out.res; have h0 := Joins.unfrozen_of_block HD6.out.res 0; have h1 := Joins.unfrozen_of_block HD6.out.res 1; have h2 := Joins.unfrozen_of_block HD6.out.res 2; clear hS5 hc5)
        obtain ⟨o0, o1, o2⟩ := cells3 (set3 HD6.out.res (.int .i64 z) (.int .i64 0) (.slice va n vc))
        exact bodyPost_ret (v := .agg #[.int .i64 z, .int .i64 0, .slice va n vc]) (by simp [results, Try.results11, go_sem, o0, o1, o2]) rfl (HD6.out.ret (by omega) (by omega))
      have h0b : (r3 == 0) = false := by simpa using h0
      by_cases h1 : r3 = 1
      · subst h1
        have hp := l1Pick_any SB cn cc (t2 + 1) 3 3 ca (some ⟨v3.heap.size, 0, none⟩) lst [(-1), 61, 60] w (v3.alloc (.cells #[.int .i64 (-1), .int .i64 61, .int .i64 60] 2)) (by omega) (by omega) (by omega) hcn HB.out (HD3.out.step (below_box _)).src (iatV3 _ (-1) 61 60) (fun b o e => by cases e; have := HD3.out.src.lt; omega)
        go_wp2_with (go_at_call 12; (with_reducible refine hp.mono ?_); clear hp; rintro e v5 ⟨z, rfl, _, hS5, hc5⟩; have HD5 : Hid (Dv w v v5 SB ca cn cc (t2 + 1 + 1) v1.heap.size (1 + r) 0 va n vc ms) := (HD3.out.step (below_box _)).draw hS5 hc5; obtain ⟨z0, z1, z2⟩ := cells3 HD5.out.box; have g1 := Joins.unfrozen_of_block HD5.out.box 1; have HD6 : Hid (Dv w v (v5.setCell ⟨v1.heap.size, 1, none⟩ (.int .i64 z)) SB ca cn cc (t2 + 1 + 1) v1.heap.size (1 + r) z va n vc ms) := HD5.out.set1 z; obtain ⟨s0, s1, s2⟩ := cells3 HD6.out.box; obtain ⟨r0, r1, r2⟩ := cells3 HD6.out.res; have h0 := Joins.unfrozen_of_block HD6.out.res 0; have h1 := Joins.unfrozen_of_block HD6.out.res 1; have h2 := Joins.unfrozen_of_block HD6.out.res 2; clear hS5 hc5)
        obtain ⟨o0, o1, o2⟩ := cells3 (set3 HD6.out.res (.int .i64 (1 + r)) (.int .i64 z) (.slice va n vc))
        exact bodyPost_ret (v := .agg #[.int .i64 (1 + r), .int .i64 z, .slice va n vc]) (by simp [results, Try.results11, go_sem, o0, o1, o2]) rfl (HD6.out.ret (by omega) (by omega))
      have h1b : (r3 == 1) = false := by simpa using h1
      by_cases h2 : r3 = 2
      · subst h2
        have pA1 := l1Pick_any SB cn cc (t2 + 1) 3 3 ca (some ⟨v3.heap.size, 0, none⟩) lst [1, 0, 61] w (v3.alloc (.cells #[.int .i64 1, .int .i64 0, .int .i64 61] 2)).drew (by omega) (by omega) (by omega) hcn HB.out (HD3.out.step ((below_box (.cells #[.int .i64 1, .int .i64 0, .int .i64 61] 2)).drew)).src (iat_blk3 (show (v3.alloc (.cells #[.int .i64 1, .int .i64 0, .int .i64 61] 2)).drew.heap[v3.heap.size]? = _ from heap_alloc_new v3 (.cells #[.int .i64 1, .int .i64 0, .int .i64 61] 2))) (fun b o e => by cases e; have := HD3.out.src.lt; omega)
        have pA2 := l1Pick_any SB cn cc (t2 + 1) 3 3 ca (some ⟨v3.heap.size, 0, none⟩) lst [1, 0, 61] w ((v3.alloc (.cells #[.int .i64 1, .int .i64 0, .int .i64 61] 2)).alloc (.cells #[.int .i64 1, .int .i64 0] 2)).drew (by omega) (by omega) (by omega) hcn HB.out (HD3.out.step ((below_box2 (.cells #[.int .i64 1, .int .i64 0, .int .i64 61] 2) (.cells #[.int .i64 1, .int .i64 0] 2)).drew)).src (iat_blk3 (show ((v3.alloc (.cells #[.int .i64 1, .int .i64 0, .int .i64 61] 2)).alloc (.cells #[.int .i64 1, .int .i64 0] 2)).drew.heap[v3.heap.size]? = _ from block_at2)) (fun b o e => by cases e; have := HD3.out.src.lt; omega)
        have pA3 := l1Pick_any SB cn cc (t2 + 1) 3 3 ca (some ⟨(v3.heap.size + 1), 0, none⟩) lst [1, 0, 61] w ((v3.alloc (.cells #[.int .i64 1, .int .i64 0] 2)).alloc (.cells #[.int .i64 1, .int .i64 0, .int .i64 61] 2)).drew (by omega) (by omega) (by omega) hcn HB.out (HD3.out.step ((below_box2 (.cells #[.int .i64 1, .int .i64 0] 2) (.cells #[.int .i64 1, .int .i64 0, .int .i64 61] 2)).drew)).src (iat_blk3 (show ((v3.alloc (.cells #[.int .i64 1, .int .i64 0] 2)).alloc (.cells #[.int .i64 1, .int .i64 0, .int .i64 61] 2)).drew.heap[v3.heap.size + 1]? = _ from heap_alloc_at _ _ _ (by simp))) (fun b o e => by cases e; have := HD3.out.src.lt; omega)
        have HBB2 : Hid (((v3.alloc (.cells #[.int .i64 1, .int .i64 0, .int .i64 61] 2)).alloc (.cells #[.int .i64 1, .int .i64 0] 2)).drew.heap[v3.heap.size + 1]? = some (.cells #[.int .i64 1, .int .i64 0] 2 (0, 0))) := heap_alloc_at _ _ _ (by simp)
        have HBB3 : Hid (((v3.alloc (.cells #[.int .i64 1, .int .i64 0] 2)).alloc (.cells #[.int .i64 1, .int .i64 0, .int .i64 61] 2)).drew.heap[v3.heap.size]? = some (.cells #[.int .i64 1, .int .i64 0] 2 (0, 0))) := block_at2
        have hs3 : SB < v3.heap.size := HD3.out.src.lt
        have HPB : Hid (∀ (V : World) (X : Nat), Dv w v V SB ca cn cc (t2 + 1 + 1) v1.heap.size (1 + r) 0 va n vc ms → V.heap[X]? = some (.cells #[.int .i64 1, .int .i64 0] 2 (0, 0)) → X ≠ SB → Calls Try.prog 12 #[.pointer (some ⟨SB, 0, none⟩), .slice (some ⟨X, 0, none⟩) 2 2] V fun e v' => ∃ z : Int, e = .returned (.int .i64 z) ∧ Hid (Dv w v v' SB ca cn cc (t2 + 1 + 1 + 1) v1.heap.size (1 + r) 0 va n vc ms)) := fun V X h1 h2 h3 =>
          (l1Pick_any SB cn cc (t2 + 1 + 1) 2 2 ca (some ⟨X, 0, none⟩) lst [1, 0] w V (by omega) (by omega) (by omega) hcn HB.out h1.src (iat_blk2 h2) (fun b o e => by cases e; exact h3)).mono fun e v' ⟨z, e1, _, e3, e4⟩ => ⟨z, e1, h1.draw e3 e4⟩
        obtain ⟨q0, q1, q2⟩ := cells3 HD3.out.box
        go_wp2_with fail
        have ka : (v3.alloc (.cells #[.int .i64 1, .int .i64 0, .int .i64 61] 2)).drew.cell? ⟨v1.heap.size, 2, none⟩ = some (.slice va n vc) := cell_newV q2
        have kb : (v3.alloc (.cells #[.int .i64 1, .int .i64 0] 2)).drew.cell? ⟨v1.heap.size, 2, none⟩ = some (.slice va n vc) := cell_newV q2
        have kc : ((v3.alloc (.cells #[.int .i64 1, .int .i64 0, .int .i64 61] 2)).alloc (.cells #[.int .i64 1, .int .i64 0] 2)).drew.cell? ⟨v1.heap.size, 2, none⟩ = some (.slice va n vc) := cell_newV (cell_newV q2)
        have kd : ((v3.alloc (.cells #[.int .i64 1, .int .i64 0] 2)).alloc (.cells #[.int .i64 1, .int .i64 0, .int .i64 61] 2)).drew.cell? ⟨v1.heap.size, 2, none⟩ = some (.slice va n vc) := cell_newV (cell_newV q2)
        go_region_law (first
          | (refine step_append_runZ (by rfl) (.tmp 62) (.tmp 71) 24 (by rfl) (v := .slice va n vc) (u := .slice (some ⟨u2.heap.size, 0, none⟩) 1 1) (v' := .slice va3 (n + 1) vc3) (w' := v6) (by rfl) (by rfl) ?_ ?_; (with_reducible exact hrun))
          | (go_simp; go_at_call 12; (first
              | ((with_reducible refine pA1.mono ?_); rintro e u1 ⟨x1, rfl, _, hS1, hc1⟩; have HE1 : Hid (Dv w v u1 SB ca cn cc (t2 + 1 + 1) v1.heap.size (1 + r) 0 va n vc ms) := (HD3.out.step ((below_box (.cells #[.int .i64 1, .int .i64 0, .int .i64 61] 2)).drew)).draw hS1 hc1; obtain ⟨w0, w1, w2⟩ := cells3 HE1.out.box; have wb := cell_newV (o := (.cells #[.int .i64 1, .int .i64 0] 2)) w2; clear hS1 hc1)
              | ((with_reducible refine pA2.mono ?_); rintro e u1 ⟨x1, rfl, _, hS1, hc1⟩; have HE1 : Hid (Dv w v u1 SB ca cn cc (t2 + 1 + 1) v1.heap.size (1 + r) 0 va n vc ms) := (HD3.out.step ((below_box2 (.cells #[.int .i64 1, .int .i64 0, .int .i64 61] 2) (.cells #[.int .i64 1, .int .i64 0] 2)).drew)).draw hS1 hc1; obtain ⟨w0, w1, w2⟩ := cells3 HE1.out.box; have wb := cell_newV (o := (.cells #[.int .i64 1, .int .i64 0] 2)) w2; have HBK : Hid (u1.heap[v3.heap.size + 1]? = some (.cells #[.int .i64 1, .int .i64 0] 2 (0, 0))) := hc1.keep1 HBB2.out (by omega); clear hS1 hc1)
              | ((with_reducible refine pA3.mono ?_); rintro e u1 ⟨x1, rfl, _, hS1, hc1⟩; have HE1 : Hid (Dv w v u1 SB ca cn cc (t2 + 1 + 1) v1.heap.size (1 + r) 0 va n vc ms) := (HD3.out.step ((below_box2 (.cells #[.int .i64 1, .int .i64 0] 2) (.cells #[.int .i64 1, .int .i64 0, .int .i64 61] 2)).drew)).draw hS1 hc1; obtain ⟨w0, w1, w2⟩ := cells3 HE1.out.box; have wb := cell_newV (o := (.cells #[.int .i64 1, .int .i64 0] 2)) w2; have HBK : Hid (u1.heap[v3.heap.size]? = some (.cells #[.int .i64 1, .int .i64 0] 2 (0, 0))) := hc1.keep1 HBB3.out (by omega); clear hS1 hc1)
              | ((with_reducible refine (HPB.out (u1.alloc (.cells #[.int .i64 1, .int .i64 0] 2)) u1.heap.size (HE1.out.step (below_box (.cells #[.int .i64 1, .int .i64 0] 2))) (heap_alloc_new _ _) (by have := HE1.out.src.lt; omega)).mono ?_); rintro e u2 ⟨x2, rfl, HE2⟩; obtain ⟨va3, vc3, v6, hrun, HK6, HE7⟩ := HE2.out.more x1 0 x2 (by omega); obtain ⟨t0, t1, t3⟩ := cells3 HE2.out.box; have tb := cell_newV (o := .cells #[.int .i64 x1, .int .i64 0, .int .i64 x2] 44) t3; obtain ⟨l0, l1, l2⟩ := cells3 HK6.out; have gz := Joins.unfrozen_of_block HK6.out 2; obtain ⟨s0, s1, s2⟩ := cells3 HE7.out.box; obtain ⟨r0, r1, r2⟩ := cells3 HE7.out.res; have h0 := Joins.unfrozen_of_block HE7.out.res 0; have h1 := Joins.unfrozen_of_block HE7.out.res 1; have h2 := Joins.unfrozen_of_block HE7.out.res 2)
              | ((with_reducible refine (HPB.out u1 (v3.heap.size + 1) HE1.out HBK.out (by have := HE1.out.src.lt; omega)).mono ?_); rintro e u2 ⟨x2, rfl, HE2⟩; obtain ⟨va3, vc3, v6, hrun, HK6, HE7⟩ := HE2.out.more x1 0 x2 (by omega); obtain ⟨t0, t1, t3⟩ := cells3 HE2.out.box; have tb := cell_newV (o := .cells #[.int .i64 x1, .int .i64 0, .int .i64 x2] 44) t3; obtain ⟨l0, l1, l2⟩ := cells3 HK6.out; have gz := Joins.unfrozen_of_block HK6.out 2; obtain ⟨s0, s1, s2⟩ := cells3 HE7.out.box; obtain ⟨r0, r1, r2⟩ := cells3 HE7.out.res; have h0 := Joins.unfrozen_of_block HE7.out.res 0; have h1 := Joins.unfrozen_of_block HE7.out.res 1; have h2 := Joins.unfrozen_of_block HE7.out.res 2)
              | ((with_reducible refine (HPB.out u1 v3.heap.size HE1.out HBK.out (by have := HE1.out.src.lt; omega)).mono ?_); rintro e u2 ⟨x2, rfl, HE2⟩; obtain ⟨va3, vc3, v6, hrun, HK6, HE7⟩ := HE2.out.more x1 0 x2 (by omega); obtain ⟨t0, t1, t3⟩ := cells3 HE2.out.box; have tb := cell_newV (o := .cells #[.int .i64 x1, .int .i64 0, .int .i64 x2] 44) t3; obtain ⟨l0, l1, l2⟩ := cells3 HK6.out; have gz := Joins.unfrozen_of_block HK6.out 2; obtain ⟨s0, s1, s2⟩ := cells3 HE7.out.box; obtain ⟨r0, r1, r2⟩ := cells3 HE7.out.res; have h0 := Joins.unfrozen_of_block HE7.out.res 0; have h1 := Joins.unfrozen_of_block HE7.out.res 1; have h2 := Joins.unfrozen_of_block HE7.out.res 2))))
        all_goals
          go_wp2
          obtain ⟨o0, o1, o2⟩ := cells3 (set3 HE7.out.res (.int .i64 (1 + r)) (.int .i64 0) (.slice va3 (n + 1) vc3))
          exact bodyPost_ret (v := .agg #[.int .i64 (1 + r), .int .i64 0, .slice va3 (n + 1) vc3]) (by simp [results, Try.results11, go_sem, o0, o1, o2]) rfl (HE7.out.ret (by omega) (by omega))
      have h2b : (r3 == 2) = false := by simpa using h2
      obtain ⟨s0, s1, s2⟩ := cells3 HD3.out.box
      obtain ⟨r0, r1, r2⟩ := cells3 HD3.out.res
      have f0 := Joins.unfrozen_of_block HD3.out.res 0
      have f1 := Joins.unfrozen_of_block HD3.out.res 1
      have f2 := Joins.unfrozen_of_block HD3.out.res 2
      go_wp2
      obtain ⟨o0, o1, o2⟩ := cells3 (set3 HD3.out.res (.int .i64 (1 + r)) (.int .i64 0) (.slice va n vc))
      exact bodyPost_ret (v := .agg #[.int .i64 (1 + r), .int .i64 0, .slice va n vc]) (by simp [results, Try.results11, go_sem, o0, o1, o2]) rfl (HD3.out.ret (by omega) (by omega))

end Go.Proofs.Ytpcgkgjmcnncdaa
