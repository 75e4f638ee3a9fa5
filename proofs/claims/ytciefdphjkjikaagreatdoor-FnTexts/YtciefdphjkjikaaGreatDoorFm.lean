/- The specification's l3Bent keeps its contract. -/
import Derived.Test.YtciefdphjkjikaaGreatDoorFl
import Derived.Test.YtciefdphjkjikaaGreatDoorRw
import Derived.Test.YtciefdphjkjikaaGreatDoorCc
namespace Go.Proofs.YtciefdphjkjikaaGreatDoor
open Go.RowKit Go.Shelf Go.Maps Go.WideMaps

theorem iatF3 {V : World} {A : Nat} {x y z : Int} (h : V.heap[A]? = some (.cells #[.int .i64 x, .int .i64 y, .int .i64 z] 2 (0, 0))) : IAt V (some ⟨A, 0, none⟩) 3 [x, y, z] := by
  refine ⟨rfl, .inr ⟨A, 0, rfl, lt_of_block h, fun j hj => ?_⟩⟩
  rw [Nat.zero_add]
  unfold World.cell?
  rw [h]
  match j, hj with
  | 0, _ => rfl
  | 1, _ => rfl
  | 2, _ => rfl
theorem iatF2 {V : World} {A : Nat} {x y : Int} (h : V.heap[A]? = some (.cells #[.int .i64 x, .int .i64 y] 2 (0, 0))) : IAt V (some ⟨A, 0, none⟩) 2 [x, y] := by
  refine ⟨rfl, .inr ⟨A, 0, rfl, lt_of_block h, fun j hj => ?_⟩⟩
  rw [Nat.zero_add]
  unfold World.cell?
  rw [h]
  match j, hj with
  | 0, _ => rfl
  | 1, _ => rfl
theorem oset_at {os : List Ou} {o : Ou} (hn : 0 < os.length) : (os.set 0 o).getD 0 O0 = o := by simp [List.getD, hn]
theorem oset_ne {os : List Ou} {o : Ou} {j : Nat} (hj : j ≠ 0) : (os.set 0 o).getD j O0 = os.getD j O0 := by
  simp only [List.getD]
  rw [List.getElem?_set_ne (by omega)]
theorem few_set {os : List Ou} {o : Ou} (h : ∀ x ∈ os, x.l.length ≤ 4) (ho : o.l.length ≤ 4) : ∀ x ∈ os.set 0 o, x.l.length ≤ 4 := fun x hx => by
  rcases List.mem_or_eq_of_mem_set hx with h1 | rfl
  · exact h x h1
  · exact ho
theorem TqB.farC {w v V : World} {SB : Nat} {ca : Option Addr} {cn cc t T g i : Nat} {k f : Int} {u2 u3 : Value} (H : TqB w v V SB ca cn cc t T k f u2 u3) (hg : v.heap.size < g) (hgT : g ≠ T) (u : Value) : TqB w v (V.setCell ⟨g, i, none⟩ u) SB ca cn cc t T k f u2 u3 := by
  have ho := H.ord
  have hsb := H.src.sb
  exact ⟨(Below.heap_setCell _ ⟨g, i, none⟩ _ T (show T ≠ g from Ne.symm hgT)).trans H.box, (Below.heap_setCell _ ⟨g, i, none⟩ _ v.heap.size (show v.heap.size ≠ g by omega)).trans H.res, ⟨(Below.heap_setCell _ ⟨g, i, none⟩ _ SB (show SB ≠ g by omega)).trans H.src.box, H.src.bel.setCell (p := ⟨g, i, none⟩) (show w.heap.size ≤ g by omega) _, hsb⟩, H.chg.setNew (by omega) _, H.ord⟩
section
variable {w v V : World} {SB : Nat} {ca : Option Addr} {cn cc t T g : Nat} {k f : Int} {ia : Option Addr} {ic : Nat} {rs : List (Int × Int)} {oc : Nat} {os : List Ou}
/-- Where the first out lies. -/
theorem TqD.form {oa : Option Addr} (H : TqD w v V SB ca cn cc t T k f ia ic rs oa oc os) (hn : 0 < os.length) : ∃ g, oa = some ⟨g, 0, none⟩ := by
  obtain ⟨kv, hk⟩ := H.out
  obtain ⟨xs, h1, _⟩ := hk.row
  obtain ⟨b, cap, e⟩ := Joins.ownsRow_form h1 hn
  exact ⟨b, by injection e⟩
theorem TqD.out0 (H : TqD w v V SB ca cn cc t T k f ia ic rs (some ⟨g, 0, none⟩) oc os) (hn : 0 < os.length) : (∃ u, V.cell? ⟨g, 0, none⟩ = some (.int .i64 (os.getD 0 O0).v) ∧ V.cell? ⟨g, 1, none⟩ = some u ∧ V.cell? ⟨g, 2, none⟩ = some (.int .i64 (os.getD 0 O0).x) ∧ V.cell? ⟨g, 3, none⟩ = some (.int .i64 (os.getD 0 O0).y)) ∧ (∀ i, V.frozen? ⟨g, i, none⟩ = false) ∧ v.heap.size < g ∧ g ≠ T := by
  obtain ⟨kv, hk⟩ := H.out
  obtain ⟨xs, h1, h2⟩ := hk.row
  obtain ⟨a0, a1, a2, a3⟩ := h2 0 hn
  have hx := h1.1
  simp only [Nat.zero_mul, Nat.zero_add] at a0 a1 a2 a3
  refine ⟨⟨kv 0, ?_, ?_, ?_, ?_⟩, fun i => ?_, (h1.lt g rfl).1, fun e => row_neT (by decide) h1 H.b.box g rfl e⟩
  · rw [h1.cellAt 0 (by omega)]; exact a0
  · rw [h1.cellAt 1 (by omega)]; exact a1
  · rw [h1.cellAt 2 (by omega)]; exact a2
  · rw [h1.cellAt 3 (by omega)]; exact a3
  · rcases h1.2 with ⟨e, _⟩ | ⟨g', c', cur, e, _, hh, _⟩
    · cases e
    · cases e; exact Joins.unfrozen_of_block hh i
/-- The first out's value is another. -/
theorem TqD.setV (H : TqD w v V SB ca cn cc t T k f ia ic rs (some ⟨g, 0, none⟩) oc os) (hn : 0 < os.length) (z : Int) : TqD w v (V.setCell ⟨g, 0, none⟩ (.int .i64 z)) SB ca cn cc t T k f ia ic rs (some ⟨g, 0, none⟩) oc (os.set 0 { os.getD 0 O0 with v := z }) := by
  obtain ⟨_, _, hgv, hgT⟩ := H.out0 hn
  obtain ⟨kv, hk⟩ := H.out
  obtain ⟨xs, h1, h2⟩ := hk.row
  have hx := h1.1
  have hlen : (os.set 0 { os.getD 0 O0 with v := z }).length = os.length := by simp
  have hll : ∀ j, j < os.length → ((os.set 0 { os.getD 0 O0 with v := z }).getD j O0).l = (os.getD j O0).l := fun j hj => by
    by_cases e : j = 0
    · subst e; rw [oset_at hn]
    · rw [oset_ne e]
  refine ⟨by rw [hlen]; exact H.b.farC hgv hgT _, ownsRow_setCell_other H.ref (a := ⟨g, 0, none⟩) (fun e => rows_apart (by decide) h1 H.ref g rfl e) _, ⟨kv, ?_⟩⟩
  rw [hlen]
  refine ⟨⟨xs.set 0 (.int .i64 z), (h1.stored 0 _).1, fun j hj => ?_⟩, fun b hb => by simpa using hk.top b hb, fun j hj => ?_, hk.apart⟩
  · obtain ⟨a0, a1, a2, a3⟩ := h2 j hj
    by_cases e : j = 0
    · subst e
      rw [oset_at hn]
      refine ⟨?_, ?_, ?_, ?_⟩ <;> first | (rw [List.getElem?_set_ne (by omega)]; assumption) | (rw [List.getElem?_set_self (by omega)])
    · rw [oset_ne e]
      refine ⟨?_, ?_, ?_, ?_⟩ <;> (rw [List.getElem?_set_ne (by omega)]; assumption)
  · rw [hll j hj]
    exact ⟨ownsRow_setCell_other (hk.keys j hj).1 (a := ⟨g, 0, none⟩) (fun e => rows_apart (by decide) h1 (hk.keys j hj).1 g rfl e) _, fun b hb => by simpa using (hk.keys j hj).2 b hb⟩
/-- The first out's rule is another, its keys laid since V0. -/
theorem TqD.setRl {V0 : World} {t0 kc : Nat} {x y : Int} {l : List Int} {ka : Option Addr} {oa : Option Addr} (H0 : TqD w v V0 SB ca cn cc t0 T k f ia ic rs oa oc os) (hoa : oa = some ⟨g, 0, none⟩) (hn : 0 < os.length) (hS : Src w V SB ca cn cc t) (hc : Chg V0 V SB (SB + 1)) (hr : V.ownsRow V0.heap.size 2 1 (.slice ka l.length kc) l.length (ints l)) :
    TqD w v (((V.setCell ⟨g, 1, none⟩ (.slice ka l.length kc)).setCell ⟨g, 2, none⟩ (.int .i64 x)).setCell ⟨g, 3, none⟩ (.int .i64 y)) SB ca cn cc t T k f ia ic rs (some ⟨g, 0, none⟩) oc (os.set 0 ⟨(os.getD 0 O0).v, l, x, y⟩) := by
  subst hoa
  have H := H0.draw hS hc
  obtain ⟨_, _, hgv, hgT⟩ := H.out0 hn
  obtain ⟨kv0, hk0⟩ := H0.out
  have hkk := hk0.chg hc (.inr (by have := H0.b.ord; omega))
  obtain ⟨xs, h1, h2⟩ := hkk.row
  have hx := h1.1
  have hlen : (os.set 0 ⟨(os.getD 0 O0).v, l, x, y⟩).length = os.length := by simp
  have hV : v.heap.size + 1 ≤ V0.heap.size := by have := H0.b.ord; have := H0.lt; omega
  have q : ∀ {e : TypeId} {b s n : Nat} {u : Value} {zs : List Value}, V.ownsRow b e s u n zs → u.ownBlock ≠ some g → (((V.setCell ⟨g, 1, none⟩ (.slice ka l.length kc)).setCell ⟨g, 2, none⟩ (.int .i64 x)).setCell ⟨g, 3, none⟩ (.int .i64 y)).ownsRow b e s u n zs := fun h hne => ownsRow_setCell_other (ownsRow_setCell_other (ownsRow_setCell_other h (a := ⟨g, 1, none⟩) hne _) (a := ⟨g, 2, none⟩) hne _) (a := ⟨g, 3, none⟩) hne _
  refine ⟨by rw [hlen]; exact ((H.b.farC hgv hgT _).farC hgv hgT _).farC hgv hgT _, q H.ref (fun e => rows_apart (by decide) h1 H.ref g rfl e), ⟨fun j => if j = 0 then .slice ka l.length kc else kv0 j, ?_⟩⟩
  rw [hlen]
  have hgt := hk0.top g rfl
  refine ⟨⟨((xs.set 1 (.slice ka l.length kc)).set 2 (.int .i64 x)).set 3 (.int .i64 y), (((h1.stored 1 _).1.stored 2 _).1.stored 3 _).1, fun j hj => ?_⟩, fun b hb => ?_, fun j hj => ?_, fun i j hij hj b hb => ?_⟩
  · obtain ⟨a0, a1, a2, a3⟩ := h2 j hj
    by_cases e : j = 0
    · subst e
      rw [oset_at hn, if_pos rfl]
      refine ⟨?_, ?_, ?_, ?_⟩
      · rw [List.getElem?_set_ne (by omega), List.getElem?_set_ne (by omega), List.getElem?_set_ne (by omega)]; exact a0
      · rw [List.getElem?_set_ne (by omega), List.getElem?_set_ne (by omega), List.getElem?_set_self (by omega)]
      · rw [List.getElem?_set_ne (by omega), List.getElem?_set_self (by simp; omega)]
      · rw [List.getElem?_set_self (by simp; omega)]
    · rw [oset_ne e, if_neg e]
      refine ⟨?_, ?_, ?_, ?_⟩ <;> (rw [List.getElem?_set_ne (by omega), List.getElem?_set_ne (by omega), List.getElem?_set_ne (by omega)]; assumption)
  · have := hkk.top b hb
    have := hc.size
    simp
    omega
  · show World.ownsRow _ _ _ _ (if j = 0 then _ else kv0 j) _ _ ∧ ∀ b, Value.ownBlock (if j = 0 then _ else kv0 j) = some b → _
    by_cases e : j = 0
    · subst e
      rw [oset_at hn, if_pos rfl]
      exact ⟨q (Joins.ownsRow_le hr hV) (fun e => by have := (hr.lt g e).1; omega), fun b hb => by have := (hr.lt b hb).2; simpa using this⟩
    · rw [oset_ne e, if_neg e]
      exact ⟨q (hkk.keys j hj).1 (fun e => rows_apart (by decide) h1 (hkk.keys j hj).1 g rfl e), fun b hb => by have := (hkk.keys j hj).2 b hb; have := hc.size; simp; omega⟩
  · have hj0 : j ≠ 0 := by omega
    show Value.ownBlock (if j = 0 then _ else kv0 j) ≠ _
    rw [if_neg hj0]
    by_cases e : i = 0
    · subst e
      rw [if_pos rfl] at hb
      intro e2
      have := (hr.lt b hb).1
      have := (hk0.keys j hj).2 b e2
      omega
    · rw [if_neg e] at hb
      exact hkk.apart i j hij hj b hb
/-- No ins. -/
theorem TqD.noR {oa : Option Addr} (H : TqD w v V SB ca cn cc t T k f ia ic rs oa oc os) : TqD w v (V.setCell ⟨T, 2, none⟩ (.slice none 0 0)) SB ca cn cc t T k f none 0 [] oa oc os := H.setR (rs' := []) (World.ownsRow_nil _ _ _ _)
theorem repO5 {n j : Nat} (h : j < n) : (List.replicate n O0).getD j O0 = O0 := by
  rw [List.getD_eq_getElem?_getD, List.getElem?_replicate, if_pos h]; rfl
/-- Five outs of none. -/
theorem TqD.make5 {V' : World} {oa : Option Addr} (H : TqD w v V SB ca cn cc t T k f ia ic rs oa oc os) (hrow : V'.ownsRow V.heap.size 44 4 (.slice (some ⟨g, 0, none⟩) 5 5) 5 (madeCells (Value.agg #[.int .i64 0, .slice none 0 0, .int .i64 0, .int .i64 0]).cells (5 * 4)).toList) (hb : Below V.heap.size V V') : TqD w v (V'.setCell ⟨T, 3, none⟩ (.slice (some ⟨g, 0, none⟩) 5 5)) SB ca cn cc t T k f ia ic rs (some ⟨g, 0, none⟩) 5 (List.replicate 5 O0) := by
  have H1 := H.step hb
  have hV : v.heap.size + 1 ≤ V.heap.size := by have := H.b.ord; have := H.lt; omega
  refine H1.setO (os' := List.replicate 5 O0) ⟨fun _ => .slice none 0 0, ⟨⟨_, Joins.ownsRow_le hrow hV, fun j hj => ?_⟩, fun b hb => (hrow.lt b hb).2, fun j hj => ⟨?_, fun b hb => by cases hb⟩, fun i j _ _ b hb => by cases hb⟩⟩
  · rw [List.length_replicate] at hj
    rw [repO5 hj]
    have hm : ∀ i, i < 4 → (madeCells (Value.agg #[.int .i64 0, .slice none 0 0, .int .i64 0, .int .i64 0]).cells (5 * 4)).toList[j * 4 + i]? = some (#[Value.int .i64 0, .slice none 0 0, .int .i64 0, .int .i64 0][i]!) := fun i hi => by
      have e1 : (Value.agg #[.int .i64 0, .slice none 0 0, .int .i64 0, .int .i64 0]).cells = #[Value.int .i64 0, .slice none 0 0, .int .i64 0, .int .i64 0] := rfl
      rw [e1]
      have e2 : (j * 4 + i) % 4 = i := by omega
      have e3 : j * 4 + i < 20 := by omega
      simp [madeCells, e2, e3]
    exact ⟨hm 0 (by omega), hm 1 (by omega), hm 2 (by omega), hm 3 (by omega)⟩
  · rw [List.length_replicate] at hj
    rw [repO5 hj]
    exact World.ownsRow_nil _ _ _ _
end
/-- What is told of a transaction that is bent. -/
def KTB (_ _ : Int) (rs : List (Int × Int)) (os : List Ou) : Prop := rs.length ≤ 3 ∧ os.length ≤ 5 ∧ ∀ o ∈ os, o.l.length ≤ 4
/-- What holds in the midst of the drawing of one in more, whatever has been done of it. -/
structure R13 (w v : World) (SB : Nat) (ca : Option Addr) (cn cc t0 T : Nat) (k f : Int) (ia : Option Addr) (ic : Nat) (rs : List (Int × Int)) (oa : Option Addr) (oc : Nat) (os : List Ou) (V : World) (b0 b1 b2 b3 b4 b5 b6 b7 b8 b9 b10 b11 b12 : Bool) (x0 x1 x2 x3 x4 x5 x6 x7 x8 x9 x10 x11 x12 : Value) : Prop where
  g0 : b0 = true → x0 = .pointer (some ⟨T, 2, none⟩)
  g1 : b1 = true → x1 = .slice ia rs.length ic
  g2 : b2 = true → x2 = .pointer (some ⟨SB, 0, none⟩)
  g5 : b5 = true → x5 = .pointer (some ⟨SB, 0, none⟩)
  g11 : b11 = true → x11 = .pointer (some ⟨T, 2, none⟩)
  o1_0 : b1 = true → b0 = true
  o4_2 : b4 = true → b2 = true
  o4_3 : b4 = true → b3 = true
  o7_5 : b7 = true → b5 = true
  o7_6 : b7 = true → b6 = true
  o7_4 : b7 = true → b4 = true
  o8_4 : b8 = true → b4 = true
  o8_7 : b8 = true → b7 = true
  o9_8 : b9 = true → b8 = true
  o10_1 : b10 = true → b1 = true
  o10_9 : b10 = true → b9 = true
  o12_10 : b12 = true → b10 = true
  o12_11 : b12 = true → b11 = true
  m0 : b9 = false → ∃ t1, t1 ≤ t0 + b4.toNat + b7.toNat ∧ TqD w v V SB ca cn cc t1 T k f ia ic rs oa oc os
  m1 : b9 = true → b10 = false → ∃ (U : World) (p q : Int), V = U.alloc (.cells #[.int .i64 p, .int .i64 q] 65) ∧ (∃ t1, t1 ≤ t0 + 2 ∧ TqD w v U SB ca cn cc t1 T k f ia ic rs oa oc os) ∧ x9 = .slice (some ⟨U.heap.size, 0, none⟩) 1 1
  m2 : b10 = true → b12 = false → ∃ (gg cap : Nat) (p q : Int), x10 = .slice (some ⟨gg, 0, none⟩) (rs.length + 1) cap ∧ V.cell? ⟨T, 2, none⟩ = some (.slice ia rs.length ic) ∧ V.frozen? ⟨T, 2, none⟩ = false ∧ ∃ t1, t1 ≤ t0 + 2 ∧ TqD w v (V.setCell ⟨T, 2, none⟩ (.slice (some ⟨gg, 0, none⟩) (rs.length + 1) cap)) SB ca cn cc t1 T k f (some ⟨gg, 0, none⟩) cap (rs ++ [(p, q)]) oa oc os
  m3 : b12 = true → ∃ (gg cap : Nat) (p q : Int) (t1 : Nat), t1 ≤ t0 + 2 ∧ TqD w v V SB ca cn cc t1 T k f (some ⟨gg, 0, none⟩) cap (rs ++ [(p, q)]) oa oc os
  e3 : b3 = true → b4 = false → ∃ A, x3 = .slice (some ⟨A, 0, none⟩) 3 3 ∧ SB < A ∧ V.heap[A]? = some (.cells #[.int .i64 0, .int .i64 61, .int .i64 1] 2 (0, 0))
  e6 : b6 = true → b7 = false → ∃ A, x6 = .slice (some ⟨A, 0, none⟩) 2 2 ∧ SB < A ∧ V.heap[A]? = some (.cells #[.int .i64 0, .int .i64 4] 2 (0, 0))
  e4 : b4 = true → ∃ z, x4 = .int .i64 z
  e7 : b7 = true → ∃ z, x7 = .int .i64 z
  e8 : b8 = true → ∃ p q, x8 = .agg #[.int .i64 p, .int .i64 q]

set_option maxRecDepth 20000 in
set_option maxHeartbeats 8000000 in
theorem l3Bent_any (SB cn cc t : Nat) (ca : Option Addr) (l0 : List Int) (w v : World) (ht : t ≤ 700) (hcn : cn ≤ 1048576) (hB : BAt w ca cn l0) (h : Src w v SB ca cn cc t) :
    Calls Tryz.prog 26 #[.pointer (some ⟨SB, 0, none⟩)] v fun e v' => OutT w v SB ca cn cc (t + 50) e v' KTB := by
  have HBA : Hid (BAt w ca cn l0) := hB
  have hlt := h.lt
  have h1 := l3Draw_any SB cn cc t ca l0 w (v.alloc (.cells #[.int .i64 0, .int .i64 0, .slice none 0 0, .slice none 0 0] 28)) (by omega) hcn hB (h.step (below_box _))
  obtain ⟨i0, hi, hz0, hz1, hz2⟩ := info_parts Tryz.infoOut
  clear hB h
  go_enter Tryz.func26, Tryz.ntmps26
  go_upto_if 8 with (first
    | (go_at_call 17; (with_reducible refine h1.mono ?_); clear h1; rintro e v3 ⟨k, f, ia, ic, rs, oa, oc, os, t3, rfl, ht3, HK3, HO3⟩; have HD3 : Hid (TqD w v (v3.alloc (.cells #[.int .i64 k, .int .i64 f, .slice ia rs.length ic, .slice oa os.length oc] 28)) SB ca cn cc t3 v3.heap.size k f ia ic rs oa oc os) := TqD.first HO3.out hlt; have h2 := l1Next_any SB cn cc t3 ca l0 14 w (v3.alloc (.cells #[.int .i64 k, .int .i64 f, .slice ia rs.length ic, .slice oa os.length oc] 28)) (by omega) (by omega) hcn HBA.out HD3.out.b.src)
    | (go_at_call 19; (with_reducible refine h2.mono ?_); clear h2; rintro e v8 ⟨r, rfl, _, hS8, hc8⟩; have HD8' := HD3.out.draw hS8 hc8; clear hS8 hc8))
  obtain ⟨T, hT⟩ : ∃ x, x = v3.heap.size := ⟨_, rfl⟩
  rw [← hT] at HD8' ⊢
  obtain ⟨t0, ht0⟩ : ∃ x, x = t3 + 1 := ⟨_, rfl⟩
  rw [← ht0] at HD8'
  have HD8 : Hid (TqD w v v8 SB ca cn cc t0 T k f ia ic rs oa oc os) := HD8'
  have hsb8 := HD8.out.b.src.lt
  have HFEW : Hid (KTB k f rs os) := ⟨by have := HK3.out.2.1.1; omega, by have := HK3.out.2.2.1; omega, fun o ho => by have := (HK3.out.2.2.2 o ho).2.1; omega⟩
  have HR2 : Hid (rs.length ≤ 2) := HK3.out.2.1.1.2
  have HOP : Hid (0 < os.length) := by have := HK3.out.2.2.1; show 0 < os.length; omega
  have htt : t0 ≤ t + 31 := by omega
  clear hT ht0 HD3 HO3 HD8' ht3 HK3
  obtain ⟨g, hg⟩ := HD8.out.form HOP.out
  subst hg
  have hrl := HR2.out
  obtain ⟨c0, c1, c2, c3⟩ := HD8.out.cells
  obtain ⟨r0, r1, r2, r3, r4, r5, r6, r7⟩ := cells4 HD8.out.b.res
  by_cases e0 : r = 0
  · subst e0
    have hp := l1Pick_any SB cn cc t0 4 4 ca (some ⟨v8.heap.size, 0, none⟩) l0 [-1, 3, 0, 1] w (v8.alloc (.cells #[.int .i64 (-1), .int .i64 3, .int .i64 0, .int .i64 1] 2)) (by omega) (by omega) (by omega) hcn HBA.out (HD8.out.step (below_box _)).b.src (iatK4 v8 (-1) 3 0 1) (fun b off e => (by cases e; omega))
    go_wp2_with (first
      | (go_at_call 20; (with_reducible refine hp.mono ?_); clear hp; rintro e v9 ⟨z, rfl, _, hS9, hc9⟩; clear c0 c1 c2 c3; have HD9 : Hid (TqD w v v9 SB ca cn cc (t0 + 1) T k f ia ic rs (some ⟨g, 0, none⟩) oc os) := (HD8.out.step (below_box (.cells #[.int .i64 (-1), .int .i64 3, .int .i64 0, .int .i64 1] 2))).draw hS9 hc9; clear hS9 hc9; obtain ⟨c0, c1, c2, c3⟩ := HD9.out.cells; have f0 := HD9.out.fz 0; have HP : Hid (TqD w v (v9.setCell ⟨T, 0, none⟩ (.int .i64 z)) SB ca cn cc (t0 + 1) T z f ia ic rs (some ⟨g, 0, none⟩) oc os) := HD9.out.setk z; clear r0 r1 r2 r3 r4 r5 r6 r7; obtain ⟨x0, x1, x2, x3⟩ := HP.out.cells; obtain ⟨s0, s1, s2, s3, s4, s5, s6, s7⟩ := cells4 HP.out.b.res))
    obtain ⟨j0, j1, j2, j3⟩ := four_set HP.out.b.res (.int .i64 z) (.int .i64 f) (.slice ia rs.length ic) (.slice (some ⟨g, 0, none⟩) os.length oc)
    refine bodyPost_ret (v := .agg #[.int .i64 z, .int .i64 f, .slice ia rs.length ic, .slice (some ⟨g, 0, none⟩) os.length oc]) (by simp [results, Tryz.results26, go_sem, j0, j1, j2, j3]) rfl ?_
    exact HP.out.ret (by omega) HFEW.out rfl _ _ _ _
  have e0b : (r == 0) = false := by simpa using e0
  by_cases e1 : r = 1
  · subst e1
    have hp := l1Pick_any SB cn cc t0 3 3 ca (some ⟨v8.heap.size, 0, none⟩) l0 [0, 1000, 5] w (v8.alloc (.cells #[.int .i64 0, .int .i64 1000, .int .i64 5] 2)) (by omega) (by omega) (by omega) hcn HBA.out (HD8.out.step (below_box _)).b.src (iatK3 v8 0 1000 5) (fun b off e => (by cases e; omega))
    go_wp2_with (first
      | (go_at_call 20; (with_reducible refine hp.mono ?_); clear hp; rintro e v9 ⟨z, rfl, _, hS9, hc9⟩; clear c0 c1 c2 c3; have HD9 : Hid (TqD w v v9 SB ca cn cc (t0 + 1) T k f ia ic rs (some ⟨g, 0, none⟩) oc os) := (HD8.out.step (below_box (.cells #[.int .i64 0, .int .i64 1000, .int .i64 5] 2))).draw hS9 hc9; clear hS9 hc9; obtain ⟨c0, c1, c2, c3⟩ := HD9.out.cells; have f0 := HD9.out.fz 1; have HP : Hid (TqD w v (v9.setCell ⟨T, 1, none⟩ (.int .i64 z)) SB ca cn cc (t0 + 1) T k z ia ic rs (some ⟨g, 0, none⟩) oc os) := HD9.out.setf z; clear r0 r1 r2 r3 r4 r5 r6 r7; obtain ⟨x0, x1, x2, x3⟩ := HP.out.cells; obtain ⟨s0, s1, s2, s3, s4, s5, s6, s7⟩ := cells4 HP.out.b.res))
    obtain ⟨j0, j1, j2, j3⟩ := four_set HP.out.b.res (.int .i64 k) (.int .i64 z) (.slice ia rs.length ic) (.slice (some ⟨g, 0, none⟩) os.length oc)
    refine bodyPost_ret (v := .agg #[.int .i64 k, .int .i64 z, .slice ia rs.length ic, .slice (some ⟨g, 0, none⟩) os.length oc]) (by simp [results, Tryz.results26, go_sem, j0, j1, j2, j3]) rfl ?_
    exact HP.out.ret (by omega) HFEW.out rfl _ _ _ _
  have e1b : (r == 1) = false := by simpa using e1
  by_cases e2 : r = 2
  · subst e2
    clear c0 c1 c2 c3 r0 r1 r2 r3 r4 r5 r6 r7
    go_wp2
    refine wp_region_any (by kernel_rfl) ?_
    change wpAny _ _ _ _ _ _ _ (World.drew _)
    refine wpAny_inv (fun L a V => ∃ (b0 b1 b2 b3 b4 b5 b6 b7 b8 b9 b10 b11 b12 : Bool) (x0 x1 x2 x3 x4 x5 x6 x7 x8 x9 x10 x11 x12 : Value), L = #[b0, b1, b2, b3, b4, b5, b6, b7, b8, b9, b10, b11, b12] ∧ Fr 59 [some 22, some 23, some 24, some 25, some 26, some 27, some 28, some 29, some 30, some 31, some 32, some 33, none, some 0, some 2, some 3] [b0, b1, b2, b3, b4, b5, b6, b7, b8, b9, b10, b11, b12, true, true, true] [x0, x1, x2, x3, x4, x5, x6, x7, x8, x9, x10, x11, x12, .pointer (some ⟨SB, 0, none⟩), .pointer (some ⟨v.heap.size, 0, none⟩), .pointer (some ⟨T, 0, none⟩)] a ∧ R13 w v SB ca cn cc t0 T k f ia ic rs (some ⟨g, 0, none⟩) oc os V b0 b1 b2 b3 b4 b5 b6 b7 b8 b9 b10 b11 b12 x0 x1 x2 x3 x4 x5 x6 x7 x8 x9 x10 x11 x12) ?step ?done _ _ _ _ (by simp) ?start
    case start =>
      refine ⟨false, false, false, false, false, false, false, false, false, false, false, false, false, undef, undef, undef, undef, undef, undef, undef, undef, undef, undef, undef, undef, undef, rfl, ⟨rfl, rfl, rfl, rfl, fun i d h1 h2 => ?_⟩, ?_⟩
      · have hlt : i < 16 := (List.getElem?_eq_some_iff.1 h1).1
        obtain rfl | rfl | rfl | rfl | rfl | rfl | rfl | rfl | rfl | rfl | rfl | rfl | rfl | rfl | rfl | rfl : i = 0 ∨ i = 1 ∨ i = 2 ∨ i = 3 ∨ i = 4 ∨ i = 5 ∨ i = 6 ∨ i = 7 ∨ i = 8 ∨ i = 9 ∨ i = 10 ∨ i = 11 ∨ i = 12 ∨ i = 13 ∨ i = 14 ∨ i = 15 := by omega
        all_goals first | exact absurd h2 (by decide) | (have := Option.some.inj (Option.some.inj h1); subst this; rfl)
      · exact { m0 := fun _ => ⟨t0, Nat.le_refl _, HD8.out.step (Below.refl _ _).drew⟩, m1 := nofun, m2 := nofun, m3 := nofun, e3 := nofun, e6 := nofun, e4 := nofun, e7 := nofun, e8 := nofun, g0 := nofun, g1 := nofun, g2 := nofun, g5 := nofun, g11 := nofun, o1_0 := nofun, o4_2 := nofun, o4_3 := nofun, o7_5 := nofun, o7_6 := nofun, o7_4 := nofun, o8_4 := nofun, o8_7 := nofun, o9_8 := nofun, o10_1 := nofun, o10_9 := nofun, o12_10 := nofun, o12_11 := nofun }
    case done =>
      rintro L a V ⟨b0, b1, b2, b3, b4, b5, b6, b7, b8, b9, b10, b11, b12, x0, x1, x2, x3, x4, x5, x6, x7, x8, x9, x10, x11, x12, rfl, FR, H⟩ hr
      have hall := ready_all (by kernel_rfl) hr
      obtain ⟨tm, df⟩ := a
      obtain rfl : df = [] := FR.hd
      obtain ⟨F, hF⟩ := arr_of FR.hs
      have hF2 : tm = #[F 0, F 1, F 2, F 3, F 4, F 5, F 6, F 7, F 8, F 9, F 10, F 11, F 12, F 13, F 14, F 15, F 16, F 17, F 18, F 19, F 20, F 21, F 22, F 23, F 24, F 25, F 26, F 27, F 28, F 29, F 30, F 31, F 32, F 33, F 34, F 35, F 36, F 37, F 38, F 39, F 40, F 41, F 42, F 43, F 44, F 45, F 46, F 47, F 48, F 49, F 50, F 51, F 52, F 53, F 54, F 55, F 56, F 57, F 58] := hF
      subst hF2
      have kk0 : F 0 = .pointer (some ⟨SB, 0, none⟩) := Option.some.inj (FR.get 13 0 rfl rfl)
      have kk2 : F 2 = .pointer (some ⟨v.heap.size, 0, none⟩) := Option.some.inj (FR.get 14 2 rfl rfl)
      have kk3 : F 3 = .pointer (some ⟨T, 0, none⟩) := Option.some.inj (FR.get 15 3 rfl rfl)
      rw [kk0, kk2, kk3]
      obtain rfl : b12 = true := hall 12 (by decide)
      obtain ⟨gg, cap, p, q, t1, ht1, hD⟩ := H.m3 rfl
      have HD9 : Hid (TqD w v V SB ca cn cc t1 T k f (some ⟨gg, 0, none⟩) cap (rs ++ [(p, q)]) (some ⟨g, 0, none⟩) oc os) := hD
      clear hD H hr hall FR kk0 kk2 kk3 hF
      obtain ⟨c0, c1, c2, c3⟩ := HD9.out.cells
      obtain ⟨r0, r1, r2, r3, r4, r5, r6, r7⟩ := cells4 HD9.out.b.res
      go_wp2
      obtain ⟨j0, j1, j2, j3⟩ := four_set HD9.out.b.res (.int .i64 k) (.int .i64 f) (.slice (some ⟨gg, 0, none⟩) (rs.length + 1) cap) (.slice (some ⟨g, 0, none⟩) os.length oc)
      refine bodyPost_ret (v := .agg #[.int .i64 k, .int .i64 f, .slice (some ⟨gg, 0, none⟩) (rs.length + 1) cap, .slice (some ⟨g, 0, none⟩) os.length oc]) (by simp [results, Tryz.results26, go_sem, j0, j1, j2, j3]) rfl ?_
      exact HD9.out.ret (by omega) (⟨by simp only [List.length_append, List.length_cons, List.length_nil]; omega, HFEW.out.2⟩) (by simp) _ _ _ _
    case step =>
      rintro L a V i ⟨b0, b1, b2, b3, b4, b5, b6, b7, b8, b9, b10, b11, b12, x0, x1, x2, x3, x4, x5, x6, x7, x8, x9, x10, x11, x12, rfl, FR, H⟩ hi
      have hlt : i < 13 := ready_lt hi
      obtain rfl | rfl | rfl | rfl | rfl | rfl | rfl | rfl | rfl | rfl | rfl | rfl | rfl : i = 0 ∨ i = 1 ∨ i = 2 ∨ i = 3 ∨ i = 4 ∨ i = 5 ∨ i = 6 ∨ i = 7 ∨ i = 8 ∨ i = 9 ∨ i = 10 ∨ i = 11 ∨ i = 12 := by omega
      · obtain rfl : b0 = false := ready_new hi
        have k3 : a.tmps[3]? = some (.pointer (some ⟨T, 0, none⟩)) := FR.get 15 3 rfl rfl
        refine wpOp_run (o := _) rfl (fun K hK => ?_)
        go_simp
        refine hK _ _ ?_
        exact ⟨_, _, _, _, _, _, _, _, _, _, _, _, _, _, _, _, _, _, _, _, _, _, _, _, _, _, rfl, FR.put 0 22 (by decide), { H with g0 := fun _ => rfl, o1_0 := fun _ => rfl }⟩
      · obtain rfl : b1 = false := ready_new hi
        obtain rfl : b0 = true := ready_dep (d := 0) hi (by kernel_rfl)
        obtain rfl := H.g0 rfl
        obtain rfl : b10 = false := Bool.eq_false_iff.2 (fun h => by have := H.o10_1 h; simp at this)
        have hc : V.cell? ⟨T, 2, none⟩ = some (.slice ia rs.length ic) := by
          cases h9 : b9 with
          | false => obtain ⟨t1, _, hD⟩ := H.m0 h9; exact hD.cells.2.2.1
          | true => obtain ⟨U, p, q, e, ⟨t1, _, hD⟩, _⟩ := H.m1 h9 rfl; rw [e]; exact (hD.step (below_box _)).cells.2.2.1
        have l0 : a.tmps[22]? = some (.pointer (some ⟨T, 2, none⟩)) := FR.get 0 22 rfl rfl
        refine wpOp_run (o := _) rfl (fun K hK => ?_)
        go_simp
        refine hK _ _ ?_
        exact ⟨_, _, _, _, _, _, _, _, _, _, _, _, _, _, _, _, _, _, _, _, _, _, _, _, _, _, rfl, FR.put 1 23 (by decide), { H with g1 := fun _ => rfl, o10_1 := fun _ => rfl, o1_0 := fun _ => rfl }⟩
      · obtain rfl : b2 = false := ready_new hi
        have k0 : a.tmps[0]? = some (.pointer (some ⟨SB, 0, none⟩)) := FR.get 13 0 rfl rfl
        refine wpOp_run (o := _) rfl (fun K hK => ?_)
        go_simp
        refine hK _ _ ?_
        exact ⟨_, _, _, _, _, _, _, _, _, _, _, _, _, _, _, _, _, _, _, _, _, _, _, _, _, _, rfl, FR.put 2 24 (by decide), { H with g2 := fun _ => rfl, o4_2 := fun _ => rfl }⟩
      · obtain rfl : b3 = false := ready_new hi
        obtain rfl : b4 = false := Bool.eq_false_iff.2 (fun h => by have := H.o4_3 h; simp at this)
        obtain rfl : b7 = false := Bool.eq_false_iff.2 (fun h => by have := H.o7_4 h; simp at this)
        obtain rfl : b8 = false := Bool.eq_false_iff.2 (fun h => by have := H.o8_4 h; simp at this)
        obtain rfl : b9 = false := Bool.eq_false_iff.2 (fun h => by have := H.o9_8 h; simp at this)
        obtain rfl : b10 = false := Bool.eq_false_iff.2 (fun h => by have := H.o10_9 h; simp at this)
        obtain rfl : b12 = false := Bool.eq_false_iff.2 (fun h => by have := H.o12_10 h; simp at this)
        obtain ⟨_, _, hD0⟩ := H.m0 rfl
        have hsb := hD0.b.src.lt
        refine wpOp_run (o := _) rfl (fun K hK => ?_)
        go_simp
        refine hK _ _ ?_
        exact ⟨_, _, _, _, _, _, _, _, _, _, _, _, _, _, _, _, _, _, _, _, _, _, _, _, _, _, rfl, FR.put 3 25 (by decide), { H with m0 := fun _ => (by obtain ⟨t1, ht, hD⟩ := H.m0 rfl; exact ⟨t1, ht, hD.step (below_box _)⟩), m1 := nofun, m2 := nofun, m3 := nofun, e3 := fun _ _ => ⟨_, rfl, hsb, heap_alloc_new _ _⟩, e6 := fun h h2 => (by obtain ⟨A, e, hA, hv⟩ := H.e6 h h2; exact ⟨A, e, hA, (keepb hv (below_box _)).out⟩), o4_3 := fun _ => rfl }⟩
      · obtain rfl : b4 = false := ready_new hi
        obtain rfl : b2 = true := ready_dep (d := 2) hi (by kernel_rfl)
        obtain rfl : b3 = true := ready_dep (d := 3) hi (by kernel_rfl)
        obtain rfl := H.g2 rfl
        obtain rfl : b7 = false := Bool.eq_false_iff.2 (fun h => by have := H.o7_4 h; simp at this)
        obtain rfl : b8 = false := Bool.eq_false_iff.2 (fun h => by have := H.o8_4 h; simp at this)
        obtain rfl : b9 = false := Bool.eq_false_iff.2 (fun h => by have := H.o9_8 h; simp at this)
        obtain rfl : b10 = false := Bool.eq_false_iff.2 (fun h => by have := H.o10_9 h; simp at this)
        obtain rfl : b12 = false := Bool.eq_false_iff.2 (fun h => by have := H.o12_10 h; simp at this)
        obtain ⟨A, ea, hA, hv⟩ := H.e3 rfl rfl
        subst ea
        obtain ⟨t1, ht1, hD⟩ := H.m0 rfl
        have ht2 : t1 ≤ t0 + 0 := ht1
        have hN := l1Pick_any SB cn cc t1 3 3 ca (some ⟨A, 0, none⟩) l0 [0, 61, 1] w V (by omega) (by omega) (by omega) hcn HBA.out hD.b.src (iatF3 hv) (fun b off e => (by cases e; omega))
        have l2 : a.tmps[24]? = some (.pointer (some ⟨SB, 0, none⟩)) := FR.get 2 24 rfl rfl
        have l3 : a.tmps[25]? = some (.slice (some ⟨A, 0, none⟩) 3 3) := FR.get 3 25 rfl rfl
        refine wpOp_run (o := _) rfl (fun K hK => ?_)
        go_simp
        go_at_call 20
        refine hN.mono ?_
        rintro e v5 ⟨z, rfl, _, hS, hc⟩
        have hD5 := hD.draw hS hc
        go_simp
        refine hK _ _ ?_
        exact ⟨_, _, _, _, _, _, _, _, _, _, _, _, _, _, _, _, _, _, _, _, _, _, _, _, _, _, rfl, FR.put 4 26 (by decide), { H with m0 := fun _ => ⟨t1 + 1, Nat.succ_le_succ ht2, hD5⟩, m1 := nofun, m2 := nofun, m3 := nofun, e3 := nofun, e4 := fun _ => ⟨z, rfl⟩, e6 := fun h h2 => (by obtain ⟨A2, e, hA2, hv2⟩ := H.e6 h h2; exact ⟨A2, e, hA2, hc.keep1 hv2 (by omega)⟩), o7_4 := fun _ => rfl, o8_4 := fun _ => rfl, o4_2 := fun _ => rfl, o4_3 := fun _ => rfl }⟩
      · obtain rfl : b5 = false := ready_new hi
        have k0 : a.tmps[0]? = some (.pointer (some ⟨SB, 0, none⟩)) := FR.get 13 0 rfl rfl
        refine wpOp_run (o := _) rfl (fun K hK => ?_)
        go_simp
        refine hK _ _ ?_
        exact ⟨_, _, _, _, _, _, _, _, _, _, _, _, _, _, _, _, _, _, _, _, _, _, _, _, _, _, rfl, FR.put 5 27 (by decide), { H with g5 := fun _ => rfl, o7_5 := fun _ => rfl }⟩
      · obtain rfl : b6 = false := ready_new hi
        obtain rfl : b7 = false := Bool.eq_false_iff.2 (fun h => by have := H.o7_6 h; simp at this)
        obtain rfl : b8 = false := Bool.eq_false_iff.2 (fun h => by have := H.o8_7 h; simp at this)
        obtain rfl : b9 = false := Bool.eq_false_iff.2 (fun h => by have := H.o9_8 h; simp at this)
        obtain rfl : b10 = false := Bool.eq_false_iff.2 (fun h => by have := H.o10_9 h; simp at this)
        obtain rfl : b12 = false := Bool.eq_false_iff.2 (fun h => by have := H.o12_10 h; simp at this)
        obtain ⟨_, _, hD0⟩ := H.m0 rfl
        have hsb := hD0.b.src.lt
        refine wpOp_run (o := _) rfl (fun K hK => ?_)
        go_simp
        refine hK _ _ ?_
        exact ⟨_, _, _, _, _, _, _, _, _, _, _, _, _, _, _, _, _, _, _, _, _, _, _, _, _, _, rfl, FR.put 6 28 (by decide), { H with m0 := fun _ => (by obtain ⟨t1, ht, hD⟩ := H.m0 rfl; exact ⟨t1, ht, hD.step (below_box _)⟩), m1 := nofun, m2 := nofun, m3 := nofun, e6 := fun _ _ => ⟨_, rfl, hsb, heap_alloc_new _ _⟩, e3 := fun h h2 => (by obtain ⟨A, e, hA, hv⟩ := H.e3 h h2; exact ⟨A, e, hA, (keepb hv (below_box _)).out⟩), o7_6 := fun _ => rfl }⟩
      · obtain rfl : b7 = false := ready_new hi
        obtain rfl : b5 = true := ready_dep (d := 5) hi (by kernel_rfl)
        obtain rfl : b6 = true := ready_dep (d := 6) hi (by kernel_rfl)
        obtain rfl := H.g5 rfl
        obtain rfl : b4 = true := ready_dep (d := 4) hi (by kernel_rfl)
        obtain rfl : b8 = false := Bool.eq_false_iff.2 (fun h => by have := H.o8_7 h; simp at this)
        obtain rfl : b9 = false := Bool.eq_false_iff.2 (fun h => by have := H.o9_8 h; simp at this)
        obtain rfl : b10 = false := Bool.eq_false_iff.2 (fun h => by have := H.o10_9 h; simp at this)
        obtain rfl : b12 = false := Bool.eq_false_iff.2 (fun h => by have := H.o12_10 h; simp at this)
        obtain ⟨A, ea, hA, hv⟩ := H.e6 rfl rfl
        subst ea
        obtain ⟨t1, ht1, hD⟩ := H.m0 rfl
        have ht2 : t1 ≤ t0 + 1 := ht1
        have hN := l1Pick_any SB cn cc t1 2 2 ca (some ⟨A, 0, none⟩) l0 [0, 4] w V (by omega) (by omega) (by omega) hcn HBA.out hD.b.src (iatF2 hv) (fun b off e => (by cases e; omega))
        have l5 : a.tmps[27]? = some (.pointer (some ⟨SB, 0, none⟩)) := FR.get 5 27 rfl rfl
        have l6 : a.tmps[28]? = some (.slice (some ⟨A, 0, none⟩) 2 2) := FR.get 6 28 rfl rfl
        refine wpOp_run (o := _) rfl (fun K hK => ?_)
        go_simp
        go_at_call 20
        refine hN.mono ?_
        rintro e v5 ⟨z, rfl, _, hS, hc⟩
        have hD5 := hD.draw hS hc
        go_simp
        refine hK _ _ ?_
        exact ⟨_, _, _, _, _, _, _, _, _, _, _, _, _, _, _, _, _, _, _, _, _, _, _, _, _, _, rfl, FR.put 7 29 (by decide), { H with m0 := fun _ => ⟨t1 + 1, Nat.succ_le_succ ht2, hD5⟩, m1 := nofun, m2 := nofun, m3 := nofun, e6 := nofun, e7 := fun _ => ⟨z, rfl⟩, e3 := fun h h2 => (by cases h2), o8_7 := fun _ => rfl, o7_5 := fun _ => rfl, o7_6 := fun _ => rfl, o7_4 := fun _ => rfl }⟩
      · obtain rfl : b8 = false := ready_new hi
        obtain rfl : b4 = true := ready_dep (d := 4) hi (by kernel_rfl)
        obtain rfl : b7 = true := ready_dep (d := 7) hi (by kernel_rfl)
        obtain rfl : b2 = true := H.o4_2 rfl
        obtain rfl : b3 = true := H.o4_3 rfl
        obtain rfl : b5 = true := H.o7_5 rfl
        obtain rfl : b6 = true := H.o7_6 rfl
        obtain rfl : b9 = false := Bool.eq_false_iff.2 (fun h => by have := H.o9_8 h; simp at this)
        obtain rfl : b10 = false := Bool.eq_false_iff.2 (fun h => by have := H.o10_9 h; simp at this)
        obtain rfl : b12 = false := Bool.eq_false_iff.2 (fun h => by have := H.o12_10 h; simp at this)
        obtain ⟨p, rfl⟩ := H.e4 rfl
        obtain ⟨q, rfl⟩ := H.e7 rfl
        have l4 : a.tmps[26]? = some (.int .i64 p) := FR.get 4 26 rfl rfl
        have l7 : a.tmps[29]? = some (.int .i64 q) := FR.get 7 29 rfl rfl
        refine wpOp_run (o := _) rfl (fun K hK => ?_)
        go_simp
        refine hK _ _ ?_
        exact ⟨_, _, _, _, _, _, _, _, _, _, _, _, _, _, _, _, _, _, _, _, _, _, _, _, _, _, rfl, FR.put 8 30 (by decide), { H with e8 := fun _ => ⟨p, q, rfl⟩, o9_8 := fun _ => rfl, o8_4 := fun _ => rfl, o8_7 := fun _ => rfl }⟩
      · obtain rfl : b9 = false := ready_new hi
        obtain rfl : b8 = true := ready_dep (d := 8) hi (by kernel_rfl)
        obtain rfl : b4 = true := H.o8_4 rfl
        obtain rfl : b7 = true := H.o8_7 rfl
        obtain rfl : b2 = true := H.o4_2 rfl
        obtain rfl : b3 = true := H.o4_3 rfl
        obtain rfl : b5 = true := H.o7_5 rfl
        obtain rfl : b6 = true := H.o7_6 rfl
        obtain rfl : b10 = false := Bool.eq_false_iff.2 (fun h => by have := H.o10_9 h; simp at this)
        obtain rfl : b12 = false := Bool.eq_false_iff.2 (fun h => by have := H.o12_10 h; simp at this)
        obtain ⟨p, q, rfl⟩ := H.e8 rfl
        obtain ⟨t1, ht1, hD⟩ := H.m0 rfl
        have ht2 : t1 ≤ t0 + 2 := ht1
        have l8 : a.tmps[30]? = some (.agg #[.int .i64 p, .int .i64 q]) := FR.get 8 30 rfl rfl
        refine wpOp_run (o := _) rfl (fun K hK => ?_)
        go_simp
        refine hK _ _ ?_
        exact ⟨_, _, _, _, _, _, _, _, _, _, _, _, _, _, _, _, _, _, _, _, _, _, _, _, _, _, rfl, FR.put 9 31 (by decide), { H with m0 := nofun, m1 := fun _ _ => ⟨V, p, q, rfl, ⟨t1, ht2, hD⟩, rfl⟩, m2 := nofun, m3 := nofun, e3 := fun h h2 => (by cases h2), e6 := fun h h2 => (by cases h2), o10_9 := fun _ => rfl, o9_8 := fun _ => rfl }⟩
      · obtain rfl : b10 = false := ready_new hi
        obtain rfl : b1 = true := ready_dep (d := 1) hi (by kernel_rfl)
        obtain rfl : b9 = true := ready_dep (d := 9) hi (by kernel_rfl)
        obtain rfl : b0 = true := H.o1_0 rfl
        obtain rfl : b8 = true := H.o9_8 rfl
        obtain rfl : b4 = true := H.o8_4 rfl
        obtain rfl : b7 = true := H.o8_7 rfl
        obtain rfl : b2 = true := H.o4_2 rfl
        obtain rfl : b3 = true := H.o4_3 rfl
        obtain rfl : b5 = true := H.o7_5 rfl
        obtain rfl : b6 = true := H.o7_6 rfl
        obtain rfl := H.g1 rfl
        obtain rfl : b12 = false := Bool.eq_false_iff.2 (fun h => by have := H.o12_10 h; simp at this)
        obtain ⟨U, p, q, rfl, ⟨t1, ht1, hD⟩, e9⟩ := H.m1 rfl rfl
        subst e9
        obtain ⟨gg, cap, w5, hrun, ⟨c5, d5⟩, HD5⟩ := hD.moreR p q (by omega)
        have l1 : a.tmps[23]? = some (.slice ia rs.length ic) := FR.get 1 23 rfl rfl
        have l9 : a.tmps[31]? = some (.slice (some ⟨U.heap.size, 0, none⟩) 1 1) := FR.get 9 31 rfl rfl
        refine wpOp_run (o := _) rfl (fun K hK => ?_)
        refine step_append_run (by rfl) (.tmp 23) (.tmp 31) 25 (by rfl) (eval_tmp l1) (eval_tmp l9) hrun ?_
        refine hK _ _ ?_
        exact ⟨_, _, _, _, _, _, _, _, _, _, _, _, _, _, _, _, _, _, _, _, _, _, _, _, _, _, rfl, FR.put 10 32 (by decide), { H with m0 := nofun, m1 := fun _ h => (by cases h), m2 := fun _ _ => ⟨gg, cap, p, q, rfl, c5, d5, t1, ht1, HD5.out⟩, m3 := nofun, e3 := fun h h2 => (by cases h2), e6 := fun h h2 => (by cases h2), o12_10 := fun _ => rfl, o10_1 := fun _ => rfl, o10_9 := fun _ => rfl }⟩
      · obtain rfl : b11 = false := ready_new hi
        have k3 : a.tmps[3]? = some (.pointer (some ⟨T, 0, none⟩)) := FR.get 15 3 rfl rfl
        refine wpOp_run (o := _) rfl (fun K hK => ?_)
        go_simp
        refine hK _ _ ?_
        exact ⟨_, _, _, _, _, _, _, _, _, _, _, _, _, _, _, _, _, _, _, _, _, _, _, _, _, _, rfl, FR.put 11 33 (by decide), { H with g11 := fun _ => rfl, o12_11 := fun _ => rfl }⟩
      · obtain rfl : b12 = false := ready_new hi
        obtain rfl : b10 = true := ready_dep (d := 10) hi (by kernel_rfl)
        obtain rfl : b11 = true := ready_dep (d := 11) hi (by kernel_rfl)
        obtain rfl : b1 = true := H.o10_1 rfl
        obtain rfl : b9 = true := H.o10_9 rfl
        obtain rfl : b0 = true := H.o1_0 rfl
        obtain rfl : b8 = true := H.o9_8 rfl
        obtain rfl : b4 = true := H.o8_4 rfl
        obtain rfl : b7 = true := H.o8_7 rfl
        obtain rfl : b2 = true := H.o4_2 rfl
        obtain rfl : b3 = true := H.o4_3 rfl
        obtain rfl : b5 = true := H.o7_5 rfl
        obtain rfl : b6 = true := H.o7_6 rfl
        obtain rfl := H.g11 rfl
        obtain ⟨gg, cap, p, q, e10, c5, d5, t1, ht1, hD⟩ := H.m2 rfl rfl
        subst e10
        have l10 : a.tmps[32]? = some (.slice (some ⟨gg, 0, none⟩) (rs.length + 1) cap) := FR.get 10 32 rfl rfl
        have l11 : a.tmps[33]? = some (.pointer (some ⟨T, 2, none⟩)) := FR.get 11 33 rfl rfl
        refine wpOp_run (o := _) rfl (fun K hK => ?_)
        go_simp
        refine hK _ _ ?_
        exact ⟨_, _, _, _, _, _, _, _, _, _, _, _, _, _, _, _, _, _, _, _, _, _, _, _, _, _, rfl, FR.skip 12 rfl, { H with m0 := nofun, m1 := fun _ h => (by cases h), m2 := fun _ h => (by cases h), m3 := fun _ => ⟨gg, cap, p, q, t1, ht1, hD⟩, e3 := fun h h2 => (by cases h2), e6 := fun h h2 => (by cases h2), o12_10 := fun _ => rfl, o12_11 := fun _ => rfl }⟩
  have e2b : (r == 2) = false := by simpa using e2
  by_cases e3 : r = 3
  · subst e3
    obtain ⟨⟨u, y0, y1, y2, y3⟩, fz, hgv, hgT⟩ := HD8.out.out0 HOP.out
    have hosn : 0 < os.length := HOP.out
    have hos : (0 : Int) < (os.length : Int) := by omega
    have HDd : Hid (TqD w v (v8.alloc (.cells #[.int .i64 0, .int .i64 1, .int .i64 1000001, .int .i64 99] 2)).drew SB ca cn cc t0 T k f ia ic rs (some ⟨g, 0, none⟩) oc os) := (HD8.out.step (below_box _)).step (Below.refl _ _).drew
    have hp := l1Pick_any SB cn cc t0 4 4 ca (some ⟨v8.heap.size, 0, none⟩) l0 [0, 1, 1000001, 99] w (v8.alloc (.cells #[.int .i64 0, .int .i64 1, .int .i64 1000001, .int .i64 99] 2)).drew (by omega) (by omega) (by omega) hcn HBA.out HDd.out.b.src ((iatK4 v8 0 1 1000001 99).below (Below.refl _ _).drew (Nat.le_refl _)) (fun b off e => (by cases e; omega))
    have d3 := HDd.out.cells.2.2.2
    clear r0 r1 r2 r3 r4 r5 r6 r7
    go_wp2
    go_region_held3 (fun w' => w'.cell? ⟨T, 3, none⟩ = some (.slice (some ⟨g, 0, none⟩) os.length oc)) (first | (with_reducible exact c3) | (with_reducible exact d3) | (with_reducible exact e3c) | go_keep) (first
      | (go_at_call 20; (with_reducible refine hp.mono ?_); clear hp; rintro e v9 ⟨z, rfl, _, hS9, hc9⟩; have HD9 : Hid (TqD w v v9 SB ca cn cc (t0 + 1) T k f ia ic rs (some ⟨g, 0, none⟩) oc os) := HDd.out.draw hS9 hc9; clear hS9 hc9; have e3c := HD9.out.cells.2.2.2; obtain ⟨⟨u9, z0, _⟩, fz9, _, _⟩ := HD9.out.out0 HOP.out; have f9 := fz9 0; have HP : Hid (TqD w v (v9.setCell ⟨g, 0, none⟩ (.int .i64 z)) SB ca cn cc (t0 + 1) T k f ia ic rs (some ⟨g, 0, none⟩) oc (os.set 0 { os.getD 0 O0 with v := z })) := HD9.out.setV HOP.out z; obtain ⟨x0, x1, x2, x3⟩ := HP.out.cells; obtain ⟨s0, s1, s2, s3, s4, s5, s6, s7⟩ := cells4 HP.out.b.res))
    go_wp2
    obtain ⟨j0, j1, j2, j3⟩ := four_set HP.out.b.res (.int .i64 k) (.int .i64 f) (.slice ia rs.length ic) (.slice (some ⟨g, 0, none⟩) os.length oc)
    refine bodyPost_ret (v := .agg #[.int .i64 k, .int .i64 f, .slice ia rs.length ic, .slice (some ⟨g, 0, none⟩) os.length oc]) (by simp [results, Tryz.results26, go_sem, j0, j1, j2, j3]) rfl ?_
    exact HP.out.ret (by omega) ⟨HFEW.out.1, by rw [List.length_set]; exact HFEW.out.2.1, few_set HFEW.out.2.2 (show (os.getD 0 O0).l.length ≤ 4 from HFEW.out.2.2 _ (getD_mem HOP.out))⟩ (by simp) _ _ _ _
  have e3b : (r == 3) = false := by simpa using e3
  by_cases e4 : r = 4
  · subst e4
    obtain ⟨⟨u, y0, y1, y2, y3⟩, fz, hgv, hgT⟩ := HD8.out.out0 HOP.out
    have hosn : 0 < os.length := HOP.out
    have hos : (0 : Int) < (os.length : Int) := by omega
    have HDd : Hid (TqD w v v8.drew SB ca cn cc t0 T k f ia ic rs (some ⟨g, 0, none⟩) oc os) := HD8.out.step (Below.refl _ _).drew
    have hp := l2Bent_any SB cn cc t0 ca l0 w v8.drew (by omega) hcn HBA.out HDd.out.b.src
    have d3 := HDd.out.cells.2.2.2
    clear r0 r1 r2 r3 r4 r5 r6 r7
    go_wp2
    go_region_held3 (fun w' => w'.cell? ⟨T, 3, none⟩ = some (.slice (some ⟨g, 0, none⟩) os.length oc)) (first | (with_reducible exact c3) | (with_reducible exact d3) | (with_reducible exact e3c) | go_keep) (first
      | (go_at_call 54; (with_reducible refine hp.mono ?_); clear hp; rintro e v9 ⟨l, x, y, ka, kc, t4, rfl, HR4, HK4, ht4, HS4, HC4⟩; have HD9 : Hid (TqD w v v9 SB ca cn cc t4 T k f ia ic rs (some ⟨g, 0, none⟩) oc os) := HDd.out.draw HS4.out HC4.out; have e3c := HD9.out.cells.2.2.2; obtain ⟨⟨u9, z0, z1, z2, z3⟩, fz9, _, _⟩ := HD9.out.out0 HOP.out; have f1 := fz9 1; have f2 := fz9 2; have f3 := fz9 3; have HP : Hid (TqD w v (((v9.setCell ⟨g, 1, none⟩ (.slice ka l.length kc)).setCell ⟨g, 2, none⟩ (.int .i64 x)).setCell ⟨g, 3, none⟩ (.int .i64 y)) SB ca cn cc t4 T k f ia ic rs (some ⟨g, 0, none⟩) oc (os.set 0 ⟨(os.getD 0 O0).v, l, x, y⟩)) := HDd.out.setRl rfl HOP.out HS4.out HC4.out HR4.out; obtain ⟨x0, x1, x2, x3⟩ := HP.out.cells; obtain ⟨s0, s1, s2, s3, s4, s5, s6, s7⟩ := cells4 HP.out.b.res))
    go_wp2
    obtain ⟨j0, j1, j2, j3⟩ := four_set HP.out.b.res (.int .i64 k) (.int .i64 f) (.slice ia rs.length ic) (.slice (some ⟨g, 0, none⟩) os.length oc)
    refine bodyPost_ret (v := .agg #[.int .i64 k, .int .i64 f, .slice ia rs.length ic, .slice (some ⟨g, 0, none⟩) os.length oc]) (by simp [results, Tryz.results26, go_sem, j0, j1, j2, j3]) rfl ?_
    exact HP.out.ret (by omega) ⟨HFEW.out.1, by rw [List.length_set]; exact HFEW.out.2.1, few_set HFEW.out.2.2 HK4.out.1⟩ (by simp) _ _ _ _
  have e4b : (r == 4) = false := by simpa using e4
  by_cases e5 : r = 5
  · subst e5
    have HP : Hid (TqD w v (v8.setCell ⟨T, 2, none⟩ (.slice none 0 0)) SB ca cn cc t0 T k f none 0 [] (some ⟨g, 0, none⟩) oc os) := HD8.out.noR
    have f2 := HD8.out.fz 2
    obtain ⟨x0, x1, x2, x3⟩ := HP.out.cells
    obtain ⟨s0, s1, s2, s3, s4, s5, s6, s7⟩ := cells4 HP.out.b.res
    clear r0 r1 r2 r3 r4 r5 r6 r7
    go_wp2
    obtain ⟨j0, j1, j2, j3⟩ := four_set HP.out.b.res (.int .i64 k) (.int .i64 f) (.slice none 0 0) (.slice (some ⟨g, 0, none⟩) os.length oc)
    refine bodyPost_ret (v := .agg #[.int .i64 k, .int .i64 f, .slice none 0 0, .slice (some ⟨g, 0, none⟩) os.length oc]) (by simp [results, Tryz.results26, go_sem, j0, j1, j2, j3]) rfl ?_
    exact HP.out.ret (by omega) ⟨Nat.zero_le _, HFEW.out.2⟩ rfl _ _ _ _
  have e5b : (r == 5) = false := by simpa using e5
  by_cases e6 : r = 6
  · subst e6
    go_wp2_with (first
      | (at_make; refine wpList_make_full _ rfl _ _ 26 rfl v8.heap.size 44 i0 (.agg #[.int .i64 0, .slice none 0 0, .int .i64 0, .int .i64 0]) 4 Tryz.underlying26 hi hz0 hz1 _ _ _ _ 5 rfl rfl (by omega) (by omega) (by rw [hz2]; omega) (by unfold maxLen; omega) (Nat.le_refl _) ?_; intro v9 ho9 hg9; have hb9 : Below v8.heap.size v8 v9 := (Below.refl _ _).grown hg9 (Nat.le_refl _) (fun k h => (by cases h)); have HM : Hid (TqD w v (v9.setCell ⟨T, 3, none⟩ (.slice (some ⟨v8.heap.size, 0, none⟩) 5 5)) SB ca cn cc t0 T k f ia ic rs (some ⟨v8.heap.size, 0, none⟩) 5 (List.replicate 5 O0)) := HD8.out.make5 ho9 hb9; have HD9 := HD8.out.step hb9; clear c0 c1 c2 c3 r0 r1 r2 r3 r4 r5 r6 r7; obtain ⟨c0, c1, c2, c3⟩ := HD9.cells; have f3 := HD9.fz 3; obtain ⟨x0, x1, x2, x3⟩ := HM.out.cells; obtain ⟨s0, s1, s2, s3, s4, s5, s6, s7⟩ := cells4 HM.out.b.res; clear ho9 hg9 hb9 HD9))
    obtain ⟨j0, j1, j2, j3⟩ := four_set HM.out.b.res (.int .i64 k) (.int .i64 f) (.slice ia rs.length ic) (.slice (some ⟨v8.heap.size, 0, none⟩) 5 5)
    refine bodyPost_ret (v := .agg #[.int .i64 k, .int .i64 f, .slice ia rs.length ic, .slice (some ⟨v8.heap.size, 0, none⟩) 5 5]) (by simp [results, Tryz.results26, go_sem, j0, j1, j2, j3]) rfl ?_
    exact HM.out.ret (by omega) ⟨HFEW.out.1, by simp, fun o ho => by rw [List.eq_of_mem_replicate ho]; simp [O0]⟩ rfl _ _ _ _
  have e6b : (r == 6) = false := by simpa using e6
  go_wp2
  obtain ⟨j0, j1, j2, j3⟩ := four_set HD8.out.b.res (.int .i64 k) (.int .i64 f) (.slice ia rs.length ic) (.slice (some ⟨g, 0, none⟩) os.length oc)
  refine bodyPost_ret (v := .agg #[.int .i64 k, .int .i64 f, .slice ia rs.length ic, .slice (some ⟨g, 0, none⟩) os.length oc]) (by simp [results, Tryz.results26, go_sem, j0, j1, j2, j3]) rfl ?_
  exact HD8.out.ret (by omega) HFEW.out rfl _ _ _ _

end Go.Proofs.YtciefdphjkjikaaGreatDoor
