/- Members that come in: their size is told, they are copied into new memory, two lists are compared. -/
import Derived.Test.YtbjgngabdcknnaaTxA
namespace Go.Proofs.Ytbjgngabdcknnaa
open Go.RowKit Go.Maps

/-- A member: its key, and the two numbers of its ref. -/
abbrev Mb := Int × Int × Int
def Z3 : Mb := (0, 0, 0)
/-- The slice value '.slice a n _' leads to the members ms, three cells each. -/
def MAt (w : World) (a : Option Addr) (n : Nat) (ms : List Mb) : Prop :=
  ms.length = n ∧ (n = 0 ∨ ∃ b off, a = some ⟨b, off, none⟩ ∧ b < w.heap.size ∧
    ∀ j, j < n → w.cell? ⟨b, off + j * 3, none⟩ = some (.int .i64 (ms.getD j Z3).1) ∧ w.cell? ⟨b, off + j * 3 + 1, none⟩ = some (.int .i64 (ms.getD j Z3).2.1) ∧ w.cell? ⟨b, off + j * 3 + 2, none⟩ = some (.int .i64 (ms.getD j Z3).2.2))
theorem MAt.below {w w' : World} {a : Option Addr} {n : Nat} {ms : List Mb} (h : MAt w a n ms) {B : Nat} (hb : Below B w w') (hB : w.heap.size ≤ B) : MAt w' a n ms := by
  obtain ⟨hn, h | ⟨b, off, rfl, hlt, hc⟩⟩ := h
  · exact ⟨hn, .inl h⟩
  · exact ⟨hn, .inr ⟨b, off, rfl, Nat.lt_of_lt_of_le hlt hb.size, fun j hj =>
      ⟨(hb.cell (p := ⟨b, off + j * 3, none⟩) (Nat.lt_of_lt_of_le hlt hB)).trans (hc j hj).1, (hb.cell (p := ⟨b, off + j * 3 + 1, none⟩) (Nat.lt_of_lt_of_le hlt hB)).trans (hc j hj).2.1, (hb.cell (p := ⟨b, off + j * 3 + 2, none⟩) (Nat.lt_of_lt_of_le hlt hB)).trans (hc j hj).2.2⟩⟩⟩
def mcells (ms : List Mb) : List Value := ms.flatMap fun g => [.int .i64 g.1, .int .i64 g.2.1, .int .i64 g.2.2]
theorem mcells_length (ms : List Mb) : (mcells ms).length = ms.length * 3 := by
  induction ms with
  | nil => rfl
  | cons x t ih => simp [mcells] at ih ⊢; omega
theorem mcells_at (ms : List Mb) (j : Nat) (hj : j < ms.length) : (mcells ms)[j * 3]? = some (.int .i64 (ms.getD j Z3).1) ∧ (mcells ms)[j * 3 + 1]? = some (.int .i64 (ms.getD j Z3).2.1) ∧ (mcells ms)[j * 3 + 2]? = some (.int .i64 (ms.getD j Z3).2.2) := by
  induction ms generalizing j with
  | nil => simp at hj
  | cons x t ih =>
    cases j with
    | zero => simp [mcells]
    | succ j =>
      have hj' : j < t.length := by simpa using hj
      have h := ih j hj'
      have e : mcells (x :: t) = .int .i64 x.1 :: .int .i64 x.2.1 :: .int .i64 x.2.2 :: mcells t := by simp [mcells]
      have e0 : (j + 1) * 3 = j * 3 + 1 + 1 + 1 := by omega
      rw [e, e0]
      simpa using h
theorem all_mems {xs : List Value} {ms : List Mb} {n : Nat} (hn : ms.length = n) (hl : xs.length = n * 3) (h : ∀ j, j < n → xs[j * 3]? = some (.int .i64 (ms.getD j Z3).1) ∧ xs[j * 3 + 1]? = some (.int .i64 (ms.getD j Z3).2.1) ∧ xs[j * 3 + 2]? = some (.int .i64 (ms.getD j Z3).2.2)) : xs = mcells ms := by
  apply List.ext_getElem?
  intro j
  by_cases hj : j < n * 3
  · have h1 := h (j / 3) (by omega)
    have h2 := mcells_at ms (j / 3) (by omega)
    have e3 : j % 3 = 0 ∨ j % 3 = 1 ∨ j % 3 = 2 := by omega
    rcases e3 with e | e | e
    · rw [show j = j / 3 * 3 by omega, h1.1, h2.1]
    · rw [show j = j / 3 * 3 + 1 by omega, h1.2.1, h2.2.1]
    · rw [show j = j / 3 * 3 + 2 by omega, h1.2.2, h2.2.2]
  · rw [List.getElem?_eq_none (by omega), List.getElem?_eq_none (by rw [mcells_length]; omega)]
theorem MAt.owned {w : World} {base n cap g : Nat} {ms : List Mb} {e : TypeId} (h : w.ownsRow base e 3 (.slice (some ⟨g, 0, none⟩) n cap) n (mcells ms)) (hn : ms.length = n) : MAt w (some ⟨g, 0, none⟩) n ms := by
  refine ⟨hn, .inr ⟨g, 0, rfl, (h.lt g rfl).2, fun j hj => ?_⟩⟩
  have := mcells_at ms j (by omega)
  rw [Nat.zero_add, h.cellAt (j * 3) (by omega), h.cellAt (j * 3 + 1) (by omega), h.cellAt (j * 3 + 2) (by omega)]
  exact this

theorem Try.infoMem : (Try.prog.info? 129).map (fun i => (i.zero, i.size, i.bytes)) = some (some (.agg #[.int .i64 0, .int .i64 0, .int .i64 0]), 3, 24) := by kernel_rfl

theorem szMs_any (a : Option Addr) (n cap : Nat) (left : Int) (w : World) (h0 : 0 ≤ left) (h1 : left ≤ 1048576) (hl : n ≤ maxLen) :
    Calls Try.prog 56 #[.slice a n cap, .int .i64 left] w fun e w' => ∃ r : Int, e = .returned (.int .i64 r) ∧ w' = w ∧ SzG n left r := by
  unfold maxLen at hl
  by_cases hn : left < n
  · go_enter Try.func56, Try.ntmps56
    go_wp2
    go_ret
    exact ⟨_, rfl, rfl, Or.inl rfl⟩
  · go_enter Try.func56, Try.ntmps56
    go_wp2
    go_ret
    exact ⟨_, rfl, rfl, Or.inr ⟨by omega, by omega, by omega⟩⟩

set_option maxHeartbeats 400000 in
theorem toMem_any (k p q : Int) (w : World) : Calls Try.prog 79 #[.agg #[.int .i64 k, .int .i64 p, .int .i64 q]] w fun e w' => e = .returned (.agg #[.int .i64 k, .int .i64 p, .int .i64 q]) ∧ Below w.heap.size w w' := by
  have hz : ∀ W : World, w.heap.size ≤ W.heap.size → Hid (Below w.heap.size w W) → Calls Try.prog 10 #[.agg #[.int .i64 p, .int .i64 q]] W fun e w' => e = .returned (.agg #[.int .i64 p, .int .i64 q]) ∧ Hid (Below W.heap.size W w') := fun W _ _ => toRef_any p q W
  have HB : Hid (Below w.heap.size w (((w.alloc (.cells #[.int .i64 k, .int .i64 p, .int .i64 q] 132)).alloc (.cells #[.int .i64 0, .int .i64 0, .int .i64 0] 129)).alloc (.cells #[.int .i64 k, .int .i64 0, .int .i64 0] 129))) := (((Below.refl _ _).alloc (Nat.le_refl _) _).alloc (by simp) _).alloc (by simp; omega) _
  have hb1 : ((w.alloc (.cells #[.int .i64 k, .int .i64 p, .int .i64 q] 132)).alloc (.cells #[.int .i64 0, .int .i64 0, .int .i64 0] 129)).heap[w.heap.size + 1]? = some (.cells #[.int .i64 0, .int .i64 0, .int .i64 0] 129 (0, 0)) := heap_alloc_at _ _ _ (by simp)
  have Bq2 := keepb hb1 (below_box (.cells #[.int .i64 k, .int .i64 0, .int .i64 0] 129))
  have Bq3 : Hid ((((w.alloc (.cells #[.int .i64 k, .int .i64 p, .int .i64 q] 132)).alloc (.cells #[.int .i64 0, .int .i64 0, .int .i64 0] 129)).alloc (.cells #[.int .i64 k, .int .i64 0, .int .i64 0] 129)).heap[w.heap.size + 2]? = some (.cells #[.int .i64 k, .int .i64 0, .int .i64 0] 129 (0, 0))) := heap_alloc_at _ _ _ (by simp)
  clear hb1
  have hc := toRef_any p q (((w.alloc (.cells #[.int .i64 k, .int .i64 p, .int .i64 q] 132)).alloc (.cells #[.int .i64 0, .int .i64 0, .int .i64 0] 129)).alloc (.cells #[.int .i64 k, .int .i64 0, .int .i64 0] 129))
  clear hz
  go_enter Try.func79, Try.ntmps79
  go_wp2_with (first
    | (go_at_call 10; (with_reducible refine hc.mono ?_); clear hc; rintro e w2 ⟨rfl, hb2⟩; have HB2 : Hid (Below w.heap.size w w2) := HB.out.trans (hb2.mono HB.out.size); have Kq2 := keepb Bq2.out hb2; have Kq3 := keepb Bq3.out hb2; obtain ⟨c0, c1, c2⟩ := cells3 Kq2.out; obtain ⟨d0, d1, d2⟩ := cells3 Kq3.out; have f0 := Joins.unfrozen_of_block Kq2.out 0; have f1 := Joins.unfrozen_of_block Kq2.out 1; have f2 := Joins.unfrozen_of_block Kq2.out 2; have g0 := Joins.unfrozen_of_block Kq3.out 0; have g1 := Joins.unfrozen_of_block Kq3.out 1; have g2 := Joins.unfrozen_of_block Kq3.out 2))
  refine bodyPost_ret (v := .agg #[.int .i64 k, .int .i64 p, .int .i64 q]) (by simp [results, Try.results79, go_sem, c0, c1, c2]) rfl ⟨rfl, ?_⟩
  have s1 : ∀ (W : World) (b i : Nat) (v : Value), w.heap.size ≤ b → Below w.heap.size w W → Below w.heap.size w (W.setCell ⟨b, i, none⟩ v) := fun W b i v hb hW => hW.setCell (p := ⟨b, i, none⟩) hb v
  repeat' (first | exact HB2.out | refine s1 _ _ _ _ (by omega) ?_)

/-- What a round of the members' copy leaves. -/
theorem toMs_round {wr w2 : World} {B n k : Nat} {ms : List Mb} {g1 g2 g3 : Int} (hg : (g1, g2, g3) = ms.getD k Z3) (hlt : k < n)
    (h : ∃ xs, wr.ownsRow B 129 3 (.slice (some ⟨B, 0, none⟩) n n) n xs ∧ ∀ j, j < k → xs[j * 3]? = some (.int .i64 (ms.getD j Z3).1) ∧ xs[j * 3 + 1]? = some (.int .i64 (ms.getD j Z3).2.1) ∧ xs[j * 3 + 2]? = some (.int .i64 (ms.getD j Z3).2.2)) (hb : Below wr.heap.size wr w2) :
    ∃ u0 u1 u2, w2.cell? ⟨B, k * 3, none⟩ = some u0 ∧ w2.cell? ⟨B, k * 3 + 1, none⟩ = some u1 ∧ w2.cell? ⟨B, k * 3 + 2, none⟩ = some u2 ∧ w2.frozen? ⟨B, k * 3, none⟩ = false ∧ w2.frozen? ⟨B, k * 3 + 1, none⟩ = false ∧ w2.frozen? ⟨B, k * 3 + 2, none⟩ = false ∧
      Hid (∃ xs, (((w2.setCell ⟨B, k * 3, none⟩ (.int .i64 g1)).setCell ⟨B, k * 3 + 1, none⟩ (.int .i64 g2)).setCell ⟨B, k * 3 + 2, none⟩ (.int .i64 g3)).ownsRow B 129 3 (.slice (some ⟨B, 0, none⟩) n n) n xs ∧ ∀ j, j < k + 1 → xs[j * 3]? = some (.int .i64 (ms.getD j Z3).1) ∧ xs[j * 3 + 1]? = some (.int .i64 (ms.getD j Z3).2.1) ∧ xs[j * 3 + 2]? = some (.int .i64 (ms.getD j Z3).2.2)) := by
  obtain ⟨xs, hown0, hxs⟩ := h
  have hown := hown0.kept (w' := w2) (row := none) ⟨hb.os, hb.tape, hb.output, hb.size, fun k hk _ => hb.block k hk⟩ (by simp [Value.ownBlock])
  have hxl := hown.1
  have r1 := (hown.stored (k * 3) (.int .i64 g1)).1
  have r2 := (r1.stored (k * 3 + 1) (.int .i64 g2)).1
  have r3 := (r2.stored (k * 3 + 2) (.int .i64 g3)).1
  refine ⟨_, _, _, (hown.cellAt (k * 3) (by omega)).trans (List.getElem?_eq_getElem (by omega)), (hown.cellAt (k * 3 + 1) (by omega)).trans (List.getElem?_eq_getElem (by omega)), (hown.cellAt (k * 3 + 2) (by omega)).trans (List.getElem?_eq_getElem (by omega)), hown.frozenAt _, hown.frozenAt _, hown.frozenAt _, _, r3, fun j hj => ?_⟩
  by_cases e : k = j
  · subst e
    rw [← hg]
    refine ⟨?_, ?_, ?_⟩
    · rw [List.getElem?_set_ne (by omega), List.getElem?_set_ne (by omega), List.getElem?_set_self (by omega)]
    · rw [List.getElem?_set_ne (by omega), List.getElem?_set_self (by simp; omega)]
    · rw [List.getElem?_set_self (by simp; omega)]
  · have := hxs j (by omega)
    refine ⟨?_, ?_, ?_⟩
    · rw [List.getElem?_set_ne (by omega), List.getElem?_set_ne (by omega), List.getElem?_set_ne (by omega)]; exact this.1
    · rw [List.getElem?_set_ne (by omega), List.getElem?_set_ne (by omega), List.getElem?_set_ne (by omega)]; exact this.2.1
    · rw [List.getElem?_set_ne (by omega), List.getElem?_set_ne (by omega), List.getElem?_set_ne (by omega)]; exact this.2.2

set_option maxHeartbeats 400000 in
theorem toMs_any (a : Option Addr) (n cap : Nat) (ms : List Mb) (w : World) (hl : n ≤ 1048576) (hs : MAt w a n ms) :
    Calls Try.prog 58 #[.slice a n cap] w fun e w' => ∃ g c, e = .returned (.slice (some ⟨g, 0, none⟩) n c) ∧ w'.ownsRow w.heap.size 129 3 (.slice (some ⟨g, 0, none⟩) n c) n (mcells ms) ∧ Below w.heap.size w w' := by
  have HN : Hid (ms.length = n) := hs.1
  have HSS : Hid (MAt w a n ms) := hs
  clear hs
  obtain ⟨i0, hi, hz0, hz1, hz2⟩ := info_parts Try.infoMem
  have hml : n ≤ maxLen := by unfold maxLen; omega
  go_enter Try.func58, Try.ntmps58
  go_wp2_with (first | (at_make; refine wpList_make_full _ rfl _ _ 59 rfl w.heap.size 129 i0 (.agg #[.int .i64 0, .int .i64 0, .int .i64 0]) 3 Try.underlying59 hi hz0 hz1 _ _ _ _ n rfl rfl (by omega) (by omega) (by rw [hz2]; omega) hml (Nat.le_refl _) ?_; intro w1 ho1 hg1))
  have hb1 : Below w.heap.size w w1 := (Below.refl _ _).grown hg1 (Nat.le_refl _) (fun k h => by cases h)
  go_loopw [4] (fun i wr => ∃ k : Nat, k ≤ n ∧ i = .int .i64 k ∧ Below w.heap.size w wr ∧ Hid (∃ xs, wr.ownsRow w.heap.size 129 3 (.slice (some ⟨w.heap.size, 0, none⟩) n n) n xs ∧ ∀ j, j < k → xs[j * 3]? = some (.int .i64 (ms.getD j Z3).1) ∧ xs[j * 3 + 1]? = some (.int .i64 (ms.getD j Z3).2.1) ∧ xs[j * 3 + 2]? = some (.int .i64 (ms.getD j Z3).2.2))) (fun i _ => n - (intOf i).toNat)
  case atStart => exact ⟨0, Nat.zero_le _, rfl, hb1, _, ho1, fun j hj => by omega⟩
  case round =>
    obtain ⟨k, hk, rfl, hbel, HX⟩ := hrel
    clear ho1 hg1 hb1
    by_cases hlt : k < n
    · rcases HSS.out.2 with h0 | ⟨b, off, ha, hb, hc⟩
      · omega
      subst ha
      obtain ⟨g, hg⟩ : ∃ g, g = ms.getD k Z3 := ⟨_, rfl⟩
      have hcx := hc k hlt
      rw [← hg] at hcx
      obtain ⟨g1, g2, g3⟩ := g
      have c0 := (hbel.cell (p := ⟨b, off + k * 3, none⟩) hb).trans hcx.1
      have c1 := (hbel.cell (p := ⟨b, off + k * 3 + 1, none⟩) hb).trans hcx.2.1
      have c2 := (hbel.cell (p := ⟨b, off + k * 3 + 2, none⟩) hb).trans hcx.2.2
      simp only at c0 c1 c2
      have HG : Hid ((g1, g2, g3) = ms.getD k Z3) := hg
      clear hg hc hcx
      go_wp2_with (first | (go_at_call 79; refine (toMem_any _ _ _ _).mono ?_; rintro e w2 ⟨rfl, hb2⟩; obtain ⟨u0, u1, u2, cg0, cg1, cg2, fg0, fg1, fg2, HX2⟩ := toMs_round HG.out hlt HX.out hb2))
      go_roundw
      case rel => exact ⟨k + 1, by omega, by go_num, (((hbel.trans (hb2.mono hbel.size)).setCell (Nat.le_refl _) _).setCell (Nat.le_refl _) _).setCell (Nat.le_refl _) _, HX2⟩
      case measure => simp [intOf]; omega
    · go_wp2
      go_ret
      obtain ⟨xs, hown, hxs⟩ := HX.out
      refine ⟨_, _, rfl, ?_, hbel⟩
      rw [← all_mems HN.out hown.1 (fun j hj => hxs j (by omega))]
      exact hown

theorem eqMem_any (k p q : Int) (w : World) : Calls Try.prog 82 #[.agg #[.int .i64 k, .int .i64 p, .int .i64 q], .agg #[.int .i64 k, .int .i64 p, .int .i64 q]] w fun e w' => e = .returned (.bool true) ∧ Below w.heap.size w w' := by
  have hb0 : Below w.heap.size w ((w.alloc (.cells #[.int .i64 k, .int .i64 p, .int .i64 q] 129)).alloc (.cells #[.int .i64 k, .int .i64 p, .int .i64 q] 129)) := ((Below.refl _ _).alloc (Nat.le_refl _) _).alloc (by simp) _
  have hc := eqRef_any p q ((w.alloc (.cells #[.int .i64 k, .int .i64 p, .int .i64 q] 129)).alloc (.cells #[.int .i64 k, .int .i64 p, .int .i64 q] 129))
  go_enter Try.func82, Try.ntmps82
  go_wp2_with (first | (go_at_call 46; (with_reducible refine hc.mono ?_); clear hc; rintro e w2 ⟨rfl, hb2⟩))
  go_ret
  exact ⟨rfl, hb0.trans (hb2.mono hb0.size)⟩

set_option maxHeartbeats 400000 in
theorem eqMs_any (a b : Option Addr) (n c1 c2 : Nat) (ms : List Mb) (w : World) (hl : n ≤ 1048576) (ha : MAt w a n ms) (hb : MAt w b n ms) :
    Calls Try.prog 60 #[.slice a n c1, .slice b n c2] w fun e w' => e = .returned (.bool true) ∧ Below w.heap.size w w' := by
  have HA : Hid (MAt w a n ms) := ha
  have HB : Hid (MAt w b n ms) := hb
  clear ha hb
  go_enter Try.func60, Try.ntmps60
  go_wp2
  go_loopw [5] (fun i wr => ∃ k : Nat, k ≤ n ∧ i = .int .i64 k ∧ Below w.heap.size w wr) (fun i _ => n - (intOf i).toNat)
  case atStart => exact ⟨0, Nat.zero_le _, rfl, Below.refl _ _⟩
  case round =>
    obtain ⟨k, hk, rfl, hbel⟩ := hrel
    by_cases hlt : k < n
    · rcases HA.out.2 with h0 | ⟨b0, o0, e0, l0, d0⟩
      · omega
      subst e0
      rcases HB.out.2 with h0 | ⟨b1, o1, e1, l1, d1⟩
      · omega
      subst e1
      obtain ⟨g, hg⟩ : ∃ g, g = ms.getD k Z3 := ⟨_, rfl⟩
      have y0 := d0 k hlt
      have y1 := d1 k hlt
      rw [← hg] at y0 y1
      obtain ⟨g1, g2, g3⟩ := g
      have x0 := (hbel.cell (p := ⟨b0, o0 + k * 3, none⟩) l0).trans y0.1
      have x1 := (hbel.cell (p := ⟨b0, o0 + k * 3 + 1, none⟩) l0).trans y0.2.1
      have x2 := (hbel.cell (p := ⟨b0, o0 + k * 3 + 2, none⟩) l0).trans y0.2.2
      have x3 := (hbel.cell (p := ⟨b1, o1 + k * 3, none⟩) l1).trans y1.1
      have x4 := (hbel.cell (p := ⟨b1, o1 + k * 3 + 1, none⟩) l1).trans y1.2.1
      have x5 := (hbel.cell (p := ⟨b1, o1 + k * 3 + 2, none⟩) l1).trans y1.2.2
      simp only at x0 x1 x2 x3 x4 x5
      clear hg d0 d1 y0 y1
      have hki : (k : Int) < (n : Int) := by omega
      have hw0 : b0 < wr.heap.size := Nat.lt_of_lt_of_le l0 hbel.size
      have hw1 : b1 < wr.heap.size := Nat.lt_of_lt_of_le l1 hbel.size
      have hcall : ∀ j, Calls Try.prog 82 #[.agg #[.int .i64 g1, .int .i64 g2, .int .i64 g3], .agg #[.int .i64 g1, .int .i64 g2, .int .i64 g3]] (wr.drewN j) fun e w' => e = .returned (.bool true) ∧ Below wr.heap.size wr w' := fun j => (eqMem_any g1 g2 g3 _).mono fun e w' h => ⟨h.1, (Joins.below_draws _ wr j).trans h.2⟩
      go_wp2
      go_region_held3 (fun w' => w'.cell? ⟨b0, o0 + k * 3, none⟩ = some (.int .i64 g1) ∧ w'.cell? ⟨b0, o0 + k * 3 + 1, none⟩ = some (.int .i64 g2) ∧ w'.cell? ⟨b0, o0 + k * 3 + 2, none⟩ = some (.int .i64 g3) ∧ w'.cell? ⟨b1, o1 + k * 3, none⟩ = some (.int .i64 g1) ∧ w'.cell? ⟨b1, o1 + k * 3 + 1, none⟩ = some (.int .i64 g2) ∧ w'.cell? ⟨b1, o1 + k * 3 + 2, none⟩ = some (.int .i64 g3)) (go_keep)
        (first | (go_at_call 82; refine (hcall 1).mono ?_; rintro e w3 ⟨rfl, hb3⟩; have z0 := (hb3.cell (p := ⟨b0, o0 + k * 3, none⟩) hw0).trans x0; have z1 := (hb3.cell (p := ⟨b0, o0 + k * 3 + 1, none⟩) hw0).trans x1; have z2 := (hb3.cell (p := ⟨b0, o0 + k * 3 + 2, none⟩) hw0).trans x2; have z3 := (hb3.cell (p := ⟨b1, o1 + k * 3, none⟩) hw1).trans x3; have z4 := (hb3.cell (p := ⟨b1, o1 + k * 3 + 1, none⟩) hw1).trans x4; have z5 := (hb3.cell (p := ⟨b1, o1 + k * 3 + 2, none⟩) hw1).trans x5))
      go_wp2
      go_roundw
      case rel => exact ⟨k + 1, by omega, by go_num, hbel.trans (hb3.mono hbel.size)⟩
      case measure => simp [intOf]; omega
    · go_wp2
      go_ret
      exact ⟨rfl, hbel⟩

end Go.Proofs.Ytbjgngabdcknnaa
