/- Refs that come in: their size is told, they are copied, two lists are compared. Outs that come in: their size is told, they are copied, two lists are compared. Outs and transactions that come in are copied into new memory. Lists of outs that come in are copied into new memory. Transactions that come in: two are compared, their size is told, they are copied. Transactions that come in are copied into new memory. -/
import Derived.Test.YtbjgngabdcknnaaRu
import Derived.Test.YtbjgngabdcknnaaCp
namespace Go.Proofs.Ytbjgngabdcknnaa
open Go.RowKit Go.Maps

theorem Try.infoRef : (Try.prog.info? 31).map (fun i => (i.zero, i.size, i.bytes)) = some (some (.agg #[.int .i64 0, .int .i64 0]), 2, 16) := by kernel_rfl

theorem szRf_any (a : Option Addr) (n cap : Nat) (left : Int) (w : World) (h0 : 0 ≤ left) (h1 : left ≤ 1048576) (hl : n ≤ maxLen) :
    Calls Try.prog 17 #[.slice a n cap, .int .i64 left] w fun e w' => ∃ r : Int, e = .returned (.int .i64 r) ∧ w' = w ∧ SzG n left r := by
  unfold maxLen at hl
  by_cases hn : left < n
  · go_enter Try.func17, Try.ntmps17
    go_wp2
    go_ret
    exact ⟨_, rfl, rfl, Or.inl rfl⟩
  · go_enter Try.func17, Try.ntmps17
    go_wp2
    go_ret
    exact ⟨_, rfl, rfl, Or.inr ⟨by omega, by omega, by omega⟩⟩

theorem toRef_any (a b : Int) (w : World) : Calls Try.prog 10 #[.agg #[.int .i64 a, .int .i64 b]] w fun e w' => e = .returned (.agg #[.int .i64 a, .int .i64 b]) ∧ Below w.heap.size w w' := by
  go_enter Try.func10, Try.ntmps10
  go_wp2
  refine bodyPost_ret (v := .agg #[.int .i64 a, .int .i64 b]) (by simp [results, Try.results10, go_sem]) rfl ⟨rfl, ?_⟩
  exact (((Below.refl _ _).alloc (Nat.le_refl _) _).alloc (by simp) _).alloc (by simp; omega) _

/-- What a round of the refs' copy leaves. -/
theorem toRf_round {wr w2 : World} {B n k : Nat} {gs : List (Int × Int)} {g1 g2 : Int} (hg : (g1, g2) = gs.getD k G0) (hlt : k < n)
    (h : ∃ xs, wr.ownsRow B 31 2 (.slice (some ⟨B, 0, none⟩) n n) n xs ∧ ∀ j, j < k → xs[j * 2]? = some (.int .i64 (gs.getD j G0).1) ∧ xs[j * 2 + 1]? = some (.int .i64 (gs.getD j G0).2)) (hb : Below wr.heap.size wr w2) :
    ∃ u0 u1, w2.cell? ⟨B, k * 2, none⟩ = some u0 ∧ w2.cell? ⟨B, k * 2 + 1, none⟩ = some u1 ∧ w2.frozen? ⟨B, k * 2, none⟩ = false ∧ w2.frozen? ⟨B, k * 2 + 1, none⟩ = false ∧
      Hid (∃ xs, ((w2.setCell ⟨B, k * 2, none⟩ (.int .i64 g1)).setCell ⟨B, k * 2 + 1, none⟩ (.int .i64 g2)).ownsRow B 31 2 (.slice (some ⟨B, 0, none⟩) n n) n xs ∧ ∀ j, j < k + 1 → xs[j * 2]? = some (.int .i64 (gs.getD j G0).1) ∧ xs[j * 2 + 1]? = some (.int .i64 (gs.getD j G0).2)) := by
  obtain ⟨xs, hown0, hxs⟩ := h
  have hown := hown0.kept (w' := w2) (row := none) ⟨hb.os, hb.tape, hb.output, hb.size, fun k hk _ => hb.block k hk⟩ (by simp [Value.ownBlock])
  have hxl := hown.1
  have r1 := (hown.stored (k * 2) (.int .i64 g1)).1
  have r2 := (r1.stored (k * 2 + 1) (.int .i64 g2)).1
  refine ⟨_, _, (hown.cellAt (k * 2) (by omega)).trans (List.getElem?_eq_getElem (by omega)), (hown.cellAt (k * 2 + 1) (by omega)).trans (List.getElem?_eq_getElem (by omega)), hown.frozenAt _, hown.frozenAt _, _, r2, fun j hj => ?_⟩
  by_cases e : k = j
  · subst e
    rw [← hg]
    constructor
    · rw [List.getElem?_set_ne (by omega), List.getElem?_set_self (by omega)]
    · rw [List.getElem?_set_self (by simp; omega)]
  · have := hxs j (by omega)
    constructor
    · rw [List.getElem?_set_ne (by omega), List.getElem?_set_ne (by omega)]; exact this.1
    · rw [List.getElem?_set_ne (by omega), List.getElem?_set_ne (by omega)]; exact this.2

set_option maxHeartbeats 400000 in
theorem toRf_any (a : Option Addr) (n cap : Nat) (gs : List (Int × Int)) (w : World) (hl : n ≤ 1048576) (hs : GAt w a n gs) :
    Calls Try.prog 19 #[.slice a n cap] w fun e w' => ∃ g c, e = .returned (.slice (some ⟨g, 0, none⟩) n c) ∧ w'.ownsRow w.heap.size 31 2 (.slice (some ⟨g, 0, none⟩) n c) n (gcells gs) ∧ Below w.heap.size w w' := by
  have HN : Hid (gs.length = n) := hs.1
  have HSS : Hid (GAt w a n gs) := hs
  clear hs
  obtain ⟨i0, hi, hz0, hz1, hz2⟩ := info_parts Try.infoRef
  have hml : n ≤ maxLen := by unfold maxLen; omega
  go_enter Try.func19, Try.ntmps19
  go_wp2_with (first | (at_make; refine wpList_make_full _ rfl _ _ 41 rfl w.heap.size 31 i0 (.agg #[.int .i64 0, .int .i64 0]) 2 Try.underlying41 hi hz0 hz1 _ _ _ _ n rfl rfl (by omega) (by omega) (by rw [hz2]; omega) hml (Nat.le_refl _) ?_; intro w1 ho1 hg1))
  have hb1 : Below w.heap.size w w1 := (Below.refl _ _).grown hg1 (Nat.le_refl _) (fun k h => by cases h)
  go_loopw [4] (fun i wr => ∃ k : Nat, k ≤ n ∧ i = .int .i64 k ∧ Below w.heap.size w wr ∧ Hid (∃ xs, wr.ownsRow w.heap.size 31 2 (.slice (some ⟨w.heap.size, 0, none⟩) n n) n xs ∧ ∀ j, j < k → xs[j * 2]? = some (.int .i64 (gs.getD j G0).1) ∧ xs[j * 2 + 1]? = some (.int .i64 (gs.getD j G0).2))) (fun i _ => n - (intOf i).toNat)
  case atStart => exact ⟨0, Nat.zero_le _, rfl, hb1, _, ho1, fun j hj => by omega⟩
  case round =>
    obtain ⟨k, hk, rfl, hbel, HX⟩ := hrel
    clear ho1 hg1 hb1
    by_cases hlt : k < n
    · rcases HSS.out.2 with h0 | ⟨b, off, ha, hb, hc⟩
      · omega
      subst ha
      obtain ⟨g, hg⟩ : ∃ g, g = gs.getD k G0 := ⟨_, rfl⟩
      have hcx := hc k hlt
      rw [← hg] at hcx
      obtain ⟨g1, g2⟩ := g
      have c0 := (hbel.cell (p := ⟨b, off + k * 2, none⟩) hb).trans hcx.1
      have c1 := (hbel.cell (p := ⟨b, off + k * 2 + 1, none⟩) hb).trans hcx.2
      have HG : Hid ((g1, g2) = gs.getD k G0) := hg
      clear hg hc hcx
      go_wp2_with (first | (go_at_call 10; refine (toRef_any _ _ _).mono ?_; rintro e w2 ⟨rfl, hb2⟩; obtain ⟨u0, u1, cg0, cg1, fg0, fg1, HX2⟩ := toRf_round HG.out hlt HX.out hb2))
      go_roundw
      case rel => exact ⟨k + 1, by omega, by go_num, ((hbel.trans (hb2.mono hbel.size)).setCell (Nat.le_refl _) _).setCell (Nat.le_refl _) _, HX2⟩
      case measure => simp [intOf]; omega
    · go_wp2
      go_ret
      obtain ⟨xs, hown, hxs⟩ := HX.out
      refine ⟨_, _, rfl, ?_, hbel⟩
      rw [← all_signs HN.out hown.1 (fun j hj => hxs j (by omega))]
      exact hown

theorem eqRef_any (a b : Int) (w : World) : Calls Try.prog 46 #[.agg #[.int .i64 a, .int .i64 b], .agg #[.int .i64 a, .int .i64 b]] w fun e w' => e = .returned (.bool true) ∧ Below w.heap.size w w' := by
  go_enter Try.func46, Try.ntmps46
  go_wp2
  go_ret
  exact ⟨rfl, ((Below.refl _ _).alloc (Nat.le_refl _) _).alloc (by simp) _⟩

set_option maxHeartbeats 400000 in
theorem eqRf_any (a b : Option Addr) (n c1 c2 : Nat) (gs : List (Int × Int)) (w : World) (hl : n ≤ 1048576) (ha : GAt w a n gs) (hb : GAt w b n gs) :
    Calls Try.prog 21 #[.slice a n c1, .slice b n c2] w fun e w' => e = .returned (.bool true) ∧ Below w.heap.size w w' := by
  have HA : Hid (GAt w a n gs) := ha
  have HB : Hid (GAt w b n gs) := hb
  clear ha hb
  go_enter Try.func21, Try.ntmps21
  go_wp2
  go_loopw [5] (fun i wr => ∃ k : Nat, k ≤ n ∧ i = .int .i64 k ∧ Below w.heap.size w wr) (fun i _ => n - (intOf i).toNat)
  case atStart => exact ⟨0, Nat.zero_le _, rfl, Below.refl _ _⟩
  case round =>
    obtain ⟨k, hk, rfl, hbel⟩ := hrel
    by_cases hlt : k < n
    · rcases HA.out.2 with h0 | ⟨b0, o0, e0, l0, d0⟩
      · omega
      subst e0
      rcases HB.out.2 with h0 | ⟨b1, o1, e1, l1, d1⟩
      · omega
      subst e1
      obtain ⟨g, hg⟩ : ∃ g, g = gs.getD k G0 := ⟨_, rfl⟩
      have y0 := d0 k hlt
      have y1 := d1 k hlt
      rw [← hg] at y0 y1
      obtain ⟨g1, g2⟩ := g
      have x0 := (hbel.cell (p := ⟨b0, o0 + k * 2, none⟩) l0).trans y0.1
      have x1 := (hbel.cell (p := ⟨b0, o0 + k * 2 + 1, none⟩) l0).trans y0.2
      have x2 := (hbel.cell (p := ⟨b1, o1 + k * 2, none⟩) l1).trans y1.1
      have x3 := (hbel.cell (p := ⟨b1, o1 + k * 2 + 1, none⟩) l1).trans y1.2
      clear hg d0 d1 y0 y1
      have hki : (k : Int) < (n : Int) := by omega
      have hw0 : b0 < wr.heap.size := Nat.lt_of_lt_of_le l0 hbel.size
      have hw1 : b1 < wr.heap.size := Nat.lt_of_lt_of_le l1 hbel.size
      have hcall : ∀ j, Calls Try.prog 46 #[.agg #[.int .i64 g1, .int .i64 g2], .agg #[.int .i64 g1, .int .i64 g2]] (wr.drewN j) fun e w' => e = .returned (.bool true) ∧ Below wr.heap.size wr w' := fun j => (eqRef_any g1 g2 _).mono fun e w' h => ⟨h.1, (Joins.below_draws _ wr j).trans h.2⟩
      go_wp2
      go_region_held3 (fun w' => w'.cell? ⟨b0, o0 + k * 2, none⟩ = some (.int .i64 g1) ∧ w'.cell? ⟨b0, o0 + k * 2 + 1, none⟩ = some (.int .i64 g2) ∧ w'.cell? ⟨b1, o1 + k * 2, none⟩ = some (.int .i64 g1) ∧ w'.cell? ⟨b1, o1 + k * 2 + 1, none⟩ = some (.int .i64 g2)) (go_keep)
        (first | (go_at_call 46; refine (hcall 1).mono ?_; rintro e w3 ⟨rfl, hb3⟩; have z0 := (hb3.cell (p := ⟨b0, o0 + k * 2, none⟩) hw0).trans x0; have z1 := (hb3.cell (p := ⟨b0, o0 + k * 2 + 1, none⟩) hw0).trans x1; have z2 := (hb3.cell (p := ⟨b1, o1 + k * 2, none⟩) hw1).trans x2; have z3 := (hb3.cell (p := ⟨b1, o1 + k * 2 + 1, none⟩) hw1).trans x3))
      go_wp2
      go_roundw
      case rel => exact ⟨k + 1, by omega, by go_num, hbel.trans (hb3.mono hbel.size)⟩
      case measure => simp [intOf]; omega
    · go_wp2
      go_ret
      exact ⟨rfl, hbel⟩

end Go.Proofs.Ytbjgngabdcknnaa

namespace Go.Proofs.Ytbjgngabdcknnaa
open Go.RowKit Go.Maps

structure Ou where
  v : Int
  l : List Int
  x : Int
  y : Int
theorem szOut_any (v : Int) (a : Option Addr) (n cap : Nat) (x y left : Int) (w : World) (h0 : 0 ≤ left) (h1 : left ≤ 1048576) (hl : n ≤ maxLen) :
    Calls Try.prog 47 #[.agg #[.int .i64 v, .slice a n cap, .int .i64 x, .int .i64 y], .int .i64 left] w fun e w' => ∃ r : Int, e = .returned (.int .i64 r) ∧ SzG n left r ∧ Below w.heap.size w w' := by
  have hbx : Below w.heap.size w (w.alloc (.cells #[.int .i64 v, .slice a n cap, .int .i64 x, .int .i64 y] 70)) := below_box _
  have hS := szRu_any a n cap x y left (w.alloc (.cells #[.int .i64 v, .slice a n cap, .int .i64 x, .int .i64 y] 70)) h0 h1 hl
  go_enter Try.func47, Try.ntmps47
  go_wp2_with (first
    | (go_at_call 70; refine hS.mono ?_; rintro e w2 ⟨r, rfl, hr, hb2⟩; have HB : Hid (Below w.heap.size w w2) := hbx.trans (hb2.mono (by simp)); clear hb2))
  · go_ret
    exact ⟨_, rfl, Or.inl rfl, HB.out⟩
  · go_ret
    exact ⟨_, rfl, hr, HB.out⟩

end Go.Proofs.Ytbjgngabdcknnaa

namespace Go.Proofs.Ytbjgngabdcknnaa
open Go.RowKit Go.Maps Go.WideMaps

theorem res4 {w w2 : World} {b B : Nat} {c0 c1 c2 c3 : Value} {t : TypeId} (h : w.heap[b]? = some (.cells #[c0, c1, c2, c3] t (0, 0))) (hb : Below B w w2) (hB : b < B) :
    (w2.cell? ⟨b, 0, none⟩ = some c0 ∧ w2.cell? ⟨b, 1, none⟩ = some c1 ∧ w2.cell? ⟨b, 2, none⟩ = some c2 ∧ w2.cell? ⟨b, 3, none⟩ = some c3 ∧ w2.frozen? ⟨b, 0, none⟩ = false ∧ w2.frozen? ⟨b, 1, none⟩ = false ∧ w2.frozen? ⟨b, 2, none⟩ = false ∧ w2.frozen? ⟨b, 3, none⟩ = false) ∧ Hid (w2.heap[b]? = some (.cells #[c0, c1, c2, c3] t (0, 0))) := by
  have h2 := (hb.block b hB).trans h
  exact ⟨cells4 h2, h2⟩

/-- An out's copy: its keys lie in new memory. -/
def OutOu (w w' : World) (e : Ending) (v : Int) (n : Nat) (l : List Int) (x y : Int) : Prop :=
  ∃ g c, e = .returned (.agg #[.int .i64 v, .slice (some ⟨g, 0, none⟩) n c, .int .i64 x, .int .i64 y]) ∧ w'.ownsRow w.heap.size 2 1 (.slice (some ⟨g, 0, none⟩) n c) n (ints l) ∧ Below w.heap.size w w'

set_option maxHeartbeats 1000000 in
theorem toOut_any (v : Int) (a : Option Addr) (n cap : Nat) (l : List Int) (x y : Int) (w : World) (hl : n ≤ 1048576) (h : IAt w a n l) :
    Calls Try.prog 53 #[.agg #[.int .i64 v, .slice a n cap, .int .i64 x, .int .i64 y]] w fun e w' => OutOu w w' e v n l x y := by
  obtain ⟨t0, t1, t2, t3⟩ := three_blocks w (.cells #[.int .i64 v, .slice a n cap, .int .i64 x, .int .i64 y] 70) (.cells #[.int .i64 0, .slice none 0 0, .int .i64 0, .int .i64 0] 78) (.cells #[.int .i64 v, .slice none 0 0, .int .i64 0, .int .i64 0] 78)
  have hbs : Below w.heap.size w (((w.alloc (.cells #[.int .i64 v, .slice a n cap, .int .i64 x, .int .i64 y] 70)).alloc (.cells #[.int .i64 0, .slice none 0 0, .int .i64 0, .int .i64 0] 78)).alloc (.cells #[.int .i64 v, .slice none 0 0, .int .i64 0, .int .i64 0] 78)) := below_box3 _ _ _
  have hS := toRu_any a n cap l x y (((w.alloc (.cells #[.int .i64 v, .slice a n cap, .int .i64 x, .int .i64 y] 70)).alloc (.cells #[.int .i64 0, .slice none 0 0, .int .i64 0, .int .i64 0] 78)).alloc (.cells #[.int .i64 v, .slice none 0 0, .int .i64 0, .int .i64 0] 78)) hl (h.below hbs (Nat.le_refl _))
  have U1 := show Hid ((((w.alloc (.cells #[.int .i64 v, .slice a n cap, .int .i64 x, .int .i64 y] 70)).alloc (.cells #[.int .i64 0, .slice none 0 0, .int .i64 0, .int .i64 0] 78)).alloc (.cells #[.int .i64 v, .slice none 0 0, .int .i64 0, .int .i64 0] 78)).heap[w.heap.size + 1]? = some (.cells #[.int .i64 0, .slice none 0 0, .int .i64 0, .int .i64 0] 78 (0, 0))) from t1
  have U2 := show Hid ((((w.alloc (.cells #[.int .i64 v, .slice a n cap, .int .i64 x, .int .i64 y] 70)).alloc (.cells #[.int .i64 0, .slice none 0 0, .int .i64 0, .int .i64 0] 78)).alloc (.cells #[.int .i64 v, .slice none 0 0, .int .i64 0, .int .i64 0] 78)).heap[w.heap.size + 1 + 1]? = some (.cells #[.int .i64 v, .slice none 0 0, .int .i64 0, .int .i64 0] 78 (0, 0))) from t2
  have HBS : Hid (Below w.heap.size w (((w.alloc (.cells #[.int .i64 v, .slice a n cap, .int .i64 x, .int .i64 y] 70)).alloc (.cells #[.int .i64 0, .slice none 0 0, .int .i64 0, .int .i64 0] 78)).alloc (.cells #[.int .i64 v, .slice none 0 0, .int .i64 0, .int .i64 0] 78))) := hbs
  have HSZ : Hid ((((w.alloc (.cells #[.int .i64 v, .slice a n cap, .int .i64 x, .int .i64 y] 70)).alloc (.cells #[.int .i64 0, .slice none 0 0, .int .i64 0, .int .i64 0] 78)).alloc (.cells #[.int .i64 v, .slice none 0 0, .int .i64 0, .int .i64 0] 78)).heap.size = w.heap.size + 1 + 1 + 1) := t3
  obtain ⟨s0, s1, s2, s3, _⟩ := cells4 t0
  clear t0 t1 t2 t3 hbs h
  go_enter Try.func53, Try.ntmps53
  go_wp2_with (first
    | (go_at_call 73; refine hS.mono ?_; rintro e w2 ⟨g0, k0, rfl, ho0, hb2⟩; rw [HSZ.out] at ho0 hb2; obtain ⟨⟨r0, r1, r2, r3, r4, r5, r6, r7⟩, HR⟩ := res4 U1.out hb2 (by omega); obtain ⟨⟨o0, o1, o2, o3, o4, o5, o6, o7⟩, HO⟩ := res4 U2.out hb2 (by omega); have HROW : Hid (w2.ownsRow (w.heap.size + 1 + 1 + 1) 2 1 (.slice (some ⟨g0, 0, none⟩) n k0) n (ints l)) := ho0; have HBW : Hid (Below w.heap.size w w2) := HBS.out.trans (hb2.mono (by omega)); clear ho0 hb2))
  have hR3 : (((w2.setCell ⟨w.heap.size + 1 + 1, 1, none⟩ (.slice (some ⟨g0, 0, none⟩) n k0)).setCell ⟨w.heap.size + 1 + 1, 2, none⟩ (.int .i64 x)).setCell ⟨w.heap.size + 1 + 1, 3, none⟩ (.int .i64 y)).heap[w.heap.size + 1]? = some (.cells #[.int .i64 0, .slice none 0 0, .int .i64 0, .int .i64 0] 78 (0, 0)) :=
    (Below.heap_setCell _ ⟨w.heap.size + 1 + 1, 3, none⟩ _ (w.heap.size + 1) (show w.heap.size + 1 ≠ w.heap.size + 1 + 1 by omega)).trans ((Below.heap_setCell _ ⟨w.heap.size + 1 + 1, 2, none⟩ _ (w.heap.size + 1) (show w.heap.size + 1 ≠ w.heap.size + 1 + 1 by omega)).trans ((Below.heap_setCell _ ⟨w.heap.size + 1 + 1, 1, none⟩ _ (w.heap.size + 1) (show w.heap.size + 1 ≠ w.heap.size + 1 + 1 by omega)).trans HR.out))
  obtain ⟨j0, j1, j2, j3⟩ := four_set hR3 (.int .i64 v) (.slice (some ⟨g0, 0, none⟩) n k0) (.int .i64 x) (.int .i64 y)
  refine bodyPost_ret (v := .agg #[.int .i64 v, .slice (some ⟨g0, 0, none⟩) n k0, .int .i64 x, .int .i64 y]) (by simp [results, Try.results53, go_sem, j0, j1, j2, j3]) rfl ⟨g0, k0, rfl, ?_, ?_⟩
  · exact row_res4 (ownsRow_setCell_below (ownsRow_setCell_below (ownsRow_setCell_below HROW.out (a := ⟨w.heap.size + 1 + 1, 1, none⟩) (show w.heap.size + 1 + 1 < _ by omega) _) (a := ⟨w.heap.size + 1 + 1, 2, none⟩) (show w.heap.size + 1 + 1 < _ by omega) _) (a := ⟨w.heap.size + 1 + 1, 3, none⟩) (show w.heap.size + 1 + 1 < _ by omega) _) (by omega) (by omega) _ _ _ _
  · exact below_res4 (((HBW.out.setCell (p := ⟨w.heap.size + 1 + 1, 1, none⟩) (show w.heap.size ≤ w.heap.size + 1 + 1 by omega) _).setCell (p := ⟨w.heap.size + 1 + 1, 2, none⟩) (show w.heap.size ≤ w.heap.size + 1 + 1 by omega) _).setCell (p := ⟨w.heap.size + 1 + 1, 3, none⟩) (show w.heap.size ≤ w.heap.size + 1 + 1 by omega) _) _ _ _ _

end Go.Proofs.Ytbjgngabdcknnaa

namespace Go.Proofs.Ytbjgngabdcknnaa
open Go.RowKit Go.Maps Go.WideMaps

theorem IAt.setOther {v : World} {g n B i : Nat} {l : List Int} (h : IAt v (some ⟨g, 0, none⟩) n l) (hne : g ≠ B) (u : Value) : IAt (v.setCell ⟨B, i, none⟩ u) (some ⟨g, 0, none⟩) n l := by
  obtain ⟨hn, h | ⟨b, off, e, hlt, hc⟩⟩ := h
  · exact ⟨hn, .inl h⟩
  · cases e
    exact ⟨hn, .inr ⟨g, 0, rfl, by simpa using hlt, fun j hj => (World.cell?_of_block (Below.heap_setCell _ ⟨B, i, none⟩ u g hne)).trans (hc j hj)⟩⟩

end Go.Proofs.Ytbjgngabdcknnaa

namespace Go.Proofs.Ytbjgngabdcknnaa
open Go.RowKit Go.Maps Go.WideMaps

set_option maxHeartbeats 400000 in
theorem eqOut_any (v : Int) (a b : Option Addr) (n c1 c2 : Nat) (l : List Int) (x y : Int) (w : World) (hl : n ≤ 1048576) (ha : IAt w a n l) (hb : IAt w b n l) :
    Calls Try.prog 55 #[.agg #[.int .i64 v, .slice a n c1, .int .i64 x, .int .i64 y], .agg #[.int .i64 v, .slice b n c2, .int .i64 x, .int .i64 y]] w fun e w' => e = .returned (.bool true) ∧ Below w.heap.size w w' := by
  have hbx : Below w.heap.size w ((w.alloc (.cells #[.int .i64 v, .slice a n c1, .int .i64 x, .int .i64 y] 78)).alloc (.cells #[.int .i64 v, .slice b n c2, .int .i64 x, .int .i64 y] 78)) := below_box2 _ _
  have hS := eqRu_any a b n c1 c2 l x y _ hl (ha.below hbx (Nat.le_refl _)) (hb.below hbx (Nat.le_refl _))
  have HBX : Hid (Below w.heap.size w ((w.alloc (.cells #[.int .i64 v, .slice a n c1, .int .i64 x, .int .i64 y] 78)).alloc (.cells #[.int .i64 v, .slice b n c2, .int .i64 x, .int .i64 y] 78))) := hbx
  clear hbx ha hb
  go_enter Try.func55, Try.ntmps55
  go_wp2_with (first
    | (go_at_call 77; refine hS.mono ?_; rintro e w2 ⟨rfl, hb2⟩; have HBW : Hid (Below w.heap.size w w2) := HBX.out.trans (hb2.mono (by simp; omega)); clear hb2))
  go_ret
  exact ⟨rfl, HBW.out⟩

end Go.Proofs.Ytbjgngabdcknnaa

namespace Go.Proofs.Ytbjgngabdcknnaa
open Go.RowKit Go.Maps Go.WideMaps


end Go.Proofs.Ytbjgngabdcknnaa
