/- Rules that come in: their size is told, they are copied into new memory, two are compared. The program's iterator over a rule's keys, and those who range over it. Are all of them keys, and do they rise: the program's loops over its iterator. What keeps a rule from being one: the specification's code and the program's. The program's RuleFault. -/
import Derived.Test.YtdomekniepeohaaSignsOf
import Derived.RangeFuncFrom
import Derived.RangeFuncBox
import Derived.RangeFuncCalls
import Derived.RangeFuncLeaves
import Derived.Shelf.Abstract
import Derived.WalkKit
import Derived.OwnWalkIn
import Derived.TacticsInMore
import Derived.LoopNIn
import Derived.LoopIn
namespace Go.Proofs.Ytdomekniepeohaa
open Go.RowKit Go.Maps Go.WideMaps

section
variable {w w2 W v : World} {b B : Nat} {c0 c1 c2 : Value} {t : TypeId}
theorem cells3 (h : v.heap[b]? = some (.cells #[c0, c1, c2] t (0, 0))) : v.cell? ⟨b, 0, none⟩ = some c0 ∧ v.cell? ⟨b, 1, none⟩ = some c1 ∧ v.cell? ⟨b, 2, none⟩ = some c2 :=
  ⟨by unfold World.cell?; rw [h]; rfl, by unfold World.cell?; rw [h]; rfl, by unfold World.cell?; rw [h]; rfl⟩
theorem res3 (h : w.heap[b]? = some (.cells #[c0, c1, c2] t (0, 0))) (hb : Below B w w2) (hB : b < B) :
    (w2.cell? ⟨b, 0, none⟩ = some c0 ∧ w2.cell? ⟨b, 1, none⟩ = some c1 ∧ w2.cell? ⟨b, 2, none⟩ = some c2) ∧ (w2.frozen? ⟨b, 0, none⟩ = false ∧ w2.frozen? ⟨b, 1, none⟩ = false ∧ w2.frozen? ⟨b, 2, none⟩ = false) ∧ Hid (w2.heap[b]? = some (.cells #[c0, c1, c2] t (0, 0))) := by
  have h2 := (hb.block b hB).trans h
  exact ⟨cells3 h2, ⟨Joins.unfrozen_of_block h2 0, Joins.unfrozen_of_block h2 1, Joins.unfrozen_of_block h2 2⟩, h2⟩
theorem set3 (h : W.heap[b]? = some (.cells #[c0, c1, c2] t (0, 0))) (v0 v1 v2 : Value) :
    (((W.setCell ⟨b, 0, none⟩ v0).setCell ⟨b, 1, none⟩ v1).setCell ⟨b, 2, none⟩ v2).heap[b]? = some (.cells #[v0, v1, v2] t (0, 0)) := by
  have h1 : (W.setCell ⟨b, 0, none⟩ v0).heap[b]? = some (.cells #[v0, c1, c2] t (0, 0)) := by
    have := Joins.block_setCell (i := 0) h v0
    simpa using this
  have h2 : ((W.setCell ⟨b, 0, none⟩ v0).setCell ⟨b, 1, none⟩ v1).heap[b]? = some (.cells #[v0, v1, c2] t (0, 0)) := by
    have := Joins.block_setCell (i := 1) h1 v1
    simpa using this
  have := Joins.block_setCell (i := 2) h2 v2
  simpa using this
theorem three_set (h : W.heap[b]? = some (.cells #[c0, c1, c2] t (0, 0))) (v0 v1 v2 : Value) :
    (W.setCell ⟨b, 0, none⟩ v0).cell? ⟨b, 0, none⟩ = some v0 ∧ ((W.setCell ⟨b, 0, none⟩ v0).setCell ⟨b, 1, none⟩ v1).cell? ⟨b, 1, none⟩ = some v1 ∧ (((W.setCell ⟨b, 0, none⟩ v0).setCell ⟨b, 1, none⟩ v1).setCell ⟨b, 2, none⟩ v2).cell? ⟨b, 2, none⟩ = some v2 := by
  have h1 : (W.setCell ⟨b, 0, none⟩ v0).heap[b]? = some (.cells #[v0, c1, c2] t (0, 0)) := by
    have := Joins.block_setCell (i := 0) h v0
    simpa using this
  have h2 : ((W.setCell ⟨b, 0, none⟩ v0).setCell ⟨b, 1, none⟩ v1).heap[b]? = some (.cells #[v0, v1, c2] t (0, 0)) := by
    have := Joins.block_setCell (i := 1) h1 v1
    simpa using this
  exact ⟨(cells3 h1).1, (cells3 h2).2.1, (cells3 (set3 h v0 v1 v2)).2.2⟩
theorem heap_set3 {c : Nat} (h : c ≠ b) (v0 v1 v2 : Value) : (((W.setCell ⟨b, 0, none⟩ v0).setCell ⟨b, 1, none⟩ v1).setCell ⟨b, 2, none⟩ v2).heap[c]? = W.heap[c]? :=
  (Below.heap_setCell _ ⟨b, 2, none⟩ _ c h).trans ((Below.heap_setCell _ ⟨b, 1, none⟩ _ c h).trans (Below.heap_setCell _ ⟨b, 0, none⟩ _ c h))
theorem below_set3 (h : Below B w W) (hb : B ≤ b) (v0 v1 v2 : Value) : Below B w (((W.setCell ⟨b, 0, none⟩ v0).setCell ⟨b, 1, none⟩ v1).setCell ⟨b, 2, none⟩ v2) :=
  ((h.setCell (p := ⟨b, 0, none⟩) hb _).setCell (p := ⟨b, 1, none⟩) hb _).setCell (p := ⟨b, 2, none⟩) hb _
theorem row_set3 {base n size : Nat} {e : TypeId} {v : Value} {xs : List Value} (h : W.ownsRow base e size v n xs) (hb : b < base) (v0 v1 v2 : Value) : (((W.setCell ⟨b, 0, none⟩ v0).setCell ⟨b, 1, none⟩ v1).setCell ⟨b, 2, none⟩ v2).ownsRow base e size v n xs :=
  ownsRow_setCell_below (ownsRow_setCell_below (ownsRow_setCell_below h (a := ⟨b, 0, none⟩) hb _) (a := ⟨b, 1, none⟩) hb _) (a := ⟨b, 2, none⟩) hb _
end

theorem szI_any (a : Option Addr) (n cap : Nat) (left : Int) (w : World) (h0 : 0 ≤ left) (h1 : left ≤ 1048576) (hl : n ≤ maxLen) :
    Calls Try.prog 85 #[.slice a n cap, .int .i64 left] w fun e w' => ∃ r : Int, e = .returned (.int .i64 r) ∧ w' = w ∧ SzG n left r := by
  unfold maxLen at hl
  by_cases hn : left < n
  · go_enter Try.func85, Try.ntmps85
    go_wp2
    go_ret
    exact ⟨_, rfl, rfl, Or.inl rfl⟩
  · go_enter Try.func85, Try.ntmps85
    go_wp2
    go_ret
    exact ⟨_, rfl, rfl, Or.inr ⟨by omega, by omega, by omega⟩⟩

theorem szRu_any (a : Option Addr) (n cap : Nat) (x y left : Int) (w : World) (h0 : 0 ≤ left) (h1 : left ≤ 1048576) (hl : n ≤ maxLen) :
    Calls Try.prog 77 #[.agg #[.slice a n cap, .int .i64 x, .int .i64 y], .int .i64 left] w fun e w' => ∃ r : Int, e = .returned (.int .i64 r) ∧ SzG n left r ∧ Below w.heap.size w w' := by
  have hbx : Below w.heap.size w (w.alloc (.cells #[.slice a n cap, .int .i64 x, .int .i64 y] 87)) := below_box _
  have hS := szI_any a n cap left (w.alloc (.cells #[.slice a n cap, .int .i64 x, .int .i64 y] 87)) h0 h1 hl
  go_enter Try.func77, Try.ntmps77
  go_wp2_with (first
    | (go_at_call 85; refine hS.mono ?_; rintro e w2 ⟨r, rfl, hw, hr⟩; have hw2 := hw.symm; subst hw2))
  · go_ret
    exact ⟨_, rfl, Or.inl rfl, hbx⟩
  · go_ret
    exact ⟨_, rfl, hr, hbx⟩

theorem all_ints {xs : List Value} {l : List Int} {n : Nat} (hn : l.length = n) (hl : xs.length = n * 1) (h : ∀ j, j < n → xs[j]? = some (.int .i64 (l.getD j 0))) : xs = ints l := by
  apply List.ext_getElem?
  intro j
  by_cases hj : j < n
  · rw [h j hj]; simp [ints, List.getD, show j < l.length by omega]
  · rw [List.getElem?_eq_none (by omega), List.getElem?_eq_none (by simp [ints]; omega)]

set_option maxHeartbeats 400000 in
theorem toI_any (a : Option Addr) (n cap : Nat) (l : List Int) (w : World) (hl : n ≤ 1048576) (hs : IAt w a n l) :
    Calls Try.prog 86 #[.slice a n cap] w fun e w' => ∃ g c, e = .returned (.slice (some ⟨g, 0, none⟩) n c) ∧ w'.ownsRow w.heap.size 2 1 (.slice (some ⟨g, 0, none⟩) n c) n (ints l) ∧ Below w.heap.size w w' := by
  have HN : Hid (l.length = n) := hs.1
  have HSS : Hid (IAt w a n l) := hs
  clear hs
  obtain ⟨i0, hi, hz0, hz1, hz2⟩ := info_parts Try.infoI64
  have hml : n ≤ maxLen := by unfold maxLen; omega
  go_enter Try.func86, Try.ntmps86
  go_wp2_with (first | (at_make; refine wpList_make_full _ rfl _ _ 85 rfl w.heap.size 2 i0 (.int .i64 0) 1 Try.underlying85 hi hz0 hz1 _ _ _ _ n rfl rfl (by omega) (by omega) (by rw [hz2]; omega) hml (Nat.le_refl _) ?_; intro w1 ho1 hg1))
  have hb1 : Below w.heap.size w w1 := (Below.refl _ _).grown hg1 (Nat.le_refl _) (fun k h => by cases h)
  go_loopw [4] (fun i wr => ∃ k : Nat, k ≤ n ∧ i = .int .i64 k ∧ Below w.heap.size w wr ∧ Hid (∃ xs, wr.ownsRow w.heap.size 2 1 (.slice (some ⟨w.heap.size, 0, none⟩) n n) n xs ∧ ∀ j, j < k → xs[j]? = some (.int .i64 (l.getD j 0)))) (fun i _ => n - (intOf i).toNat)
  case atStart => exact ⟨0, Nat.zero_le _, rfl, hb1, _, ho1, fun j hj => by omega⟩
  case round =>
    obtain ⟨k, hk, rfl, hbel, HX⟩ := hrel
    clear ho1 hg1 hb1
    by_cases hlt : k < n
    · rcases HSS.out.2 with h0 | ⟨b, off, ha, hb, hc⟩
      · omega
      subst ha
      obtain ⟨s, hs⟩ : ∃ s, s = l.getD k 0 := ⟨_, rfl⟩
      have hcx := (hbel.cell (p := ⟨b, off + k, none⟩) hb).trans (hc k hlt)
      rw [← hs] at hcx
      have HS : Hid (s = l.getD k 0) := hs
      clear hs hc
      obtain ⟨xs, hown, hxs⟩ := HX.out
      have hxl : xs.length = n * 1 := hown.1
      obtain ⟨v, hv⟩ : ∃ v, xs[k]? = some v := ⟨_, List.getElem?_eq_getElem (by omega)⟩
      have cg : wr.cell? ⟨w.heap.size, k, none⟩ = some v := (hown.cellAt k (by omega)).trans hv
      have fg : wr.frozen? ⟨w.heap.size, k, none⟩ = false := hown.frozenAt k
      have HX2 : Hid (∃ xs, (wr.setCell ⟨w.heap.size, k, none⟩ (.int .i64 s)).ownsRow w.heap.size 2 1 (.slice (some ⟨w.heap.size, 0, none⟩) n n) n xs ∧ ∀ j, j < k + 1 → xs[j]? = some (.int .i64 (l.getD j 0))) := by
        refine ⟨_, (hown.stored k (.int .i64 s)).1, fun j hj => ?_⟩
        by_cases e : k = j
        · subst e
          rw [List.getElem?_set_self (by omega), HS.out]
        · rw [List.getElem?_set_ne e, hxs j (by omega)]
      clear hown hxs hv hxl HX
      go_wp2
      go_roundw
      case rel => exact ⟨k + 1, by omega, by go_num, hbel.setCell (Nat.le_refl _) _, HX2⟩
      case measure => simp [intOf]; omega
    · go_wp2
      go_ret
      obtain ⟨xs, hown, hxs⟩ := HX.out
      refine ⟨_, _, rfl, ?_, hbel⟩
      rw [← all_ints HN.out hown.1 (fun j hj => hxs j (by omega))]
      exact hown

/-- A rule's copy: its keys lie in new memory. -/
def OutRu (w w' : World) (e : Ending) (n : Nat) (l : List Int) (x y : Int) : Prop :=
  ∃ g c, e = .returned (.agg #[.slice (some ⟨g, 0, none⟩) n c, .int .i64 x, .int .i64 y]) ∧ w'.ownsRow w.heap.size 2 1 (.slice (some ⟨g, 0, none⟩) n c) n (ints l) ∧ Below w.heap.size w w'

set_option maxHeartbeats 400000 in
theorem toRu_any (a : Option Addr) (n cap : Nat) (l : List Int) (x y : Int) (w : World) (hl : n ≤ 1048576) (h : IAt w a n l) :
    Calls Try.prog 79 #[.agg #[.slice a n cap, .int .i64 x, .int .i64 y]] w fun e w' => OutRu w w' e n l x y := by
  have hbx : Below w.heap.size w (((w.alloc (.cells #[.slice a n cap, .int .i64 x, .int .i64 y] 87)).alloc (.cells #[.slice none 0 0, .int .i64 0, .int .i64 0] 93)).alloc (.cells #[.slice none 0 0, .int .i64 0, .int .i64 0] 93)) := below_box3 _ _ _
  have hS := toI_any a n cap l _ hl (h.below hbx (Nat.le_refl _))
  have HBX : Hid (Below w.heap.size w (((w.alloc (.cells #[.slice a n cap, .int .i64 x, .int .i64 y] 87)).alloc (.cells #[.slice none 0 0, .int .i64 0, .int .i64 0] 93)).alloc (.cells #[.slice none 0 0, .int .i64 0, .int .i64 0] 93))) := hbx
  obtain ⟨t0, t1, t2, t3⟩ := three_blocks w (.cells #[.slice a n cap, .int .i64 x, .int .i64 y] 87) (.cells #[.slice none 0 0, .int .i64 0, .int .i64 0] 93) (.cells #[.slice none 0 0, .int .i64 0, .int .i64 0] 93)
  have T0 : Hid _ := t0
  have T1 : Hid _ := t1
  have T2z : Hid _ := t2
  have T3 : Hid _ := t3
  clear hbx h t0 t1 t2 t3
  go_enter Try.func79, Try.ntmps79
  go_wp2_with (first
    | (go_at_call 86; refine hS.mono ?_; rintro e w2 ⟨g0, k0, rfl, ho0, hb2⟩; rw [T3.out] at ho0 hb2; obtain ⟨⟨p0, p1, p2⟩, _, HP⟩ := res3 T0.out hb2 (by omega); obtain ⟨⟨q0, q1, q2⟩, ⟨q3, q4, q5⟩, HR⟩ := res3 T1.out hb2 (by omega); obtain ⟨⟨r0, r1, r2⟩, ⟨r3, r4, r5⟩, HO⟩ := res3 T2z.out hb2 (by omega); have hbw : Below w.heap.size w w2 := HBX.out.trans (hb2.mono (by omega)); have HROW : Hid (w2.ownsRow (w.heap.size + 1 + 1 + 1) 2 1 (.slice (some ⟨g0, 0, none⟩) n k0) n (ints l)) := ho0; have HBW : Hid (Below w.heap.size w w2) := hbw; clear ho0 hb2 hbw))
  have hR3 := (heap_set3 (W := w2) (b := w.heap.size + 1 + 1) (c := w.heap.size + 1) (by omega) (.slice (some ⟨g0, 0, none⟩) n k0) (.int .i64 x) (.int .i64 y)).trans HR.out
  obtain ⟨s0, s1, s2⟩ := three_set hR3 (.slice (some ⟨g0, 0, none⟩) n k0) (.int .i64 x) (.int .i64 y)
  refine bodyPost_ret (v := .agg #[.slice (some ⟨g0, 0, none⟩) n k0, .int .i64 x, .int .i64 y]) (by simp [results, Try.results79, go_sem, s0, s1, s2]) rfl ⟨g0, k0, rfl, ?_, ?_⟩
  · exact Joins.ownsRow_le (row_set3 (row_set3 HROW.out (by omega) _ _ _) (by omega) _ _ _) (by omega)
  · exact below_set3 (below_set3 HBW.out (by omega) _ _ _) (by omega) _ _ _

set_option maxHeartbeats 400000 in
theorem eqRu_any (a b : Option Addr) (n c1 c2 : Nat) (l : List Int) (x y : Int) (w : World) (hl : n ≤ 1048576) (ha : IAt w a n l) (hb : IAt w b n l) :
    Calls Try.prog 81 #[.agg #[.slice a n c1, .int .i64 x, .int .i64 y], .agg #[.slice b n c2, .int .i64 x, .int .i64 y]] w fun e w' => e = .returned (.bool true) ∧ Below w.heap.size w w' := by
  have hbx : Below w.heap.size w ((w.alloc (.cells #[.slice a n c1, .int .i64 x, .int .i64 y] 93)).alloc (.cells #[.slice b n c2, .int .i64 x, .int .i64 y] 93)) := below_box2 _ _
  have hS := eqI_any a b n c1 c2 l _ hl (ha.below hbx (Nat.le_refl _)) (hb.below hbx (Nat.le_refl _))
  have t0 := block_at2 (w := w) (o := .cells #[.slice a n c1, .int .i64 x, .int .i64 y] 93) (o' := .cells #[.slice b n c2, .int .i64 x, .int .i64 y] 93)
  have t1 := heap_alloc_at (w.alloc (.cells #[.slice a n c1, .int .i64 x, .int .i64 y] 93)) (.cells #[.slice b n c2, .int .i64 x, .int .i64 y] 93) (w.heap.size + 1) (by simp)
  have HBX : Hid (Below w.heap.size w ((w.alloc (.cells #[.slice a n c1, .int .i64 x, .int .i64 y] 93)).alloc (.cells #[.slice b n c2, .int .i64 x, .int .i64 y] 93))) := hbx
  have T0 : Hid _ := t0
  have T1 : Hid _ := t1
  clear hbx ha hb t0 t1
  go_enter Try.func81, Try.ntmps81
  go_wp2_with (first
    | (go_at_call 88; refine hS.mono ?_; rintro e w2 ⟨rfl, hb2⟩; obtain ⟨⟨p0, p1, p2⟩, _, HP⟩ := res3 T0.out hb2 (by simp; omega); obtain ⟨⟨q0, q1, q2⟩, _, HQ⟩ := res3 T1.out hb2 (by simp); have HBW : Hid (Below w.heap.size w w2) := HBX.out.trans (hb2.mono (by simp; omega)); clear hb2))
  go_ret
  exact ⟨rfl, HBW.out⟩

end Go.Proofs.Ytdomekniepeohaa

namespace Go.Proofs.Ytdomekniepeohaa
open Go.RowKit Go.Shelf Go.Maps Go.WideMaps
attribute [local go_sem] Oper.semAt_some

end Go.Proofs.Ytdomekniepeohaa

namespace Go.Proofs.Ytdomekniepeohaa
open Go.RowKit Go.Shelf Go.Maps Go.WideMaps
attribute [local go_sem] Oper.semAt_some

end Go.Proofs.Ytdomekniepeohaa

namespace Go.Proofs.Ytdomekniepeohaa
open Go.RowKit Go.Shelf Go.Maps Go.WideMaps


end Go.Proofs.Ytdomekniepeohaa

namespace Go.Proofs.Ytdomekniepeohaa
open Go.RowKit Go.Shelf Go.Maps Go.WideMaps


end Go.Proofs.Ytdomekniepeohaa
