/- Rules that come in: their size is told, they are copied into new memory, two are compared. The program's iterator over a rule's keys, and those who range over it. Are all of them keys, and do they rise: the program's loops over its iterator. What keeps a rule from being one: the specification's code and the program's. The program's RuleFault. -/
import Derived.Test.YtmnahhojfcigmaaSignsOf
import Derived.RangeFuncFrom
import Derived.RangeFuncBox
import Derived.RangeFuncCalls
import Derived.RangeFuncLeaves
import Derived.Shelf.Abstract
import Derived.WalkKit
import Derived.OwnWalkIn
import Derived.TacticsInMore
import Derived.LoopNIn
import Derived.LoopIn
namespace Go.Proofs.Ytmnahhojfcigmaa
open Go.RowKit Go.Maps Go.WideMaps

section
variable {w w2 W v : World} {b B : Nat} {c0 c1 c2 : Value} {t : TypeId}
theorem cells3 (h : v.heap[b]? = some (.cells #[c0, c1, c2] t (0, 0))) : v.cell? ⟨b, 0, none⟩ = some c0 ∧ v.cell? ⟨b, 1, none⟩ = some c1 ∧ v.cell? ⟨b, 2, none⟩ = some c2 :=
  ⟨by unfold World.cell?; rw [h]; rfl, by unfold World.cell?; rw [h]; rfl, by unfold World.cell?; rw [h]; rfl⟩
end

theorem szI_any (a : Option Addr) (n cap : Nat) (left : Int) (w : World) (h0 : 0 ≤ left) (h1 : left ≤ 1048576) (hl : n ≤ maxLen) :
    Calls Try.prog 16 #[.slice a n cap, .int .i64 left] w fun e w' => ∃ r : Int, e = .returned (.int .i64 r) ∧ w' = w ∧ SzG n left r := by
  unfold maxLen at hl
  by_cases hn : left < n
  · go_enter Try.func16, Try.ntmps16
    go_wp2
    go_ret
    exact ⟨_, rfl, rfl, Or.inl rfl⟩
  · go_enter Try.func16, Try.ntmps16
    go_wp2
    go_ret
    exact ⟨_, rfl, rfl, Or.inr ⟨by omega, by omega, by omega⟩⟩

theorem all_ints {xs : List Value} {l : List Int} {n : Nat} (hn : l.length = n) (hl : xs.length = n * 1) (h : ∀ j, j < n → xs[j]? = some (.int .i64 (l.getD j 0))) : xs = ints l := by
  apply List.ext_getElem?
  intro j
  by_cases hj : j < n
  · rw [h j hj]; simp [ints, List.getD, show j < l.length by omega]
  · rw [List.getElem?_eq_none (by omega), List.getElem?_eq_none (by simp [ints]; omega)]

set_option maxHeartbeats 400000 in
theorem toI_any (a : Option Addr) (n cap : Nat) (l : List Int) (w : World) (hl : n ≤ 1048576) (hs : IAt w a n l) :
    Calls Try.prog 7 #[.slice a n cap] w fun e w' => ∃ g c, e = .returned (.slice (some ⟨g, 0, none⟩) n c) ∧ w'.ownsRow w.heap.size 2 1 (.slice (some ⟨g, 0, none⟩) n c) n (ints l) ∧ Below w.heap.size w w' := by
  have HN : Hid (l.length = n) := hs.1
  have HSS : Hid (IAt w a n l) := hs
  clear hs
  obtain ⟨i0, hi, hz0, hz1, hz2⟩ := info_parts Try.infoI64
  have hml : n ≤ maxLen := by unfold maxLen; omega
  go_enter Try.func7, Try.ntmps7
  go_wp2_with (first | (at_make; refine wpList_make_full _ rfl _ _ 22 rfl w.heap.size 2 i0 (.int .i64 0) 1 Try.underlying22 hi hz0 hz1 _ _ _ _ n rfl rfl (by omega) (by omega) (by rw [hz2]; omega) hml (Nat.le_refl _) ?_; intro w1 ho1 hg1))
  have hb1 : Below w.heap.size w w1 := (Below.refl _ _).grown hg1 (Nat.le_refl _) (fun k h => by cases h)
  go_loopw [4] (fun i wr => ∃ k : Nat, k ≤ n ∧ i = .int .i64 k ∧ Below w.heap.size w wr ∧ Hid (∃ xs, wr.ownsRow w.heap.size 2 1 (.slice (some ⟨w.heap.size, 0, none⟩) n n) n xs ∧ ∀ j, j < k → xs[j]? = some (.int .i64 (l.getD j 0)))) (fun i _ => n - (intOf i).toNat)
  case atStart => exact ⟨0, Nat.zero_le _, rfl, hb1, _, ho1, fun j hj => by omega⟩
  case round =>
    obtain ⟨k, hk, rfl, hbel, HX⟩ := hrel
    clear ho1 hg1 hb1
    by_cases hlt : k < n
    · rcases HSS.out.2 with h0 | ⟨b, off, ha, hb, hc⟩
      · omega
      subst ha
      obtain ⟨s, hs⟩ : ∃ s, s = l.getD k 0 := ⟨_, rfl⟩
      have hcx := (hbel.cell (p := ⟨b, off + k, none⟩) hb).trans (hc k hlt)
      rw [← hs] at hcx
      have HS : Hid (s = l.getD k 0) := hs
      clear hs hc
      obtain ⟨xs, hown, hxs⟩ := HX.out
      have hxl : xs.length = n * 1 := hown.1
      obtain ⟨v, hv⟩ : ∃ v, xs[k]? = some v := ⟨_, List.getElem?_eq_getElem (by omega)⟩
      have cg : wr.cell? ⟨w.heap.size, k, none⟩ = some v := (hown.cellAt k (by omega)).trans hv
      have fg : wr.frozen? ⟨w.heap.size, k, none⟩ = false := hown.frozenAt k
      have HX2 : Hid (∃ xs, (wr.setCell ⟨w.heap.size, k, none⟩ (.int .i64 s)).ownsRow w.heap.size 2 1 (.slice (some ⟨w.heap.size, 0, none⟩) n n) n xs ∧ ∀ j, j < k + 1 → xs[j]? = some (.int .i64 (l.getD j 0))) := by
        refine ⟨_, (hown.stored k (.int .i64 s)).1, fun j hj => ?_⟩
        by_cases e : k = j
        · subst e
          rw [List.getElem?_set_self (by omega), HS.out]
        · rw [List.getElem?_set_ne e, hxs j (by omega)]
      clear hown hxs hv hxl HX
      go_wp2
      go_roundw
      case rel => exact ⟨k + 1, by omega, by go_num, hbel.setCell (Nat.le_refl _) _, HX2⟩
      case measure => simp [intOf]; omega
    · go_wp2
      go_ret
      obtain ⟨xs, hown, hxs⟩ := HX.out
      refine ⟨_, _, rfl, ?_, hbel⟩
      rw [← all_ints HN.out hown.1 (fun j hj => hxs j (by omega))]
      exact hown

end Go.Proofs.Ytmnahhojfcigmaa

namespace Go.Proofs.Ytmnahhojfcigmaa
open Go.RowKit Go.Shelf Go.Maps Go.WideMaps
attribute [local go_sem] Oper.semAt_some

theorem take_more {α : Type} {zs : List α} {k : Nat} {x : α} (h : zs[k]? = some x) : zs.take (k + 1) = zs.take k ++ [x] := by rw [List.take_add_one, h]; rfl

end Go.Proofs.Ytmnahhojfcigmaa

namespace Go.Proofs.Ytmnahhojfcigmaa
open Go.RowKit Go.Shelf Go.Maps Go.WideMaps
attribute [local go_sem] Oper.semAt_some

theorem new1 (W : World) (v : Value) (t : TypeId) : (W.alloc (.cells #[v] t)).cell? ⟨W.heap.size, 0, none⟩ = some v ∧ (W.alloc (.cells #[v] t)).frozen? ⟨W.heap.size, 0, none⟩ = false :=
  ⟨by unfold World.cell?; rw [heap_alloc_new]; rfl, Joins.unfrozen_of_block (heap_alloc_new _ _) 0⟩
theorem kept1 {W : World} {a : Addr} {v : Value} (o : Obj) (h : W.cell? a = some v) : (W.alloc o).cell? a = some v := cell_kept h (World.grownBy_alloc W o none) (fun r e => by cases e)
theorem kept1f {W : World} {a : Addr} {v : Value} (o : Obj) (h : W.cell? a = some v) (hf : W.frozen? a = false) : (W.alloc o).frozen? a = false := (frozen_kept h (World.grownBy_alloc W o none) (fun r e => by cases e)).trans hf

def allK (l : List Int) : Bool := l.all fun k => inB k 1 999
theorem allK_snoc {pre : List Int} {x : Int} (h : allK pre = true) (hx : inB x 1 999 = true) : allK (pre ++ [x]) = true := by simp [allK] at *; exact ⟨h, hx⟩
theorem allK_bad {pre : List Int} {x : Int} (hx : inB x 1 999 = false) : allK (pre ++ [x]) = false := by simp [allK, hx]
theorem allK_pre {pre l : List Int} (h : pre <+: l) (hb : allK pre = false) : allK l = false := by
  obtain ⟨t, rfl⟩ := h
  unfold allK at *
  rw [List.all_append, hb]; rfl

def riseB : Int → List Int → Bool
  | _, [] => true
  | p, k :: t => decide (p < k) && riseB k t
def lastK : Int → List Int → Int
  | p, [] => p
  | _, k :: t => lastK k t
theorem lastK_snoc (p : Int) (l : List Int) (x : Int) : lastK p (l ++ [x]) = x := by
  induction l generalizing p with
  | nil => rfl
  | cons k t ih => exact ih k
theorem riseB_snoc (p : Int) (l : List Int) (x : Int) : riseB p (l ++ [x]) = (riseB p l && decide (lastK p l < x)) := by
  induction l generalizing p with
  | nil => simp only [List.nil_append, riseB, lastK, Bool.and_true, Bool.true_and]; rfl
  | cons k t ih => simp only [List.cons_append, riseB, lastK, ih, Bool.and_assoc]; rfl
theorem riseB_pre {pre l : List Int} (h : pre <+: l) {p : Int} (hb : riseB p pre = false) : riseB p l = false := by
  obtain ⟨t, rfl⟩ := h
  induction pre generalizing p with
  | nil => cases hb
  | cons k r ih =>
    simp only [List.cons_append, riseB] at *
    cases hd : decide (p < k)
    · rfl
    · rw [hd, Bool.true_and] at hb
      rw [Bool.true_and]
      exact ih hb

end Go.Proofs.Ytmnahhojfcigmaa

namespace Go.Proofs.Ytmnahhojfcigmaa
open Go.RowKit Go.Shelf Go.Maps Go.WideMaps


theorem take_next {l : List Int} {n k : Nat} (hn : l.length = n) (hlt : k < n) {s : Int} (hs : s = l.getD k 0) : l.take (k + 1) = l.take k ++ [s] :=
  take_more (by rw [hs]; simp [List.getD, show k < l.length by omega])
theorem take_all {l : List Int} {n k : Nat} (hn : l.length = n) (h : ¬ k < n) : l.take k = l := List.take_of_length_le (by omega)
theorem lastK_take {l : List Int} {n k : Nat} (hn : l.length = n) (hk : k < n) {s : Int} (hs : s = l.getD k 0) : lastK 0 (l.take (k + 1)) = s := by rw [take_next hn hk hs, lastK_snoc]
end Go.Proofs.Ytmnahhojfcigmaa

namespace Go.Proofs.Ytmnahhojfcigmaa
open Go.RowKit Go.Shelf Go.Maps Go.WideMaps


end Go.Proofs.Ytmnahhojfcigmaa
