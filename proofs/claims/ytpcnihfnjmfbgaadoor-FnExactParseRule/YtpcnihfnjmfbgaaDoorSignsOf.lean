/- What SignsOf answers: the specification's and the program's. What the specification's SignsOf answers. The marks of lists of numbers, and results that hold one compared. -/
import Derived.Test.YtpcnihfnjmfbgaaDoorIdOf
import Derived.Test.YtpcnihfnjmfbgaaDoorMk
import Derived.Deep.RegionLaw
namespace Go.Proofs.YtpcnihfnjmfbgaaDoor
open Go.RowKit Go.Maps Go.WideMaps
attribute [local go_sem ↓] Go.wp_at_zero Go.wp_at_succ

theorem Tryd.infoI64 : (Tryd.prog.info? 2).map (fun i => (i.zero, i.size, i.bytes)) = some (some (.int .i64 0), 1, 8) := by kernel_rfl

def ints (l : List Int) : List Value := l.map (Value.int .i64)

theorem heap_alloc_at (w : World) (o : Obj) (n : Nat) (h : n = w.heap.size) : (w.alloc o).heap[n]? = some o := by rw [h]; exact heap_alloc_new w o

end Go.Proofs.YtpcnihfnjmfbgaaDoor

namespace Go.Proofs.YtpcnihfnjmfbgaaDoor
open Go.RowKit Go.Maps Go.WideMaps
attribute [local go_sem ↓] Go.wp_at_zero Go.wp_at_succ

end Go.Proofs.YtpcnihfnjmfbgaaDoor

namespace Go.Proofs.YtpcnihfnjmfbgaaDoor
open Go.RowKit Go.Maps Go.WideMaps

def IAt (w : World) (a : Option Addr) (n : Nat) (l : List Int) : Prop :=
  l.length = n ∧ (n = 0 ∨ ∃ b off, a = some ⟨b, off, none⟩ ∧ b < w.heap.size ∧ ∀ j, j < n → w.cell? ⟨b, off + j, none⟩ = some (.int .i64 (l.getD j 0)))

theorem IAt.below {w w' : World} {a : Option Addr} {n : Nat} {l : List Int} (h : IAt w a n l) {B : Nat} (hb : Below B w w') (hB : w.heap.size ≤ B) : IAt w' a n l := by
  obtain ⟨hn, h | ⟨b, off, rfl, hlt, hc⟩⟩ := h
  · exact ⟨hn, .inl h⟩
  · exact ⟨hn, .inr ⟨b, off, rfl, Nat.lt_of_lt_of_le hlt hb.size, fun j hj => (hb.cell (p := ⟨b, off + j, none⟩) (Nat.lt_of_lt_of_le hlt hB)).trans (hc j hj)⟩⟩

theorem IAt.owned {w : World} {base n c : Nat} {a : Option Addr} {l : List Int} (h : w.ownsRow base 2 1 (.slice a n c) n (ints l)) (hn : l.length = n) : IAt w a n l := by
  refine ⟨hn, ?_⟩
  rcases id h.2 with ⟨_, h0⟩ | ⟨g, cap, cur, e, _⟩
  · exact .inl h0
  · simp at e
    obtain ⟨rfl, rfl⟩ := e
    refine .inr ⟨g, 0, rfl, (h.lt g rfl).2, fun j hj => ?_⟩
    rw [Nat.zero_add, h.cellAt j (by omega)]
    simp [ints, List.getD, show j < l.length by omega]

set_option maxHeartbeats 400000 in
theorem eqI_any (a b : Option Addr) (n c1 c2 : Nat) (l : List Int) (w : World) (hl : n ≤ 1048576) (ha : IAt w a n l) (hb : IAt w b n l) :
    Calls Tryd.prog 30 #[.slice a n c1, .slice b n c2] w fun e w' => e = .returned (.bool true) ∧ Below w.heap.size w w' := by
  have HA : Hid (IAt w a n l) := ha
  have HB : Hid (IAt w b n l) := hb
  clear ha hb
  go_enter Tryd.func30, Tryd.ntmps30
  go_wp2
  go_loopw [5] (fun i wr => ∃ k : Nat, k ≤ n ∧ i = .int .i64 k ∧ Below w.heap.size w wr) (fun i _ => n - (intOf i).toNat)
  case atStart => exact ⟨0, Nat.zero_le _, rfl, Below.refl _ _⟩
  case round =>
    obtain ⟨k, hk, rfl, hbel⟩ := hrel
    by_cases hlt : k < n
    · rcases HA.out.2 with h0 | ⟨b0, o0, e0, l0, d0⟩
      · omega
      subst e0
      rcases HB.out.2 with h0 | ⟨b1, o1, e1, l1, d1⟩
      · omega
      subst e1
      obtain ⟨s, hs⟩ : ∃ s, s = l.getD k 0 := ⟨_, rfl⟩
      have x0 := (hbel.cell (p := ⟨b0, o0 + k, none⟩) l0).trans (d0 k hlt)
      have x1 := (hbel.cell (p := ⟨b1, o1 + k, none⟩) l1).trans (d1 k hlt)
      rw [← hs] at x0 x1
      clear hs d0 d1
      have hki : (k : Int) < (n : Int) := by omega
      go_wp2
      go_quiet (fail)
      go_wp2
      go_roundw
      case rel => exact ⟨k + 1, by omega, by go_num, hbel.trans (Joins.below_draws _ _ _)⟩
      case measure => simp [intOf]; omega
    · go_wp2
      go_ret
      exact ⟨rfl, hbel⟩

def mkI (k n : Nat) : List Value := (List.range n).map fun j => .int .i64 (k + j : Nat)
theorem mkI_of {xs : List Value} {k n : Nat} (hl : xs.length = n * 1) (h : ∀ j, j < n → xs[j]? = some (.int .i64 (k + j : Nat))) : xs = mkI k n := by
  apply List.ext_getElem?
  intro j
  by_cases hj : j < n
  · rw [h j hj]; simp [mkI, hj]
  · rw [List.getElem?_eq_none (by omega), List.getElem?_eq_none (by simp [mkI]; omega)]
theorem mkI_at {k n j : Nat} (hj : j < n) : (mkI k n)[j]? = some (.int .i64 (k + j : Nat)) := by simp [mkI, hj]

theorem markI_round {w wr : World} {base g n cap j k : Nat} (hlt : j < n) (hg : w.grownBy wr (some g))
    (hx : ∃ xs, wr.ownsRow base 2 1 (.slice (some ⟨g, 0, none⟩) n cap) n xs ∧ ∀ t, t < j → xs[t]? = some (.int .i64 (k + t : Nat))) {a : Int} (ha : a = (k + j : Nat)) :
    ∃ u, wr.cell? ⟨g, j, none⟩ = some u ∧ wr.frozen? ⟨g, j, none⟩ = false ∧
      Hid (w.grownBy (wr.setCell ⟨g, j, none⟩ (.int .i64 a)) (some g) ∧ ∃ xs, (wr.setCell ⟨g, j, none⟩ (.int .i64 a)).ownsRow base 2 1 (.slice (some ⟨g, 0, none⟩) n cap) n xs ∧ ∀ t, t < j + 1 → xs[t]? = some (.int .i64 (k + t : Nat))) := by
  subst ha
  obtain ⟨xs, ho, hxs⟩ := hx
  have hxl := ho.1
  obtain ⟨r1, r2⟩ := ho.stored j (.int .i64 (k + j : Nat))
  refine ⟨_, (ho.cellAt j (by omega)).trans (List.getElem?_eq_getElem (by omega)), ho.frozenAt j, ?_, _, r1, fun t ht => ?_⟩
  · exact ⟨r2.os.trans hg.os, r2.tape.trans hg.tape, r2.output.trans hg.output, Nat.le_trans hg.size r2.size,
      fun b hbl hne => (r2.block b (Nat.lt_of_lt_of_le hbl hg.size) hne).trans (hg.block b hbl hne)⟩
  · by_cases e : j = t
    · subst e; rw [List.getElem?_set_self (by omega)]
    · rw [List.getElem?_set_ne e, hxs t (by omega)]

set_option maxHeartbeats 400000 in
theorem markI_any (v : Value) (n base k : Nat) (xs : List Value) (w : World) (hkn : k + n ≤ 4000000) (ho : w.ownsRow base 2 1 v n xs) :
    Calls Tryd.prog 31 #[v, .int .i64 k] w fun e w' => e = .returned (.int .i64 (k + n : Nat)) ∧ w'.ownsRow base 2 1 v n (mkI k n) ∧ w.grownBy w' v.ownBlock := by
  rcases id ho.2 with ⟨rfl, rfl⟩ | ⟨g, cap, cur, rfl, hbg, hgg, hnc, hcm, _⟩
  · go_enter Tryd.func31, Tryd.ntmps31
    go_wp2
    refine wp_loop_rounds 1 ?_
    rw [rounds_succ]
    go_wp2
    go_ret
    exact ⟨rfl, World.ownsRow_nil _ _ _ _, World.grownBy.refl _ _⟩
  · have HO : Hid (w.ownsRow base 2 1 (.slice (some ⟨g, 0, none⟩) n cap) n xs) := ho
    clear ho hbg hgg hnc hcm
    go_enter Tryd.func31, Tryd.ntmps31
    go_wp2
    go_loopw [1, 5] (fun a i wr => ∃ j : Nat, j ≤ n ∧ i = .int .i64 j ∧ a = .int .i64 (k + j : Nat) ∧ Hid (w.grownBy wr (some g)) ∧ Hid (∃ xs, wr.ownsRow base 2 1 (.slice (some ⟨g, 0, none⟩) n cap) n xs ∧ ∀ t, t < j → xs[t]? = some (.int .i64 (k + t : Nat)))) (fun _ i _ => n - (intOf i).toNat)
    case atStart => exact ⟨0, Nat.zero_le _, rfl, rfl, World.grownBy.refl _ _, xs, HO.out, fun t ht => by omega⟩
    case round =>
      obtain ⟨j, hj, rfl, rfl, HG, HX⟩ := hrel
      by_cases hlt : j < n
      · obtain ⟨u, c0, f0, HR⟩ := markI_round hlt HG.out HX.out (a := (k : Int) + (j : Int)) (by omega)
        go_wp2
        go_roundw
        case rel => exact ⟨j + 1, by omega, by go_num, by go_num, HR.out.1, HR.out.2⟩
        case measure => simp [intOf]; omega
      · go_wp2
        go_ret
        obtain ⟨ys, h1, h2⟩ := HX.out
        have hjn : j = n := by omega
        subst hjn
        refine ⟨rfl, ?_, HG.out⟩
        rw [← mkI_of h1.1 h2]
        exact h1

set_option maxHeartbeats 400000 in
theorem heldI_any (v : Value) (n base k : Nat) (w : World) (hkn : k + n ≤ 4000000) (ho : w.ownsRow base 2 1 v n (mkI k n)) :
    Calls Tryd.prog 32 #[v, .int .i64 k] w fun e w' => e = .returned (.int .i64 (k + n : Nat)) ∧ w' = w := by
  rcases id ho.2 with ⟨rfl, rfl⟩ | ⟨g, cap, cur, rfl, hbg, hgg, hnc, hcm, _⟩
  · go_enter Tryd.func32, Tryd.ntmps32
    go_wp2
    refine wp_loop_rounds 1 ?_
    rw [rounds_succ]
    go_wp2
    go_ret
    exact ⟨rfl, rfl⟩
  · have HO : Hid (w.ownsRow base 2 1 (.slice (some ⟨g, 0, none⟩) n cap) n (mkI k n)) := ho
    clear ho hbg hgg hnc hcm
    go_enter Tryd.func32, Tryd.ntmps32
    go_wp2
    go_loop [1, 5] (fun a i => ∃ j : Nat, j ≤ n ∧ i = .int .i64 j ∧ a = .int .i64 (k + j : Nat)) (fun _ i => n - (intOf i).toNat)
    case atStart => exact ⟨0, Nat.zero_le _, rfl, rfl⟩
    case round =>
      obtain ⟨j, hj, rfl, rfl⟩ := hrel
      by_cases hlt : j < n
      · have c0 : w.cell? ⟨g, j, none⟩ = some (.int .i64 ((k : Int) + (j : Int))) := (HO.out.cellAt j (by omega)).trans (by rw [mkI_at hlt]; simp)
        go_wp2
        go_round
        case rel => exact ⟨j + 1, by omega, by go_num, by go_num⟩
        case measure => simp [intOf]; omega
      · go_wp2
        go_ret
        have hjn : j = n := by omega
        subst hjn
        exact ⟨rfl, rfl⟩

/-- A list of numbers in memory of its own, blocks from 'lo' to 'hi'. -/
structure Own1 (w : World) (lo hi : Nat) (a : Option Addr) (n c : Nat) (xs : List Value) : Prop where
  t : w.ownsRow lo 2 1 (.slice a n c) n xs
  tb : ∀ b, Value.ownBlock (.slice a n c) = some b → b < hi
theorem Own1.chg {w w' : World} {lo hi n c : Nat} {a : Option Addr} {xs : List Value} (h : Own1 w lo hi a n c xs) {lo' hi' : Nat} (hc : Chg w w' lo' hi') (hd : hi ≤ lo' ∨ hi' ≤ lo) : Own1 w' lo hi a n c xs :=
  ⟨hc.row h.t (fun k hk => by have := h.tb k hk; have := (h.t.lt k hk).1; omega), h.tb⟩
theorem Own1.below {w w' : World} {lo hi n c : Nat} {a : Option Addr} {xs : List Value} (h : Own1 w lo hi a n c xs) (hb : Below w.heap.size w w') : Own1 w' lo hi a n c xs :=
  h.chg (Chg.of_below hb hi hi) (.inl (Nat.le_refl _))

end Go.Proofs.YtpcnihfnjmfbgaaDoor
