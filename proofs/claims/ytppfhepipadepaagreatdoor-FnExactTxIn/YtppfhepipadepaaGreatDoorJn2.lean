/- Rules that come in: their size is told, they are copied into new memory, two are compared. The program's iterator over a rule's keys, and those who range over it. Are all of them keys, and do they rise: the program's loops over its iterator. What keeps a rule from being one: the specification's code and the program's. The program's RuleFault. The specification's text of a rule. The specification's text of a rule, the whole. The specification's text of a transaction: blanks swapped for underscores. The specification's copy of a ledger; the program's tables handed out as a ledger. The specification's copy of a ledger: two rows of new memory. What a result with a ledger is, and what the specification's NoteText answers. Refs that come in: their size is told, they are copied, two lists are compared. Outs that come in: their size is told, they are copied, two lists are compared. Outs and transactions that come in are copied into new memory. Lists of outs that come in are copied into new memory. Transactions that come in: two are compared, their size is told, they are copied. Transactions that come in are copied into new memory. The specification's faults of refs and outs. The specification's fault of a transaction. The specification's text of a transaction, the whole. -/
import Derived.Test.YtppfhepipadepaaGreatDoorJn1
import Derived.RangeFuncFrom
import Derived.RangeFuncBox
import Derived.RangeFuncCalls
import Derived.RangeFuncLeaves
import Derived.Shelf.Abstract
import Derived.WalkKit
import Derived.OwnWalkIn
import Derived.TacticsInMore
import Derived.LoopNIn
import Derived.LoopIn
import Derived.Lib.ItoaMem
import Derived.Lib.ItoaNum
import Derived.Laws.BytesArg
import Derived.Deep.RegionWith
import Derived.Lib.ConvBytes
import Derived.Deep.RegionLaw
namespace Go.Proofs.YtppfhepipadepaaGreatDoor
open Go.RowKit Go.Maps Go.WideMaps

section
variable {w w2 W v : World} {b B : Nat} {c0 c1 c2 : Value} {t : TypeId}
theorem cells3 (h : v.heap[b]? = some (.cells #[c0, c1, c2] t (0, 0))) : v.cell? ⟨b, 0, none⟩ = some c0 ∧ v.cell? ⟨b, 1, none⟩ = some c1 ∧ v.cell? ⟨b, 2, none⟩ = some c2 :=
  ⟨by unfold World.cell?; rw [h]; rfl, by unfold World.cell?; rw [h]; rfl, by unfold World.cell?; rw [h]; rfl⟩
theorem res3 (h : w.heap[b]? = some (.cells #[c0, c1, c2] t (0, 0))) (hb : Below B w w2) (hB : b < B) :
    (w2.cell? ⟨b, 0, none⟩ = some c0 ∧ w2.cell? ⟨b, 1, none⟩ = some c1 ∧ w2.cell? ⟨b, 2, none⟩ = some c2) ∧ (w2.frozen? ⟨b, 0, none⟩ = false ∧ w2.frozen? ⟨b, 1, none⟩ = false ∧ w2.frozen? ⟨b, 2, none⟩ = false) ∧ Hid (w2.heap[b]? = some (.cells #[c0, c1, c2] t (0, 0))) := by
  have h2 := (hb.block b hB).trans h
  exact ⟨cells3 h2, ⟨Joins.unfrozen_of_block h2 0, Joins.unfrozen_of_block h2 1, Joins.unfrozen_of_block h2 2⟩, h2⟩
end

set_option maxHeartbeats 400000 in
theorem eqRu_any (a b : Option Addr) (n c1 c2 : Nat) (l : List Int) (x y : Int) (w : World) (hl : n ≤ 1048576) (ha : IAt w a n l) (hb : IAt w b n l) :
    Calls Tryz.prog 83 #[.agg #[.slice a n c1, .int .i64 x, .int .i64 y], .agg #[.slice b n c2, .int .i64 x, .int .i64 y]] w fun e w' => e = .returned (.bool true) ∧ Below w.heap.size w w' := by
  have hbx : Below w.heap.size w ((w.alloc (.cells #[.slice a n c1, .int .i64 x, .int .i64 y] 95)).alloc (.cells #[.slice b n c2, .int .i64 x, .int .i64 y] 95)) := below_box2 _ _
  have hS := eqI_any a b n c1 c2 l _ hl (ha.below hbx (Nat.le_refl _)) (hb.below hbx (Nat.le_refl _))
  have t0 := block_at2 (w := w) (o := .cells #[.slice a n c1, .int .i64 x, .int .i64 y] 95) (o' := .cells #[.slice b n c2, .int .i64 x, .int .i64 y] 95)
  have t1 := heap_alloc_at (w.alloc (.cells #[.slice a n c1, .int .i64 x, .int .i64 y] 95)) (.cells #[.slice b n c2, .int .i64 x, .int .i64 y] 95) (w.heap.size + 1) (by simp)
  have HBX : Hid (Below w.heap.size w ((w.alloc (.cells #[.slice a n c1, .int .i64 x, .int .i64 y] 95)).alloc (.cells #[.slice b n c2, .int .i64 x, .int .i64 y] 95))) := hbx
  have T0 : Hid _ := t0
  have T1 : Hid _ := t1
  clear hbx ha hb t0 t1
  go_enter Tryz.func83, Tryz.ntmps83
  go_wp2_with (first
    | (go_at_call 95; refine hS.mono ?_; rintro e w2 ⟨rfl, hb2⟩; obtain ⟨⟨p0, p1, p2⟩, _, HP⟩ := res3 T0.out hb2 (by simp; omega); obtain ⟨⟨q0, q1, q2⟩, _, HQ⟩ := res3 T1.out hb2 (by simp); have HBW : Hid (Below w.heap.size w w2) := HBX.out.trans (hb2.mono (by simp; omega)); clear hb2))
  go_ret
  exact ⟨rfl, HBW.out⟩

end Go.Proofs.YtppfhepipadepaaGreatDoor

namespace Go.Proofs.YtppfhepipadepaaGreatDoor
open Go.RowKit Go.Shelf Go.Maps Go.WideMaps
attribute [local go_sem] Oper.semAt_some

theorem take_more {α : Type} {zs : List α} {k : Nat} {x : α} (h : zs[k]? = some x) : zs.take (k + 1) = zs.take k ++ [x] := by rw [List.take_add_one, h]; rfl

set_option maxRecDepth 100000 in
set_option maxHeartbeats 2000000 in
/-- The keys come one by one, in their order; the round is asked to keep what lay ahead. -/
theorem each1_in {α : Type} (enc : α → Int) (F : Fence) (n : Nat) (hf : F.fn 164) (hro : F.round = none) (hn : 1 ≤ n) (lp Bs len cap : Nat) (a : Option Addr) (zs : List α) (w0 : World) (hlen : len ≤ 1048576) (hI : IAt w0 a len (zs.map enc)) (J Jx : List α → World → Prop)
    (hY : ∀ pre x W, J pre W → pre.length < len → YieldAt F (n - 1) Tryz.prog lp #[.int .i64 (enc x)] W fun e W' =>
      (e = .returned (.bool true) ∧ J (pre ++ [x]) W' ∧ Below w0.heap.size W W') ∨ (e = .returned (.bool false) ∧ Jx (pre ++ [x]) W'))
    (W : World) (hB : Below w0.heap.size w0 W) (hBs : W.cell? ⟨Bs, 0, none⟩ = some (.slice a len cap)) (h0 : J [] W) :
    CallsIn F n Tryz.prog 164 #[.func (.yield lp) #[] #[], .pointer (some ⟨Bs, 0, none⟩)] W fun e W' => (∃ v, e = .returned v) ∧
      ((∃ ys, ys = zs ∧ J ys W') ∨ (∃ pre, pre <+: zs ∧ Jx pre W')) := by
  have HI : Hid (IAt w0 a len (zs.map enc)) := hI
  have hzl : zs.length = len := by have := hI.1; simpa using this
  have HZ : Hid (zs.length = len) := hzl
  have HY : Hid (∀ pre x W, J pre W → pre.length < len → YieldAt F (n - 1) Tryz.prog lp #[.int .i64 (enc x)] W fun e W' =>
      (e = .returned (.bool true) ∧ J (pre ++ [x]) W' ∧ Below w0.heap.size W W') ∨ (e = .returned (.bool false) ∧ Jx (pre ++ [x]) W')) := hY
  clear hI hY hzl
  refine callsIn_of_wp Tryz.func164 rfl hf ?_ hro
  simp only [Tryz.ntmps164, List.size_toArray, List.length_cons, List.length_nil, Nat.reduceAdd, Nat.reduceSub, Array.replicate_succ, Array.replicate_zero, List.push_toArray, List.append_toArray, List.nil_append, List.cons_append]
  gi_wp2
  gi_loopw [8] (fun i wr => ∃ k : Nat, k ≤ len ∧ i = .int .i64 k ∧ J (zs.take k) wr ∧ Below w0.heap.size w0 wr)
    (fun i _ => len - (intOf i).toNat)
  case atStart => exact ⟨0, Nat.zero_le _, rfl, by simpa using h0, hB⟩
  case round =>
    obtain ⟨k, hk, rfl, hJs, hnx⟩ := hrel
    by_cases hlt : k < len
    · rcases HI.out.2 with h00 | ⟨b, off, ha, hb, hc⟩
      · omega
      subst ha
      obtain ⟨x, hx⟩ : ∃ x, zs[k]? = some x := ⟨_, List.getElem?_eq_getElem (by rw [HZ.out]; exact hlt)⟩
      have hcx : wr.cell? ⟨b, off + k, none⟩ = some (.int .i64 (enc x)) := by
        rw [(hnx.cell (p := ⟨b, off + k, none⟩) hb).trans (hc k hlt)]
        simp [List.getD, hx]
      obtain ⟨fn, tmps, assign, body, hy, hR⟩ := HY.out _ x wr hJs (by rw [List.length_take, HZ.out]; omega)
      have hki : (k : Int) < (len : Int) := by omega
      clear hc
      gi_wp2
      refine hR.mono ?_
      rintro e W3 (⟨rfl, hJ3, hk3⟩ | ⟨rfl, hJx3⟩)
      · gi_wp2
        go_roundw
        case rel => exact ⟨k + 1, by omega, by go_num, by rw [take_more hx]; exact hJ3, hnx.trans hk3⟩
        case measure => simp [intOf]; omega
      · gi_wp2
        refine bodyPost_ret (results_none rfl _ _ _) rfl ?_
        exact ⟨⟨_, rfl⟩, .inr ⟨_, by rw [← take_more hx]; exact List.take_prefix _ _, hJx3⟩⟩
    · obtain rfl : k = len := by omega
      gi_wp2
      go_end0
      exact ⟨⟨_, rfl⟩, .inl ⟨_, List.take_of_length_le (by rw [HZ.out]; exact Nat.le_refl _), hJs⟩⟩

/-- The iterator's contract. -/
theorem each_stops {α : Type} (enc : α → Int) (F : Fence) (n : Nat) (hf : F.fn 164) (hro : F.round = none) (hn : 1 ≤ n) (Bs len cap : Nat) (a : Option Addr) (zs : List α) (w0 w : World) (hlen : len ≤ 1048576) (hI : IAt w0 a len (zs.map enc)) (hB : Below w0.heap.size w0 w) (hBl : Bs < w.heap.size) (hBs : w.cell? ⟨Bs, 0, none⟩ = some (.slice a len cap)) :
    SeqStopsK F n Tryz.prog 164 #[.pointer (some ⟨Bs, 0, none⟩)] (fun x : α => #[Value.int .i64 (enc x)]) (Below w0.heap.size) (fun ys => ys = zs) (fun pre => pre <+: zs) len w := fun l J Jx W hW _ _ hY h0 =>
  each1_in enc F n hf hro hn l Bs len cap a zs w0 hlen hI J Jx hY W (hB.trans (hW.mono hB.size)) ((hW.cell (p := ⟨Bs, 0, none⟩) hBl).trans hBs) h0

theorem eachKey_any (a : Option Addr) (n cap : Nat) (x y : Int) (w : World) :
    Calls Tryz.prog 142 #[.agg #[.slice a n cap, .int .i64 x, .int .i64 y]] w fun e w' => e = .returned (.func (.func 164) #[] #[.pointer (some ⟨w.heap.size, 0, none⟩)]) ∧ w' = w.alloc (.cells #[.slice a n cap, .int .i64 x, .int .i64 y] 95) := by
  have hmf : ∀ (fn : Fn) (first cap : Array Value) (w : World), (Instr.makeFunc fn first cap).run Tryz.prog w = .ok (.func fn first cap) w := fun _ _ _ _ => rfl
  go_enter Tryz.func142, Tryz.ntmps142
  go_wp2
  go_ret
  exact ⟨rfl, rfl⟩

end Go.Proofs.YtppfhepipadepaaGreatDoor

namespace Go.Proofs.YtppfhepipadepaaGreatDoor
open Go.RowKit Go.Shelf Go.Maps Go.WideMaps
attribute [local go_sem] Oper.semAt_some

theorem new1 (W : World) (v : Value) (t : TypeId) : (W.alloc (.cells #[v] t)).cell? ⟨W.heap.size, 0, none⟩ = some v ∧ (W.alloc (.cells #[v] t)).frozen? ⟨W.heap.size, 0, none⟩ = false :=
  ⟨by unfold World.cell?; rw [heap_alloc_new]; rfl, Joins.unfrozen_of_block (heap_alloc_new _ _) 0⟩
theorem kept1 {W : World} {a : Addr} {v : Value} (o : Obj) (h : W.cell? a = some v) : (W.alloc o).cell? a = some v := cell_kept h (World.grownBy_alloc W o none) (fun r e => by cases e)
theorem kept1f {W : World} {a : Addr} {v : Value} (o : Obj) (h : W.cell? a = some v) (hf : W.frozen? a = false) : (W.alloc o).frozen? a = false := (frozen_kept h (World.grownBy_alloc W o none) (fun r e => by cases e)).trans hf

def allK (l : List Int) : Bool := l.all fun k => inB k 1 999
theorem allK_snoc {pre : List Int} {x : Int} (h : allK pre = true) (hx : inB x 1 999 = true) : allK (pre ++ [x]) = true := by simp [allK] at *; exact ⟨h, hx⟩
theorem allK_bad {pre : List Int} {x : Int} (hx : inB x 1 999 = false) : allK (pre ++ [x]) = false := by simp [allK, hx]
theorem allK_pre {pre l : List Int} (h : pre <+: l) (hb : allK pre = false) : allK l = false := by
  obtain ⟨t, rfl⟩ := h
  unfold allK at *
  rw [List.all_append, hb]; rfl

def riseB : Int → List Int → Bool
  | _, [] => true
  | p, k :: t => decide (p < k) && riseB k t
def lastK : Int → List Int → Int
  | p, [] => p
  | _, k :: t => lastK k t
theorem lastK_snoc (p : Int) (l : List Int) (x : Int) : lastK p (l ++ [x]) = x := by
  induction l generalizing p with
  | nil => rfl
  | cons k t ih => exact ih k
theorem riseB_snoc (p : Int) (l : List Int) (x : Int) : riseB p (l ++ [x]) = (riseB p l && decide (lastK p l < x)) := by
  induction l generalizing p with
  | nil => simp only [List.nil_append, riseB, lastK, Bool.and_true, Bool.true_and]; rfl
  | cons k t ih => simp only [List.cons_append, riseB, lastK, ih, Bool.and_assoc]; rfl
theorem riseB_pre {pre l : List Int} (h : pre <+: l) {p : Int} (hb : riseB p pre = false) : riseB p l = false := by
  obtain ⟨t, rfl⟩ := h
  induction pre generalizing p with
  | nil => cases hb
  | cons k r ih =>
    simp only [List.cons_append, riseB] at *
    cases hd : decide (p < k)
    · rfl
    · rw [hd, Bool.true_and] at hb
      rw [Bool.true_and]
      exact ih hb

set_option maxRecDepth 100000 in
set_option maxHeartbeats 2000000 in
theorem areKeys_any (Bs len cap : Nat) (a : Option Addr) (l : List Int) (w0 w : World) (hlen : len ≤ 1048576) (hI : IAt w0 a len l) (hB : Below w0.heap.size w0 w) (hBl : Bs < w.heap.size) (hBs : w.cell? ⟨Bs, 0, none⟩ = some (.slice a len cap)) :
    Calls Tryz.prog 150 #[.func (.func 164) #[] #[.pointer (some ⟨Bs, 0, none⟩)]] w fun e w' => e = .returned (.bool (allK l)) ∧ Below w.heap.size w w' := by
  obtain ⟨r, hr⟩ : ∃ r, r = allK l := ⟨_, rfl⟩
  rw [← hr]
  refine (callsIn_wide (n := 3)).1 ?_
  refine callsIn_of_wp_marks Tryz.func150 rfl trivial ?_ rfl
  simp only [Tryz.ntmps150, List.size_toArray, List.length_cons, List.length_nil, Nat.reduceAdd, Nat.reduceSub, Array.replicate_succ, Array.replicate_zero, List.push_toArray, List.append_toArray, List.nil_append, List.cons_append]
  gi_wp2
  have c0 := new1 w (.bool false) 4
  have hB0 : Below w.heap.size w (w.alloc (.cells #[.bool false] 4)) := below_box _
  have hsz := hB.size
  refine wpIn_rangeFunc_ownF rfl (by omega) (gf := 164) (lb := #[.pointer (some ⟨Bs, 0, none⟩)]) rfl trivial (enters_of Tryz.func164 (by kernel_rfl) rfl)
    (each_stops (fun x : Int => x) Fence.wide (3 - 1) trivial rfl (by omega) Bs len cap a l w0 _ hlen (by simpa using hI) (hB.trans (hB0.mono hsz)) (by simp; omega) ((hB0.cell (p := ⟨Bs, 0, none⟩) hBl).trans hBs)) belowK_t (belowK_b (by simp; omega)) (Below.refl _ _) (fun _ => rfl)
    (fun pre W => (allK pre = true ∧ W.cell? ⟨w.heap.size, 0, none⟩ = some (.bool false) ∧ W.frozen? ⟨w.heap.size, 0, none⟩ = false) ∧ Below w.heap.size w W)
    (fun c pre W => (c = .ret ∧ allK pre = false ∧ W.cell? ⟨w.heap.size, 0, none⟩ = some (.bool false)) ∧ Below w.heap.size w W)
    (OwnFrom.and (Own.from (fun s A B row hs hg hr => ⟨hs.1, cell_kept hs.2.1 hg hr, (frozen_kept hs.2.1 hg hr).trans hs.2.2⟩) _) (ownFrom_below (Nat.le_refl _) (by simp)))
    (fun c => OwnFrom.and (Own.from (fun s A B row hs hg hr => ⟨hs.1, hs.2.1, cell_kept hs.2.2 hg hr⟩) _) (ownFrom_below (Nat.le_refl _) (by simp)))
    ⟨⟨rfl, c0.1, c0.2⟩, hB0⟩
    (fun x => { tmps := #[.func (.func 164) #[] #[.pointer (some ⟨Bs, 0, none⟩)], undef, .pointer (some ⟨w.heap.size, 0, none⟩), .int .i64 x, .func (.func 164) #[] #[.pointer (some ⟨Bs, 0, none⟩)], .int .i64 x, undef, undef, undef], defers := [] }) ?assign ?body ?done ?stop
  case assign =>
    intro l x W K hK
    gi_wp2
    exact hK
  case body =>
    rintro l pre x W ⟨⟨hp, hcr, hfr⟩, hBB⟩ _
    obtain ⟨kb, hkb⟩ : ∃ kb, kb = inB x 1 999 := ⟨_, rfl⟩
    have hkey : ∀ v, Calls Tryz.prog 60 #[.int .i64 x] v fun e w' => e = .returned (.bool kb) ∧ w' = v := fun v => by rw [hkb]; exact isKey_any x v
    have HKB : Hid (kb = inB x 1 999) := hkb
    clear hkb
    cases kb
    · gi_wp2_with (refine ⟨trivial, ?_⟩; gi_at_call 60; refine (CallsIn.inRound l (callsIn_wide.2 (hkey _))).mono ?_; rintro e w' ⟨rfl, hw⟩; have hw2 := hw.symm; subst hw2)
      exact ⟨KeepsOthers.setCell _ _ _, ⟨rfl, allK_bad HKB.out.symm, World.cell?_setCell_same' _ _ _ (by rw [hcr]; rfl)⟩, hBB.setCell (p := ⟨w.heap.size, 0, none⟩) (Nat.le_refl _) _⟩
    · gi_wp2_with (refine ⟨trivial, ?_⟩; gi_at_call 60; refine (CallsIn.inRound l (callsIn_wide.2 (hkey _))).mono ?_; rintro e w' ⟨rfl, hw⟩; have hw2 := hw.symm; subst hw2)
      exact ⟨KeepsOthers.refl _, Below.refl _ _, ⟨allK_snoc hp HKB.out.symm, hcr, hfr⟩, hBB⟩
  case done =>
    rintro D ys W hD rfl ⟨⟨hne, hcr, hfr⟩, hBB⟩ hK
    gi_wp2
    have hK' := (KeepsOthers.setCell W ⟨w.heap.size, 0, none⟩ (.bool true)).same D _ hK rfl
    refine ⟨by simp, .inl ⟨_, _, rfl, run_takeDeferred hK', ?_⟩⟩
    have hc5 := cell_kept (World.cell?_setCell_same' W ⟨w.heap.size, 0, none⟩ (.bool true) (by rw [hcr]; rfl)) (grownBy_putObj' _ D (.deferred none)) (fun r e => by cases e; exact ⟨_, hK', rfl⟩)
    refine ⟨.bool true, ?_, by rw [hr, hne], (hBB.setCell (p := ⟨w.heap.size, 0, none⟩) (Nat.le_refl _) _).trans (belowK_b (w := w) (Nat.le_refl _) _ D _ _ (by simp at hD; omega) hK' rfl rfl)⟩
    simp [results, Tryz.results150, go_sem, hc5]
  case stop =>
    rintro D c pre W hD hpre ⟨⟨rfl, hin, hcr⟩, hBB⟩ hK
    gi_wp2
    refine ⟨by simp, .inl ⟨_, _, rfl, run_takeDeferred hK, ?_⟩⟩
    have hc5 := cell_kept hcr (grownBy_putObj' _ D (.deferred none)) (fun r e => by cases e; exact ⟨_, hK, rfl⟩)
    refine ⟨.bool false, ?_, by rw [hr, allK_pre hpre hin], hBB.trans (belowK_b (w := w) (Nat.le_refl _) W D _ _ (by simp at hD; omega) hK rfl rfl)⟩
    simp [results, Tryz.results150, go_sem, hc5]

set_option maxRecDepth 100000 in
set_option maxHeartbeats 2000000 in
theorem keysRise_any (Bs len cap : Nat) (a : Option Addr) (l : List Int) (w0 w : World) (hlen : len ≤ 1048576) (hI : IAt w0 a len l) (hB : Below w0.heap.size w0 w) (hBl : Bs < w.heap.size) (hBs : w.cell? ⟨Bs, 0, none⟩ = some (.slice a len cap)) :
    Calls Tryz.prog 152 #[.func (.func 164) #[] #[.pointer (some ⟨Bs, 0, none⟩)]] w fun e w' => e = .returned (.bool (riseB 0 l)) ∧ Below w.heap.size w w' := by
  obtain ⟨r, hr⟩ : ∃ r, r = riseB 0 l := ⟨_, rfl⟩
  rw [← hr]
  refine (callsIn_wide (n := 3)).1 ?_
  refine callsIn_of_wp_marks Tryz.func152 rfl trivial ?_ rfl
  simp only [Tryz.ntmps152, List.size_toArray, List.length_cons, List.length_nil, Nat.reduceAdd, Nat.reduceSub, Array.replicate_succ, Array.replicate_zero, List.push_toArray, List.append_toArray, List.nil_append, List.cons_append]
  gi_wp2
  have c0 := new1 w (.bool false) 4
  have c1 := new1 (w.alloc (.cells #[.bool false] 4)) (.int .i64 0) 2
  simp only [World.size_alloc] at c1
  have hB0 : Below w.heap.size w ((w.alloc (.cells #[.bool false] 4)).alloc (.cells #[.int .i64 0] 2)) := below_box2 _ _
  have hsz := hB.size
  refine wpIn_rangeFunc_ownF rfl (by omega) (gf := 164) (lb := #[.pointer (some ⟨Bs, 0, none⟩)]) rfl trivial (enters_of Tryz.func164 (by kernel_rfl) rfl)
    (each_stops (fun x : Int => x) Fence.wide (3 - 1) trivial rfl (by omega) Bs len cap a l w0 _ hlen (by simpa using hI) (hB.trans (hB0.mono hsz)) (by simp; omega) ((hB0.cell (p := ⟨Bs, 0, none⟩) hBl).trans hBs)) belowK_t (belowK_b (by simp; omega)) (Below.refl _ _) (fun _ => rfl)
    (fun pre W => (riseB 0 pre = true ∧ (W.cell? ⟨w.heap.size, 0, none⟩ = some (.bool false) ∧ W.frozen? ⟨w.heap.size, 0, none⟩ = false) ∧ W.cell? ⟨w.heap.size + 1, 0, none⟩ = some (.int .i64 (lastK 0 pre)) ∧ W.frozen? ⟨w.heap.size + 1, 0, none⟩ = false) ∧ Below w.heap.size w W)
    (fun c pre W => (c = .ret ∧ riseB 0 pre = false ∧ W.cell? ⟨w.heap.size, 0, none⟩ = some (.bool false)) ∧ Below w.heap.size w W)
    (OwnFrom.and (Own.from (fun s A B row hs hg hr => ⟨hs.1, ⟨cell_kept hs.2.1.1 hg hr, (frozen_kept hs.2.1.1 hg hr).trans hs.2.1.2⟩, cell_kept hs.2.2.1 hg hr, (frozen_kept hs.2.2.1 hg hr).trans hs.2.2.2⟩) _) (ownFrom_below (Nat.le_refl _) (by simp; omega)))
    (fun c => OwnFrom.and (Own.from (fun s A B row hs hg hr => ⟨hs.1, hs.2.1, cell_kept hs.2.2 hg hr⟩) _) (ownFrom_below (Nat.le_refl _) (by simp; omega)))
    ⟨⟨rfl, ⟨kept1 _ c0.1, kept1f _ c0.1 c0.2⟩, c1.1, c1.2⟩, hB0⟩
    (fun x => { tmps := #[.func (.func 164) #[] #[.pointer (some ⟨Bs, 0, none⟩)], undef, .pointer (some ⟨w.heap.size, 0, none⟩), .pointer (some ⟨w.heap.size + 1, 0, none⟩), .int .i64 x, .func (.func 164) #[] #[.pointer (some ⟨Bs, 0, none⟩)], .int .i64 x, undef, undef, undef, undef], defers := [] }) ?assign ?body ?done ?stop
  case assign =>
    intro l x W K hK
    gi_wp2
    exact hK
  case body =>
    rintro l pre x W ⟨⟨hp, ⟨hcr, hfr⟩, hcl, hfl⟩, hBB⟩ _
    obtain ⟨q, hq⟩ : ∃ q, q = lastK 0 pre := ⟨_, rfl⟩
    rw [← hq] at hcl
    by_cases hx : x ≤ q
    · gi_wp2
      exact ⟨KeepsOthers.setCell _ _ _, ⟨rfl, by rw [riseB_snoc, ← hq, decide_eq_false (by omega), Bool.and_false], World.cell?_setCell_same' _ _ _ (by rw [hcr]; rfl)⟩, hBB.setCell (p := ⟨w.heap.size, 0, none⟩) (Nat.le_refl _) _⟩
    · gi_wp2
      exact ⟨KeepsOthers.setCell _ _ _, (Below.refl _ _).setCell (p := ⟨w.heap.size + 1, 0, none⟩) (show _ ≤ w.heap.size + 1 by omega) _, ⟨by rw [riseB_snoc, ← hq, hp, decide_eq_true (by omega)]; rfl, ⟨(World.cell?_of_block (Below.heap_setCell _ ⟨w.heap.size + 1, 0, none⟩ _ w.heap.size (show w.heap.size ≠ w.heap.size + 1 by omega))).trans hcr, by rw [World.frozen?_setCell]; exact hfr⟩, by rw [lastK_snoc]; exact World.cell?_setCell_same' _ _ _ (by rw [hcl]; rfl), by rw [World.frozen?_setCell]; exact hfl⟩, hBB.setCell (p := ⟨w.heap.size + 1, 0, none⟩) (show _ ≤ w.heap.size + 1 by omega) _⟩
  case done =>
    rintro D ys W hD rfl ⟨⟨hne, ⟨hcr, hfr⟩, _⟩, hBB⟩ hK
    gi_wp2
    have hK' := (KeepsOthers.setCell W ⟨w.heap.size, 0, none⟩ (.bool true)).same D _ hK rfl
    refine ⟨by simp, .inl ⟨_, _, rfl, run_takeDeferred hK', ?_⟩⟩
    have hc5 := cell_kept (World.cell?_setCell_same' W ⟨w.heap.size, 0, none⟩ (.bool true) (by rw [hcr]; rfl)) (grownBy_putObj' _ D (.deferred none)) (fun r e => by cases e; exact ⟨_, hK', rfl⟩)
    refine ⟨.bool true, ?_, by rw [hr, hne], (hBB.setCell (p := ⟨w.heap.size, 0, none⟩) (Nat.le_refl _) _).trans (belowK_b (w := w) (Nat.le_refl _) _ D _ _ (by simp at hD; omega) hK' rfl rfl)⟩
    simp [results, Tryz.results152, go_sem, hc5]
  case stop =>
    rintro D c pre W hD hpre ⟨⟨rfl, hin, hcr⟩, hBB⟩ hK
    gi_wp2
    refine ⟨by simp, .inl ⟨_, _, rfl, run_takeDeferred hK, ?_⟩⟩
    have hc5 := cell_kept hcr (grownBy_putObj' _ D (.deferred none)) (fun r e => by cases e; exact ⟨_, hK, rfl⟩)
    refine ⟨.bool false, ?_, by rw [hr, riseB_pre hpre hin], hBB.trans (belowK_b (w := w) (Nat.le_refl _) W D _ _ (by simp at hD; omega) hK rfl rfl)⟩
    simp [results, Tryz.results152, go_sem, hc5]

end Go.Proofs.YtppfhepipadepaaGreatDoor

namespace Go.Proofs.YtppfhepipadepaaGreatDoor
open Go.RowKit Go.Shelf Go.Maps Go.WideMaps

def ruleR (l : List Int) (x y : Int) : Int :=
  if inB l.length 1 3 = false then 2 else if allK l = false ∨ inB x 1 l.length = false ∨ inB y 0 999 = false then 3 else if riseB 0 l = false then 1 else 0

section
variable {l : List Int} {x y : Int} {n : Nat}
theorem ruleR_many (hn : l.length = n) (h : inB n 1 3 = false) : ruleR l x y = 2 := by unfold ruleR; rw [hn, if_pos h]
theorem ruleR_range (hn : l.length = n) (h : inB n 1 3 = true) (h2 : allK l = false ∨ inB x 1 n = false ∨ inB y 0 999 = false) : ruleR l x y = 3 := by unfold ruleR; rw [hn, if_neg (by simp [h]), if_pos h2]
theorem ruleR_form (hn : l.length = n) (h : inB n 1 3 = true) (h1 : allK l = true) (h2 : inB x 1 n = true) (h3 : inB y 0 999 = true) (h4 : riseB 0 l = false) : ruleR l x y = 1 := by unfold ruleR; rw [hn, if_neg (by simp [h]), if_neg (by simp [h1, h2, h3]), if_pos h4]
theorem ruleR_ok (hn : l.length = n) (h : inB n 1 3 = true) (h1 : allK l = true) (h2 : inB x 1 n = true) (h3 : inB y 0 999 = true) (h4 : riseB 0 l = true) : ruleR l x y = 0 := by unfold ruleR; rw [hn, if_neg (by simp [h]), if_neg (by simp [h1, h2, h3]), if_neg (by simp [h4])]
end

theorem take_next {l : List Int} {n k : Nat} (hn : l.length = n) (hlt : k < n) {s : Int} (hs : s = l.getD k 0) : l.take (k + 1) = l.take k ++ [s] :=
  take_more (by rw [hs]; simp [List.getD, show k < l.length by omega])
theorem take_all {l : List Int} {n k : Nat} (hn : l.length = n) (h : ¬ k < n) : l.take k = l := List.take_of_length_le (by omega)
theorem lastK_take {l : List Int} {n k : Nat} (hn : l.length = n) (hk : k < n) {s : Int} (hs : s = l.getD k 0) : lastK 0 (l.take (k + 1)) = s := by rw [take_next hn hk hs, lastK_snoc]
theorem riseB_one {l : List Int} {n : Nat} (hn : l.length = n) (h : inB n 1 3 = true) (ha : allK l = true) : riseB 0 (l.take 1) = true := by
  have := inB_true.1 h
  match l, hn with
  | [], hn => simp at hn; omega
  | k :: t, _ =>
    simp [allK] at ha
    have := inB_true.1 ha.1
    simp [riseB]
    omega

theorem l2Height_any (v : Int) (w : World) : Calls Tryz.prog 84 #[.int .i64 v] w fun e w' => e = .returned (.bool (inB v 0 999)) ∧ w' = w := by
  go_enter Tryz.func84, Tryz.ntmps84
  go_wp2_with (go_at_call 47; refine (l1In_any _ _ _ _).mono ?_; rintro e w' ⟨rfl, hw⟩; have hw2 := hw.symm; subst hw2)
  go_ret
  exact ⟨rfl, rfl⟩
theorem isHeight_any (v : Int) (w : World) : Calls Tryz.prog 151 #[.int .i64 v] w fun e w' => e = .returned (.bool (inB v 0 999)) ∧ w' = w := by
  go_enter Tryz.func151, Tryz.ntmps151
  go_wp2_with (go_at_call 61; refine (isWithin_any _ _ _ _).mono ?_; rintro e w' ⟨rfl, hw⟩; have hw2 := hw.symm; subst hw2)
  go_ret
  exact ⟨rfl, rfl⟩

set_option maxRecDepth 20000 in
set_option maxHeartbeats 2000000 in
theorem l2Fault_any (P n cap : Nat) (a : Option Addr) (l : List Int) (x y : Int) (w : World) (hl : n ≤ 1048576) (hI : IAt w a n l) (hP : w.heap[P]? = some (.cells #[.slice a n cap, .int .i64 x, .int .i64 y] 95 (0, 0))) :
    Calls Tryz.prog 71 #[.pointer (some ⟨P, 0, none⟩)] w fun e w' => e = .returned (.int .i64 (ruleR l x y)) ∧ Below w.heap.size w w' := by
  have HI : Hid (IAt w a n l) := hI
  have HN : Hid (l.length = n) := hI.1
  obtain ⟨p0, p1, p2⟩ := cells3 hP
  have hPl := lt_of_block hP
  obtain ⟨b1, hb1⟩ : ∃ b, b = inB n 1 3 := ⟨_, rfl⟩
  obtain ⟨kb, hkb⟩ : ∃ b, b = inB x 1 n := ⟨_, rfl⟩
  obtain ⟨kc, hkc⟩ : ∃ b, b = inB y 0 999 := ⟨_, rfl⟩
  have hW1 : ∀ v, Calls Tryz.prog 47 #[.int .i64 n, .int .i64 1, .int .i64 3] v fun e w' => e = .returned (.bool b1) ∧ w' = v := fun v => by rw [hb1]; exact l1In_any _ _ _ v
  have hW2 : ∀ v, Calls Tryz.prog 47 #[.int .i64 x, .int .i64 1, .int .i64 n] v fun e w' => e = .returned (.bool kb) ∧ w' = v := fun v => by rw [hkb]; exact l1In_any _ _ _ v
  have hW3 : ∀ v, Calls Tryz.prog 84 #[.int .i64 y] v fun e w' => e = .returned (.bool kc) ∧ w' = v := fun v => by rw [hkc]; exact l2Height_any _ v
  have HB1 : Hid (b1 = inB n 1 3) := hb1
  have HKB : Hid (kb = inB x 1 n) := hkb
  have HKC : Hid (kc = inB y 0 999) := hkc
  obtain ⟨r, hr⟩ : ∃ r, r = ruleR l x y := ⟨_, rfl⟩
  rw [← hr]
  have HR : Hid (r = ruleR l x y) := hr
  clear hI hP hb1 hkb hkc hr
  cases b1
  · obtain rfl : r = 2 := by rw [HR.out]; exact ruleR_many HN.out HB1.out.symm
    go_enter Tryz.func71, Tryz.ntmps71
    go_wp2_with (go_at_call 47; refine (hW1 _).mono ?_; rintro e w' ⟨rfl, hw⟩; have hw2 := hw.symm; subst hw2)
    go_ret
    exact ⟨rfl, Below.refl _ _⟩
  · go_enter Tryz.func71, Tryz.ntmps71
    go_wp2_with (go_at_call 47; refine (hW1 _).mono ?_; rintro e w' ⟨rfl, hw⟩; have hw2 := hw.symm; subst hw2)
    go_loop [4] (fun i => ∃ k : Nat, k ≤ n ∧ i = .int .i64 k ∧ Hid (allK (l.take k) = true)) (fun i => n - (intOf i).toNat)
    case atStart => exact ⟨0, Nat.zero_le _, rfl, by show _ = _; simp [allK]⟩
    case round =>
      obtain ⟨k, hk, rfl, HT⟩ := hrel
      by_cases hlt : k < n
      · rcases HI.out.2 with h0 | ⟨b0, o0, e0, l0, d0⟩
        · omega
        subst e0
        obtain ⟨s, hs⟩ : ∃ s, s = l.getD k 0 := ⟨_, rfl⟩
        have x0 := d0 k hlt
        rw [← hs] at x0
        have HS : Hid (s = l.getD k 0) := hs
        obtain ⟨ks, hks⟩ : ∃ b, b = inB s 1 999 := ⟨_, rfl⟩
        have hkey : ∀ v, Calls Tryz.prog 46 #[.int .i64 s] v fun e w' => e = .returned (.bool ks) ∧ w' = v := fun v => by rw [hks]; exact l1Key_any s v
        have HKS : Hid (ks = inB s 1 999) := hks
        clear hs d0 hks
        have hki : (k : Int) < (n : Int) := by omega
        cases ks
        · obtain rfl : r = 3 := by
            rw [HR.out]
            refine ruleR_range HN.out HB1.out.symm (.inl (allK_pre (pre := l.take (k + 1)) (List.take_prefix _ _) ?_))
            rw [take_next HN.out hlt HS.out]; exact allK_bad HKS.out.symm
          go_wp2_with (go_at_call 46; refine (hkey _).mono ?_; rintro e w' ⟨rfl, hw⟩; have hw2 := hw.symm; subst hw2)
          go_ret
          exact ⟨rfl, Below.refl _ _⟩
        · go_wp2_with (go_at_call 46; refine (hkey _).mono ?_; rintro e w' ⟨rfl, hw⟩; have hw2 := hw.symm; subst hw2)
          go_round
          case rel => exact ⟨k + 1, by omega, by go_num, by show _ = _; rw [take_next HN.out hlt HS.out]; exact allK_snoc HT.out HKS.out.symm⟩
          case measure => simp [intOf]; omega
      · have HALL : Hid (allK l = true) := by have := HT.out; rw [take_all HN.out hlt] at this; exact this
        clear HT
        cases kb
        · obtain rfl : r = 3 := by rw [HR.out]; exact ruleR_range HN.out HB1.out.symm (.inr (.inl HKB.out.symm))
          go_wp2_with (go_at_call 47; refine (hW2 _).mono ?_; rintro e w' ⟨rfl, hw⟩; have hw2 := hw.symm; subst hw2)
          go_ret
          exact ⟨rfl, Below.refl _ _⟩
        · cases kc
          · obtain rfl : r = 3 := by rw [HR.out]; exact ruleR_range HN.out HB1.out.symm (.inr (.inr HKC.out.symm))
            go_wp2_with (first | (go_at_call 47; refine (hW2 _).mono ?_; rintro e w' ⟨rfl, hw⟩; have hw2 := hw.symm; subst hw2) | (go_at_call 84; refine (hW3 _).mono ?_; rintro e w' ⟨rfl, hw⟩; have hw2 := hw.symm; subst hw2))
            go_ret
            exact ⟨rfl, Below.refl _ _⟩
          · go_wp2_with (first | (go_at_call 47; refine (hW2 _).mono ?_; rintro e w' ⟨rfl, hw⟩; have hw2 := hw.symm; subst hw2) | (go_at_call 84; refine (hW3 _).mono ?_; rintro e w' ⟨rfl, hw⟩; have hw2 := hw.symm; subst hw2))
            go_loopw [5] (fun i wr => ∃ j : Nat, j + 1 ≤ n ∧ i = .int .i64 ((j : Int) + 1) ∧ Hid (riseB 0 (l.take (j + 1)) = true) ∧ Below w.heap.size w wr) (fun i _ => n - (intOf i).toNat)
            case atStart => exact ⟨0, by have := inB_true.1 HB1.out.symm; omega, by go_num, riseB_one HN.out HB1.out.symm HALL.out, Below.refl _ _⟩
            case round =>
              obtain ⟨j, hj, rfl, HT, hbel⟩ := hrel
              by_cases hlt2 : j + 1 < n
              · rcases HI.out.2 with h0 | ⟨b0, o0, e0, l0, d0⟩
                · omega
                subst e0
                obtain ⟨s, hs⟩ : ∃ s, s = l.getD (j + 1) 0 := ⟨_, rfl⟩
                obtain ⟨t, ht⟩ : ∃ t, t = l.getD j 0 := ⟨_, rfl⟩
                have x0 := (hbel.cell (p := ⟨b0, o0 + (j + 1), none⟩) l0).trans (d0 (j + 1) hlt2)
                have x1 := (hbel.cell (p := ⟨b0, o0 + j, none⟩) l0).trans (d0 j (by omega))
                rw [← hs] at x0
                rw [← ht] at x1
                have HS : Hid (s = l.getD (j + 1) 0) := hs
                have HTT : Hid (t = l.getD j 0) := ht
                clear hs ht d0
                have y0 := (hbel.cell (p := ⟨P, 0, none⟩) hPl).trans p0
                have hki : (j : Int) + 1 < (n : Int) := by omega
                have hkj : (j : Int) < (n : Int) := by omega
                by_cases hst : s ≤ t
                · obtain rfl : r = 1 := by
                    rw [HR.out]
                    refine ruleR_form HN.out HB1.out.symm HALL.out HKB.out.symm HKC.out.symm (riseB_pre (pre := l.take (j + 1 + 1)) (List.take_prefix _ _) ?_)
                    rw [take_next HN.out hlt2 HS.out, riseB_snoc, lastK_take HN.out (by omega) HTT.out, decide_eq_false (by omega), Bool.and_false]
                  go_wp2
                  go_quiet (fail)
                  go_wp2
                  go_ret
                  exact ⟨rfl, hbel.trans (Joins.below_draws _ _ _)⟩
                · go_wp2
                  go_quiet (fail)
                  go_wp2
                  go_roundw
                  case rel => exact ⟨j + 1, by omega, by go_num, by show _ = _; rw [take_next HN.out hlt2 HS.out, riseB_snoc, lastK_take HN.out (by omega) HTT.out, HT.out, decide_eq_true (by omega)]; rfl, hbel.trans (Joins.below_draws _ _ _)⟩
                  case measure => simp [intOf]; omega
              · have y0 := (hbel.cell (p := ⟨P, 0, none⟩) hPl).trans p0
                obtain rfl : r = 0 := by
                  have := HT.out
                  rw [take_all HN.out hlt2] at this
                  rw [HR.out]; exact ruleR_ok HN.out HB1.out.symm HALL.out HKB.out.symm HKC.out.symm this
                have hki : ¬ (j : Int) + 1 < (n : Int) := by omega
                go_wp2
                go_ret
                exact ⟨rfl, hbel⟩

end Go.Proofs.YtppfhepipadepaaGreatDoor

namespace Go.Proofs.YtppfhepipadepaaGreatDoor
open Go.RowKit Go.Shelf Go.Maps Go.WideMaps

/-- A rule in a block of its own, all old memory below as it was. -/
structure RBx (w v : World) (a : Option Addr) (n cap : Nat) (x y : Int) (t : TypeId) : Prop where
  box : v.heap[w.heap.size]? = some (.cells #[.slice a n cap, .int .i64 x, .int .i64 y] t (0, 0))
  bel : Below w.heap.size w v
section
variable {w v v' : World} {a : Option Addr} {n cap : Nat} {x y : Int} {t : TypeId} {l : List Int}
theorem RBx.start : RBx w (w.alloc (.cells #[.slice a n cap, .int .i64 x, .int .i64 y] t)) a n cap x y t := ⟨heap_alloc_new _ _, below_box _⟩
theorem RBx.step (h : RBx w v a n cap x y t) (hb : Below v.heap.size v v') : RBx w v' a n cap x y t := ⟨(keepb h.box hb).out, h.bel.trans (hb.mono h.bel.size)⟩
theorem RBx.lt (h : RBx w v a n cap x y t) : w.heap.size < v.heap.size := lt_of_block h.box
end

/-- The iterator over the rule's keys, and what ranges over it, whatever world it is. -/
theorem keys_go {w v : World} {a : Option Addr} {n cap : Nat} {x y : Int} {l : List Int} (h : RBx w v a n cap x y 95) (hl : n ≤ 1048576) (hI : IAt w a n l) :
    Hid (Calls Tryz.prog 150 #[.func (.func 164) #[] #[.pointer (some ⟨v.heap.size, 0, none⟩)]] (v.alloc (.cells #[.slice a n cap, .int .i64 x, .int .i64 y] 95)) fun e w' => e = .returned (.bool (allK l)) ∧ Hid (RBx w w' a n cap x y 95)) ∧
    Hid (Calls Tryz.prog 152 #[.func (.func 164) #[] #[.pointer (some ⟨v.heap.size, 0, none⟩)]] (v.alloc (.cells #[.slice a n cap, .int .i64 x, .int .i64 y] 95)) fun e w' => e = .returned (.bool (riseB 0 l)) ∧ Hid (RBx w w' a n cap x y 95)) := by
  have hb : Below v.heap.size v (v.alloc (.cells #[.slice a n cap, .int .i64 x, .int .i64 y] 95)) := below_box _
  have h2 := h.step hb
  have hc := (cells3 (heap_alloc_new v (.cells #[.slice a n cap, .int .i64 x, .int .i64 y] 95))).1
  exact ⟨(areKeys_any v.heap.size n cap a l w _ hl hI h2.bel (by simp) hc).mono fun e w' ⟨e1, e2⟩ => ⟨e1, h2.step e2⟩, (keysRise_any v.heap.size n cap a l w _ hl hI h2.bel (by simp) hc).mono fun e w' ⟨e1, e2⟩ => ⟨e1, h2.step e2⟩⟩

set_option maxRecDepth 20000 in
set_option maxHeartbeats 2000000 in
theorem iRuleFault_any (n cap : Nat) (a : Option Addr) (l : List Int) (x y : Int) (w : World) (hl : n ≤ 1048576) (hI : IAt w a n l) :
    Calls Tryz.prog 130 #[.agg #[.slice a n cap, .int .i64 x, .int .i64 y]] w fun e w' => e = .returned (.int .i64 (ruleR l x y)) ∧ Below w.heap.size w w' := by
  have HI : Hid (IAt w a n l) := hI
  have HN : Hid (l.length = n) := hI.1
  have B0 : RBx w (w.alloc (.cells #[.slice a n cap, .int .i64 x, .int .i64 y] 95)) a n cap x y 95 := RBx.start
  obtain ⟨HG, _⟩ := keys_go B0 hl hI
  have HB0 : Hid (Below w.heap.size w (w.alloc (.cells #[.slice a n cap, .int .i64 x, .int .i64 y] 95))) := B0.bel
  obtain ⟨b1, hb1⟩ : ∃ b, b = inB n 1 3 := ⟨_, rfl⟩
  obtain ⟨ka, hka⟩ : ∃ b, b = allK l := ⟨_, rfl⟩
  obtain ⟨kr, hkr⟩ : ∃ b, b = riseB 0 l := ⟨_, rfl⟩
  obtain ⟨kb, hkb⟩ : ∃ b, b = inB x 1 n := ⟨_, rfl⟩
  obtain ⟨kc, hkc⟩ : ∃ b, b = inB y 0 999 := ⟨_, rfl⟩
  have hW1 : ∀ v, Calls Tryz.prog 61 #[.int .i64 n, .int .i64 1, .int .i64 3] v fun e w' => e = .returned (.bool b1) ∧ w' = v := fun v => by rw [hb1]; exact isWithin_any _ _ _ v
  have hW2 : ∀ v, Calls Tryz.prog 61 #[.int .i64 x, .int .i64 1, .int .i64 n] v fun e w' => e = .returned (.bool kb) ∧ w' = v := fun v => by rw [hkb]; exact isWithin_any _ _ _ v
  have hW3 : ∀ v, Calls Tryz.prog 151 #[.int .i64 y] v fun e w' => e = .returned (.bool kc) ∧ w' = v := fun v => by rw [hkc]; exact isHeight_any _ v
  have hak := HG.out
  rw [World.size_alloc, ← hka] at hak
  have hrise : ∀ v, RBx w v a n cap x y 95 → Hid (Calls Tryz.prog 152 #[.func (.func 164) #[] #[.pointer (some ⟨v.heap.size, 0, none⟩)]] (v.alloc (.cells #[.slice a n cap, .int .i64 x, .int .i64 y] 95)) fun e w' => e = .returned (.bool kr) ∧ Hid (RBx w w' a n cap x y 95)) := fun v hv => by rw [hkr]; exact (keys_go hv hl HI.out).2
  have HRS : Hid (∀ v, RBx w v a n cap x y 95 → Hid (Calls Tryz.prog 152 #[.func (.func 164) #[] #[.pointer (some ⟨v.heap.size, 0, none⟩)]] (v.alloc (.cells #[.slice a n cap, .int .i64 x, .int .i64 y] 95)) fun e w' => e = .returned (.bool kr) ∧ Hid (RBx w w' a n cap x y 95))) := hrise
  have HB1 : Hid (b1 = inB n 1 3) := hb1
  have HKA : Hid (ka = allK l) := hka
  have HKR : Hid (kr = riseB 0 l) := hkr
  have HKB : Hid (kb = inB x 1 n) := hkb
  have HKC : Hid (kc = inB y 0 999) := hkc
  obtain ⟨r, hr⟩ : ∃ r, r = ruleR l x y := ⟨_, rfl⟩
  rw [← hr]
  have HR : Hid (r = ruleR l x y) := hr
  clear hI hb1 hka hkr hkb hkc hr hrise HG B0
  cases b1
  · obtain rfl : r = 2 := by rw [HR.out]; exact ruleR_many HN.out HB1.out.symm
    go_enter Tryz.func130, Tryz.ntmps130
    go_wp2_with (go_at_call 61; refine (hW1 _).mono ?_; rintro e w' ⟨rfl, hw⟩; have hw2 := hw.symm; subst hw2)
    go_ret
    exact ⟨rfl, HB0.out⟩
  cases ka
  · obtain rfl : r = 3 := by rw [HR.out]; exact ruleR_range HN.out HB1.out.symm (.inl HKA.out.symm)
    go_enter Tryz.func130, Tryz.ntmps130
    go_wp2_with (first
      | (go_at_call 61; refine (hW1 _).mono ?_; rintro e w' ⟨rfl, hw⟩; have hw2 := hw.symm; subst hw2)
      | (go_at_call 142; refine (eachKey_any _ _ _ _ _ _).mono ?_; rintro e w' ⟨rfl, hw⟩; subst hw)
      | (go_at_call 150; refine hak.mono ?_; rintro e w2 ⟨rfl, HB2⟩; obtain ⟨p0, p1, p2⟩ := cells3 HB2.out.box))
    go_ret
    exact ⟨rfl, HB2.out.bel⟩
  cases kb
  · obtain rfl : r = 3 := by rw [HR.out]; exact ruleR_range HN.out HB1.out.symm (.inr (.inl HKB.out.symm))
    go_enter Tryz.func130, Tryz.ntmps130
    go_wp2_with (first
      | (go_at_call 61; (first | (refine (hW1 _).mono ?_; clear hW1) | refine (hW2 _).mono ?_); rintro e w' ⟨rfl, hw⟩; have hw2 := hw.symm; subst hw2)
      | (go_at_call 142; refine (eachKey_any _ _ _ _ _ _).mono ?_; rintro e w' ⟨rfl, hw⟩; subst hw)
      | (go_at_call 150; refine hak.mono ?_; rintro e w2 ⟨rfl, HB2⟩; obtain ⟨p0, p1, p2⟩ := cells3 HB2.out.box))
    go_ret
    exact ⟨rfl, HB2.out.bel⟩
  cases kc
  · obtain rfl : r = 3 := by rw [HR.out]; exact ruleR_range HN.out HB1.out.symm (.inr (.inr HKC.out.symm))
    go_enter Tryz.func130, Tryz.ntmps130
    go_wp2_with (first
      | (go_at_call 61; (first | (refine (hW1 _).mono ?_; clear hW1) | refine (hW2 _).mono ?_); rintro e w' ⟨rfl, hw⟩; have hw2 := hw.symm; subst hw2)
      | (go_at_call 142; refine (eachKey_any _ _ _ _ _ _).mono ?_; rintro e w' ⟨rfl, hw⟩; subst hw)
      | (go_at_call 151; refine (hW3 _).mono ?_; rintro e w' ⟨rfl, hw⟩; have hw2 := hw.symm; subst hw2)
      | (go_at_call 150; refine hak.mono ?_; rintro e w2 ⟨rfl, HB2⟩; obtain ⟨p0, p1, p2⟩ := cells3 HB2.out.box))
    go_ret
    exact ⟨rfl, HB2.out.bel⟩
  cases kr
  · obtain rfl : r = 1 := by rw [HR.out]; exact ruleR_form HN.out HB1.out.symm HKA.out.symm HKB.out.symm HKC.out.symm HKR.out.symm
    go_enter Tryz.func130, Tryz.ntmps130
    go_wp2_with (first
      | (go_at_call 61; (first | (refine (hW1 _).mono ?_; clear hW1) | refine (hW2 _).mono ?_); rintro e w' ⟨rfl, hw⟩; have hw2 := hw.symm; subst hw2)
      | (go_at_call 142; refine (eachKey_any _ _ _ _ _ _).mono ?_; rintro e w' ⟨rfl, hw⟩; subst hw)
      | (go_at_call 151; refine (hW3 _).mono ?_; rintro e w' ⟨rfl, hw⟩; have hw2 := hw.symm; subst hw2)
      | (go_at_call 150; refine hak.mono ?_; rintro e w2 ⟨rfl, HB2⟩; obtain ⟨p0, p1, p2⟩ := cells3 HB2.out.box; have hri := HRS.out _ HB2.out)
      | (go_at_call 152; refine hri.out.mono ?_; rintro e w4 ⟨rfl, HB4⟩))
    go_ret
    exact ⟨rfl, HB4.out.bel⟩
  · obtain rfl : r = 0 := by rw [HR.out]; exact ruleR_ok HN.out HB1.out.symm HKA.out.symm HKB.out.symm HKC.out.symm HKR.out.symm
    go_enter Tryz.func130, Tryz.ntmps130
    go_wp2_with (first
      | (go_at_call 61; (first | (refine (hW1 _).mono ?_; clear hW1) | refine (hW2 _).mono ?_); rintro e w' ⟨rfl, hw⟩; have hw2 := hw.symm; subst hw2)
      | (go_at_call 142; refine (eachKey_any _ _ _ _ _ _).mono ?_; rintro e w' ⟨rfl, hw⟩; subst hw)
      | (go_at_call 151; refine (hW3 _).mono ?_; rintro e w' ⟨rfl, hw⟩; have hw2 := hw.symm; subst hw2)
      | (go_at_call 150; refine hak.mono ?_; rintro e w2 ⟨rfl, HB2⟩; obtain ⟨p0, p1, p2⟩ := cells3 HB2.out.box; have hri := HRS.out _ HB2.out)
      | (go_at_call 152; refine hri.out.mono ?_; rintro e w4 ⟨rfl, HB4⟩))
    go_ret
    exact ⟨rfl, HB4.out.bel⟩

end Go.Proofs.YtppfhepipadepaaGreatDoor

namespace Go.Proofs.YtppfhepipadepaaGreatDoor
open Go.RowKit Go.Shelf Go.Maps Go.WideMaps

def str (l : List UInt8) : ByteArray := ⟨l.toArray⟩

/-- A text of one byte, out of a slice of one. -/
theorem conv1 (c : Int) (W : World) (b cap : Nat) (h : W.cell? ⟨b, 0, none⟩ = some (.int .u8 c)) : (convert 117 9 (.slice (some ⟨b, 0, none⟩) 1 cap)).run Tryz.prog W = .ok (.string (str [UInt8.ofNat c.toNat])) W := by
  have := run_convert_bytes_arg W 117 5 Tryz.underlying117 Tryz.underlying5 b 0 1 cap [c] rfl (fun i hi => by
    obtain rfl : i = 0 := by omega
    simpa using h) 9 Tryz.underlying9
  rw [this]
  rfl
theorem conv1_new (c : Int) (W : World) (t : TypeId) (cap : Nat) : (convert 117 9 (.slice (some ⟨W.heap.size, 0, none⟩) 1 cap)).run Tryz.prog (W.alloc (.cells #[.int .u8 c] t)) = .ok (.string (str [UInt8.ofNat c.toNat])) (W.alloc (.cells #[.int .u8 c] t)) :=
  conv1 c _ _ cap (new1 W (.int .u8 c) t).1

theorem byte_kept {w w2 : World} {c : Int} {t : TypeId} (hb : Below (w.alloc (.cells #[.int .u8 c] t)).drew.heap.size (w.alloc (.cells #[.int .u8 c] t)).drew w2) : w2.cell? ⟨w.heap.size, 0, none⟩ = some (.int .u8 c) :=
  (hb.cell (p := ⟨w.heap.size, 0, none⟩) (by simp)).trans (new1 w (.int .u8 c) t).1

theorem str_append (a b : List UInt8) : str a ++ str b = str (a ++ b) := by
  apply ByteArray.ext
  simp [str]
theorem digits_len (q : Nat) (h : q ≤ 1000000000) : (Lib.decDigits q).length ≤ 10 := by
  have key : ∀ k q : Nat, q < 10 ^ k → 1 ≤ k → (Lib.decDigits q).length ≤ k := by
    intro k
    induction k with
    | zero => intro q _ h; omega
    | succ k ih =>
      intro q hq _
      rw [Lib.decDigits]
      split
      · simp
      · rw [List.length_append]
        have hk : 1 ≤ k := by
          rcases Nat.eq_zero_or_pos k with rfl | h
          · simp at hq; omega
          · exact h
        have := ih (q / 10) (by rw [Nat.pow_succ] at hq; omega) hk
        simp; omega
  exact key 10 q (by omega) (by omega)

set_option maxRecDepth 20000 in
set_option maxHeartbeats 1000000 in
theorem l2Digits_any (n : Nat) (hn : n ≤ 1000000000) : ∀ (w : World), Calls Tryz.prog 75 #[.int .i64 n] w fun e w' => e = .returned (.string (str (Lib.decDigits n))) ∧ Below w.heap.size w w' := by
  induction n using Nat.strongRecOn with
  | ind n ih =>
    intro w
    by_cases h : n < 10
    · rw [Lib.decDigits_one h]
      have hcv := conv1_new (48 + n) w 5 1
      have he : UInt8.ofNat (48 + (n : Int)).toNat = UInt8.ofNat (48 + n) := by congr 1
      rw [he] at hcv
      obtain ⟨ch, hch⟩ : ∃ c, c = UInt8.ofNat (48 + n) := ⟨_, rfl⟩
      rw [← hch] at hcv ⊢
      clear ih he hch
      go_enter Tryz.func75, Tryz.ntmps75
      go_wp2
      go_ret
      exact ⟨rfl, below_box _⟩
    · have ih' := ih (n / 10) (by omega) (by omega)
      have hd : Lib.decDigits n = Lib.decDigits (n / 10) ++ [UInt8.ofNat (48 + n % 10)] := by rw [Lib.decDigits, dif_neg h]
      obtain ⟨d, hdd⟩ : ∃ d, d = n % 10 := ⟨_, rfl⟩
      obtain ⟨q, hq⟩ : ∃ q, q = n / 10 := ⟨_, rfl⟩
      rw [hd, ← hq, ← hdd]
      rw [← hq] at ih'
      have a0 : IntKind.i64.wrap ((n : Int) / 10) = (q : Int) := by rw [IntWalk.i64_in _ (by omega)]; omega
      have a1 : (n : Int).tmod 10 = (d : Int) := by rw [Int.tmod_eq_emod_of_nonneg (by omega)]; omega
      have a2 : IntKind.i64.wrap (48 + (d : Int)) = 48 + (d : Int) := IntWalk.i64_in _ (by omega)
      have a3 : IntKind.u8.wrap (48 + (d : Int)) = 48 + (d : Int) := IntWalk.u8_in _ (by omega)
      obtain ⟨ch, hch⟩ : ∃ c, c = UInt8.ofNat (48 + d) := ⟨_, rfl⟩
      have HCV : Hid (∀ (W : World) (b : Nat), W.cell? ⟨b, 0, none⟩ = some (.int .u8 (48 + (d : Int))) → (convert 117 9 (.slice (some ⟨b, 0, none⟩) 1 1)).run Tryz.prog W = .ok (.string (str [ch])) W) := fun W b hW => by
        have := conv1 (48 + (d : Int)) W b 1 hW
        have he : UInt8.ofNat (48 + (d : Int)).toNat = UInt8.ofNat (48 + d) := by congr 1
        rw [he, ← hch] at this
        exact this
      have hcn : ∀ W : World, (convert 117 9 (.slice (some ⟨W.heap.size, 0, none⟩) 1 1)).run Tryz.prog (W.alloc (.cells #[.int .u8 (48 + (d : Int))] 5)) = .ok (.string (str [ch])) (W.alloc (.cells #[.int .u8 (48 + (d : Int))] 5)) := fun W => HCV.out _ _ (new1 W _ _).1
      have hcd : ∀ W : World, (convert 117 9 (.slice (some ⟨W.heap.size, 0, none⟩) 1 1)).run Tryz.prog (W.alloc (.cells #[.int .u8 (48 + (d : Int))] 5)).drew = .ok (.string (str [ch])) (W.alloc (.cells #[.int .u8 (48 + (d : Int))] 5)).drew := fun W => HCV.out _ _ (new1 W _ _).1
      rw [← hch]
      obtain ⟨qs, hqs⟩ : ∃ l, l = Lib.decDigits q := ⟨_, rfl⟩
      rw [← hqs] at ih' ⊢
      have hql : qs.length ≤ 10 := by rw [hqs]; exact digits_len q (by omega)
      have hap : str qs ++ str [ch] = str (qs ++ [ch]) := str_append _ _
      have hsz1 : (str qs).size ≤ 10 := hql
      have hsz2 : (str [ch]).size = 1 := rfl
      clear ih hd hch hqs hq hdd
      go_enter Tryz.func75, Tryz.ntmps75
      go_wp2
      go_region_with (first | (go_at_call 75; refine (ih' _).mono ?_; rintro e w2 ⟨rfl, hb2⟩; (first | (have hcw := HCV.out w2 w.heap.size (byte_kept hb2)) | skip)))
      all_goals
        go_wp2
        go_ret
      all_goals refine ⟨rfl, ?_⟩
      all_goals first | exact ((Below.refl w.heap.size w).drew.trans hb2).trans ((below_box _).mono hb2.size) | exact (below_box (.cells #[.int .u8 (48 + (d : Int))] 5)).drew.trans (hb2.mono (by simp))

end Go.Proofs.YtppfhepipadepaaGreatDoor

namespace Go.Proofs.YtppfhepipadepaaGreatDoor
open Go.RowKit Go.Shelf Go.Maps Go.WideMaps

def dec (k : Int) : List UInt8 := Lib.decDigits k.toNat
def tailT : List Int → List UInt8
  | [] => []
  | k :: t => 44 :: (dec k ++ tailT t)
def keysT : List Int → List UInt8
  | [] => []
  | k :: t => dec k ++ tailT t
def aftT (y : Int) : List UInt8 := if y = 0 then [] else [32, 97, 102, 116, 101, 114, 32] ++ dec y
def rtxR (l : List Int) (x y : Int) : List UInt8 := dec x ++ [32, 111, 102, 32] ++ keysT l ++ aftT y

theorem tailT_snoc (l : List Int) (k : Int) : tailT (l ++ [k]) = tailT l ++ (44 :: dec k) := by
  induction l with
  | nil => simp [tailT]
  | cons a t ih => simp [tailT, ih]
theorem keysT_snoc {l : List Int} (h : l ≠ []) (k : Int) : keysT (l ++ [k]) = keysT l ++ (44 :: dec k) := by
  cases l with
  | nil => exact absurd rfl h
  | cons a t => simp [keysT, tailT_snoc]
theorem dec_len {k : Int} (h : k ≤ 999) : (dec k).length ≤ 10 := digits_len _ (by omega)
theorem digits_int {k : Int} (h0 : 0 ≤ k) (h1 : k ≤ 999) (w : World) : Calls Tryz.prog 75 #[.int .i64 k] w fun e w' => e = .returned (.string (str (dec k))) ∧ Below w.heap.size w w' := by
  obtain ⟨n, rfl⟩ := Int.eq_ofNat_of_zero_le h0
  exact l2Digits_any n (by omega) w

end Go.Proofs.YtppfhepipadepaaGreatDoor

namespace Go.Proofs.YtppfhepipadepaaGreatDoor
open Go.RowKit Go.Shelf Go.Maps Go.WideMaps

def swp (c : UInt8) : UInt8 := if c = 32 then 95 else c
structure SwAt (w wr : World) (t : List UInt8) (k : Nat) : Prop where
  bel : Below w.heap.size w wr
  c : ∀ j, j < t.length → wr.cell? ⟨w.heap.size, j, none⟩ = some (.int .u8 (if j < k then swp (t.getD j 0) else t.getD j 0).toNat)
  f : ∀ j, j < t.length → wr.frozen? ⟨w.heap.size, j, none⟩ = false

theorem bytes_below (w : World) (e : TypeId) (s : ByteArray) : Below w.heap.size w (Lib.bytesWorld w e s) :=
  ⟨rfl, rfl, rfl, by rw [Lib.bytesWorld_size]; omega, fun k hk => Lib.bytesWorld_at_old w e s k hk⟩
theorem SwAt.start (w : World) (t : List UInt8) : SwAt w (Lib.bytesWorld w 5 (str t)) t 0 := by
  refine ⟨bytes_below _ _ _, fun j hj => ?_, fun j hj => ?_⟩
  · have := Lib.bytesWorld_cell w 5 (str t) j hj
    simpa [str] using this
  · have hs : t.length ≤ (Lib.bytesCells w 5 (str t)).size := by simp [Lib.bytesCells, str]
    unfold World.frozen?
    rw [Lib.bytesWorld_at_new]
    simp
    omega
theorem SwAt.same {w wr : World} {t : List UInt8} {k : Nat} (h : SwAt w wr t k) (hs : swp (t.getD k 0) = t.getD k 0) : SwAt w wr t (k + 1) := by
  refine ⟨h.bel, fun j hj => ?_, h.f⟩
  rw [h.c j hj]
  by_cases e : j = k
  · subst e; simp only [Nat.lt_irrefl, if_false, Nat.lt_succ_self, if_true, hs]
  · by_cases e2 : j < k
    · rw [if_pos e2, if_pos (by omega)]
    · rw [if_neg e2, if_neg (by omega)]
theorem SwAt.set {w wr : World} {t : List UInt8} {k : Nat} (h : SwAt w wr t k) (hk : k < t.length) (hs : swp (t.getD k 0) = 95) : SwAt w (wr.setCell ⟨w.heap.size, k, none⟩ (.int .u8 95)) t (k + 1) := by
  refine ⟨h.bel.setCell (p := ⟨w.heap.size, k, none⟩) (Nat.le_refl _) _, fun j hj => ?_, fun j hj => by rw [World.frozen?_setCell]; exact h.f j hj⟩
  by_cases e : j = k
  · subst e
    rw [World.cell?_setCell_same _ _ _ (h.c j hj), if_pos (Nat.lt_succ_self _), hs]
    rfl
  · rw [World.cell?_setCell_other _ _ _ _ (by intro e2; cases e2; exact e rfl), h.c j hj]
    by_cases e2 : j < k
    · rw [if_pos e2, if_pos (by omega)]
    · rw [if_neg e2, if_neg (by omega)]
theorem SwAt.conv {w wr : World} {t : List UInt8} {k cap : Nat} (h : SwAt w wr t k) (hk : ¬ k < t.length) : (convert 117 9 (.slice (some ⟨w.heap.size, 0, none⟩) t.length cap)).run Tryz.prog wr = .ok (.string (str (t.map swp))) wr := by
  have := run_convert_bytes_arg wr 117 5 Tryz.underlying117 Tryz.underlying5 w.heap.size 0 t.length cap ((t.map swp).map fun b => (b.toNat : Int)) (by simp) (fun i hi => by
    have e := h.c i hi
    rw [if_pos (by omega)] at e
    simpa [List.getD, hi] using e) 9 Tryz.underlying9
  rw [this]
  have e : strOfNums ((t.map swp).map fun b => (b.toNat : Int)) = str (t.map swp) := by
    simp [strOfNums, str, Function.comp_def]
  rw [e]

set_option maxRecDepth 20000 in
set_option maxHeartbeats 1000000 in
theorem l3Swap_any (t : List UInt8) (w : World) (ht : t.length ≤ 1000000) : Calls Tryz.prog 53 #[.string (str t), .int .u8 32, .int .u8 95] w fun e w' => e = .returned (.string (str (t.map swp))) ∧ Below w.heap.size w w' := by
  obtain ⟨cap, hcap⟩ : ∃ c, c = grownCap w (str t).size 0 5 := ⟨_, rfl⟩
  obtain ⟨W0, hW0⟩ : ∃ W0, W0 = Lib.bytesWorld w 5 (str t) := ⟨_, rfl⟩
  have hcv := Lib.run_convert_string_bytes w 9 117 5 (str t) Tryz.underlying9 Tryz.underlying117 Tryz.underlying5
  have h0 := SwAt.start w t
  rw [← hcap, ← hW0] at hcv
  rw [← hW0] at h0
  have HS0 : Hid (SwAt w W0 t 0) := h0
  obtain ⟨n, hn⟩ : ∃ n, n = t.length := ⟨_, rfl⟩
  have hsz : (str t).size = n := hn.symm
  rw [hsz] at hcv
  have HN : Hid (n = t.length) := hn
  obtain ⟨r, hr⟩ : ∃ r, r = t.map swp := ⟨_, rfl⟩
  have HR : Hid (r = t.map swp) := hr
  rw [← hr]
  have hnb : n ≤ 1000000 := by omega
  clear hcap hW0 h0 hn hr hsz ht
  go_enter Tryz.func53, Tryz.ntmps53
  go_wp2
  go_loopw [8] (fun i wr => ∃ j : Nat, j ≤ n ∧ i = .int .i64 j ∧ Hid (SwAt w wr t j)) (fun i _ => n - (intOf i).toNat)
  case atStart => exact ⟨0, Nat.zero_le _, rfl, HS0⟩
  case round =>
    obtain ⟨j, hj, rfl, HS⟩ := hrel
    by_cases hlt : j < n
    · have hl2 : j < t.length := by rw [← HN.out]; exact hlt
      have hc := HS.out.c j hl2
      have hf := HS.out.f j hl2
      rw [if_neg (Nat.lt_irrefl _)] at hc
      obtain ⟨ch, hch⟩ : ∃ c, c = t.getD j 0 := ⟨_, rfl⟩
      rw [← hch] at hc
      have HCH : Hid (ch = t.getD j 0) := hch
      have HL2 : Hid (j < t.length) := hl2
      clear hch hl2
      have hki : (j : Int) < (n : Int) := by omega
      by_cases h32 : ch = 32
      · subst h32
        have HS2 := show Hid (SwAt w _ t (j + 1)) from HS.out.set HL2.out (by rw [← HCH.out]; rfl)
        have hc2 : wr.cell? ⟨w.heap.size, j, none⟩ = some (.int .u8 32) := hc
        clear hc
        go_wp2
        go_roundw
        case rel => exact ⟨j + 1, by omega, by go_num, HS2⟩
        case measure => simp [intOf]; omega
      · have HS2 := show Hid (SwAt w _ t (j + 1)) from HS.out.same (by rw [← HCH.out]; simp [swp, h32])
        have hne : ((ch.toNat : Int) == 32) = false := by
          have : ch.toNat ≠ 32 := fun e => h32 (UInt8.toNat_inj.1 e)
          simp; omega
        go_wp2
        go_roundw
        case rel => exact ⟨j + 1, by omega, by go_num, HS2⟩
        case measure => simp [intOf]; omega
    · have hcb := HS.out.conv (cap := cap) (by rw [← HN.out]; exact hlt)
      rw [← HN.out, ← HR.out] at hcb
      have HB : Hid (Below w.heap.size w wr) := HS.out.bel
      go_wp2
      go_ret
      exact ⟨rfl, HB.out⟩

set_option maxRecDepth 20000 in
set_option maxHeartbeats 2000000 in
/-- The text of a rule that lies inside another thing. -/
theorem l2TextAt_any (P q n cap : Nat) (a : Option Addr) (l : List Int) (x y : Int) (w : World) (hn1 : 1 ≤ n) (hn3 : n ≤ 3) (hx : 0 ≤ x ∧ x ≤ 999) (hy : 0 ≤ y ∧ y ≤ 999) (hk : ∀ j, j < n → 0 ≤ l.getD j 0 ∧ l.getD j 0 ≤ 999) (hI : IAt w a n l) (hPl : P < w.heap.size) (p0 : w.cell? ⟨P, q, none⟩ = some (.slice a n cap)) (p1 : w.cell? ⟨P, q + 1, none⟩ = some (.int .i64 x)) (p2 : w.cell? ⟨P, q + 2, none⟩ = some (.int .i64 y)) :
    Calls Tryz.prog 76 #[.pointer (some ⟨P, q, none⟩)] w fun e w' => e = .returned (.string (str (rtxR l x y))) ∧ Below w.heap.size w w' := by
  obtain ⟨rt, hrt⟩ : ∃ r, r = rtxR l x y := ⟨_, rfl⟩
  rw [← hrt]
  have HRT : Hid (rt = rtxR l x y) := hrt
  clear hrt
  have HN : Hid (l.length = n) := hI.1
  rcases hI.2 with h0 | ⟨b, off, e0, l0, d0⟩
  · omega
  subst e0
  have HD : Hid (∀ j, j < n → w.cell? ⟨b, off + j, none⟩ = some (.int .i64 (l.getD j 0))) := d0
  have HK : Hid (∀ j, j < n → 0 ≤ l.getD j 0 ∧ l.getD j 0 ≤ 999) := hk
  obtain ⟨k0, hk0⟩ : ∃ k, k = l.getD 0 0 := ⟨_, rfl⟩
  have c0 := d0 0 (by omega)
  have hkb := hk 0 (by omega)
  rw [← hk0] at c0 hkb
  simp only [Nat.add_zero] at c0
  have HK0 : Hid (k0 = l.getD 0 0) := hk0
  obtain ⟨dx, hdx⟩ : ∃ o, o = dec x := ⟨_, rfl⟩
  obtain ⟨dk, hdk⟩ : ∃ o, o = dec k0 := ⟨_, rfl⟩
  have hlx : dx.length ≤ 10 := by rw [hdx]; exact dec_len hx.2
  have hlk : dk.length ≤ 10 := by rw [hdk]; exact dec_len hkb.2
  have hA : ∀ W, Calls Tryz.prog 75 #[.int .i64 x] W fun e w' => e = .returned (.string (str dx)) ∧ Below W.heap.size W w' := fun W => by rw [hdx]; exact digits_int hx.1 hx.2 W
  have hB : ∀ W, Calls Tryz.prog 75 #[.int .i64 k0] W fun e w' => e = .returned (.string (str dk)) ∧ Below W.heap.size W w' := fun W => by rw [hdk]; exact digits_int hkb.1 hkb.2 W
  have hss : ∀ z : List UInt8, (str z).size = z.length := fun _ => rfl
  have hof : ∀ z : List UInt8, str z ++ ⟨#[32, 111, 102, 32]⟩ = str (z ++ [32, 111, 102, 32]) := fun z => str_append z _
  have happ : ∀ z r : List UInt8, str z ++ str r = str (z ++ r) := str_append
  have HDX : Hid (dx = dec x) := hdx
  have HDK : Hid (dk = dec k0) := hdk
  clear hI hk d0 hk0 hdx hdk
  have hni : 0 < (n : Int) := by omega
  have hnn : 0 < n := by omega
  have hz1 : ¬ 9223372036854775807 < dx.length + 4 := by omega
  have hz2 : ¬ 9223372036854775807 < dx.length + 4 + dk.length := by omega
  go_enter Tryz.func76, Tryz.ntmps76
  go_wp2
  go_region_held3 (fun w' => w'.cell? ⟨P, q, none⟩ = some (.slice (some ⟨b, off, none⟩) n cap) ∧ w'.cell? ⟨P, q + 1, none⟩ = some (.int .i64 x) ∧ w'.cell? ⟨b, off, none⟩ = some (.int .i64 k0)) (go_keep)
    (first
      | (go_at_call 75; (first
          | (have hA' := hA; (with_reducible refine (hA' _).mono ?_); clear hA hA'; rintro e w1 ⟨rfl, hb1⟩; have z0 := (hb1.cell (p := ⟨P, q, none⟩) hPl).trans p0; have z1 := (hb1.cell (p := ⟨P, q + 1, none⟩) hPl).trans p1; have z2 := (hb1.cell (p := ⟨b, off, none⟩) l0).trans c0; have hs1 : w.heap.size ≤ w1.heap.size := hb1.size)
          | ((with_reducible refine (hB _).mono ?_); rintro e w2 ⟨rfl, hb2⟩; have y0 := (hb2.cell (p := ⟨P, q, none⟩) (Nat.lt_of_lt_of_le hPl hs1)).trans z0; have y1 := (hb2.cell (p := ⟨P, q + 1, none⟩) (Nat.lt_of_lt_of_le hPl hs1)).trans z1; have y2 := (hb2.cell (p := ⟨b, off, none⟩) (Nat.lt_of_lt_of_le l0 hs1)).trans z2))))
  have HB2 : Hid (Below w.heap.size w w2) := (show Below w.heap.size w w1 from (Below.refl _ _).drew.trans hb1).trans (hb2.mono hs1)
  obtain ⟨o0, ho0⟩ : ∃ o, o = dx ++ 32 :: 111 :: 102 :: 32 :: dk := ⟨_, rfl⟩
  have hlo : o0.length ≤ 24 := by rw [ho0]; simp; omega
  have HO0 : Hid (o0 = dec x ++ [32, 111, 102, 32] ++ keysT (l.take 1)) := by
    show _ = _
    have e1 : l.take 1 = [k0] := by
      have := take_next HN.out (show 0 < n by omega) HK0.out
      simpa using this
    rw [ho0, HDX.out, HDK.out, e1]
    simp [keysT, tailT]
  rw [← ho0]
  clear ho0 HDX HDK hz1 hz2 hof hB z0 z1 z2 y0 y1 y2 hb1 hb2 hs1 c0 hkb HK0 hlx hlk p1
  have hcm : ∀ z : List UInt8, str z ++ ⟨#[44]⟩ = str (z ++ [44]) := fun z => str_append z _
  have haf : ∀ z : List UInt8, str z ++ ⟨#[32, 97, 102, 116, 101, 114, 32]⟩ = str (z ++ [32, 97, 102, 116, 101, 114, 32]) := fun z => str_append z _
  go_wp2
  go_loopw [3, 4] (fun v i wr => ∃ j : Nat, 1 ≤ j ∧ j ≤ n ∧ i = .int .i64 j ∧ ∃ o : List UInt8, v = .string (str o) ∧ o.length ≤ 24 + 11 * j ∧ Hid (o = dec x ++ [32, 111, 102, 32] ++ keysT (l.take j)) ∧ Below w.heap.size w wr) (fun _ i _ => n - (intOf i).toNat)
  case atStart => exact ⟨1, Nat.le_refl _, hn1, rfl, o0, rfl, by omega, HO0, HB2.out⟩
  case round =>
    obtain ⟨j, hj1, hj, rfl, o, rfl, hol, HO, hbel⟩ := hrel
    have y0 := (hbel.cell (p := ⟨P, q, none⟩) hPl).trans p0
    have y2 := (hbel.cell (p := ⟨P, q + 2, none⟩) hPl).trans p2
    by_cases hlt : j < n
    · obtain ⟨kj, hkj⟩ : ∃ k, k = l.getD j 0 := ⟨_, rfl⟩
      have cj := (hbel.cell (p := ⟨b, off + j, none⟩) l0).trans (HD.out j hlt)
      have hkb := HK.out j hlt
      rw [← hkj] at cj hkb
      have HKJ : Hid (kj = l.getD j 0) := hkj
      obtain ⟨dj, hdj⟩ : ∃ o, o = dec kj := ⟨_, rfl⟩
      have hlj : dj.length ≤ 10 := by rw [hdj]; exact dec_len hkb.2
      have hB : ∀ W, Calls Tryz.prog 75 #[.int .i64 kj] W fun e w' => e = .returned (.string (str dj)) ∧ Below W.heap.size W w' := fun W => by rw [hdj]; exact digits_int hkb.1 hkb.2 W
      have HDJ : Hid (dj = dec kj) := hdj
      clear hkj hdj hkb
      have hki : (j : Int) < (n : Int) := by omega
      have hz1 : ¬ 9223372036854775807 < o.length + 1 := by omega
      have hz2 : ¬ 9223372036854775807 < o.length + 1 + dj.length := by omega
      go_wp2_with (go_at_call 75; refine (hB _).mono ?_; rintro e w3 ⟨rfl, hb3⟩)
      go_roundw
      case rel =>
        refine ⟨j + 1, by omega, by omega, by go_num, _, rfl, by simp; omega, ?_, hbel.trans (hb3.mono hbel.size)⟩
        show _ = _
        have e1 := take_next HN.out hlt HKJ.out
        have e2 : l.take j ≠ [] := by
          intro e
          have := congrArg List.length e
          rw [List.length_take, HN.out] at this
          simp at this
          omega
        rw [e1, keysT_snoc e2, HO.out, HDJ.out]
        simp
      case measure => simp [intOf]; omega
    · have e1 : l.take j = l := take_all HN.out hlt
      have HO2 : Hid (o = dec x ++ [32, 111, 102, 32] ++ keysT l) := by show _ = _; rw [HO.out, e1]
      clear HO e1
      by_cases hy0 : y = 0
      · subst hy0
        obtain rfl : rt = o := by rw [HRT.out, HO2.out]; simp [rtxR, aftT]
        go_wp2
        go_ret
        exact ⟨rfl, hbel⟩
      · obtain ⟨dy, hdy⟩ : ∃ o, o = dec y := ⟨_, rfl⟩
        obtain rfl : rt = o ++ ([32, 97, 102, 116, 101, 114, 32] ++ dy) := by rw [HRT.out, HO2.out, hdy]; simp [rtxR, aftT, hy0]
        have hly : dy.length ≤ 10 := by rw [hdy]; exact dec_len hy.2
        have hB : ∀ W, Calls Tryz.prog 75 #[.int .i64 y] W fun e w' => e = .returned (.string (str dy)) ∧ Below W.heap.size W w' := fun W => by rw [hdy]; exact digits_int hy.1 hy.2 W
        have hyb : (y == 0) = false := by simpa using hy0
        have hz1 : ¬ 9223372036854775807 < o.length + 7 := by omega
        have hz2 : ¬ 9223372036854775807 < o.length + 7 + dy.length := by omega
        clear hdy
        go_wp2_with (go_at_call 75; refine (hB _).mono ?_; rintro e w3 ⟨rfl, hb3⟩)
        go_ret
        exact ⟨by simp, hbel.trans (hb3.mono hbel.size)⟩

end Go.Proofs.YtppfhepipadepaaGreatDoor

namespace Go.Proofs.YtppfhepipadepaaGreatDoor
open Go.RowKit Go.Maps Go.WideMaps
attribute [local go_sem ↓] Go.wp_at_zero Go.wp_at_succ

end Go.Proofs.YtppfhepipadepaaGreatDoor

namespace Go.Proofs.YtppfhepipadepaaGreatDoor
open Go.RowKit Go.Maps Go.WideMaps
attribute [local go_sem ↓] Go.wp_at_zero Go.wp_at_succ

end Go.Proofs.YtppfhepipadepaaGreatDoor

namespace Go.Proofs.YtppfhepipadepaaGreatDoor
open Go.RowKit Go.Maps Go.WideMaps


/-- Four cells of one block. -/
theorem cells4 {v : World} {b : Nat} {a0 a1 a2 a3 : Value} {t : TypeId} (h : v.heap[b]? = some (.cells #[a0, a1, a2, a3] t (0, 0))) :
    v.cell? ⟨b, 0, none⟩ = some a0 ∧ v.cell? ⟨b, 1, none⟩ = some a1 ∧ v.cell? ⟨b, 2, none⟩ = some a2 ∧ v.cell? ⟨b, 3, none⟩ = some a3 ∧ v.frozen? ⟨b, 0, none⟩ = false ∧ v.frozen? ⟨b, 1, none⟩ = false ∧ v.frozen? ⟨b, 2, none⟩ = false ∧ v.frozen? ⟨b, 3, none⟩ = false :=
  ⟨by unfold World.cell?; rw [h]; rfl, by unfold World.cell?; rw [h]; rfl, by unfold World.cell?; rw [h]; rfl, by unfold World.cell?; rw [h]; rfl, Joins.unfrozen_of_block h 0, Joins.unfrozen_of_block h 1, Joins.unfrozen_of_block h 2, Joins.unfrozen_of_block h 3⟩

theorem four_set {w : World} {b : Nat} {c0 c1 c2 c3 : Value} {t : TypeId} (h : w.heap[b]? = some (.cells #[c0, c1, c2, c3] t (0, 0))) (v0 v1 v2 v3 : Value) :
    (w.setCell ⟨b, 0, none⟩ v0).cell? ⟨b, 0, none⟩ = some v0 ∧ ((w.setCell ⟨b, 0, none⟩ v0).setCell ⟨b, 1, none⟩ v1).cell? ⟨b, 1, none⟩ = some v1 ∧ (((w.setCell ⟨b, 0, none⟩ v0).setCell ⟨b, 1, none⟩ v1).setCell ⟨b, 2, none⟩ v2).cell? ⟨b, 2, none⟩ = some v2 ∧
      ((((w.setCell ⟨b, 0, none⟩ v0).setCell ⟨b, 1, none⟩ v1).setCell ⟨b, 2, none⟩ v2).setCell ⟨b, 3, none⟩ v3).cell? ⟨b, 3, none⟩ = some v3 := by
  have h1 : (w.setCell ⟨b, 0, none⟩ v0).heap[b]? = some (.cells #[v0, c1, c2, c3] t (0, 0)) := by
    have := Joins.block_setCell (i := 0) h v0
    simpa using this
  have h2 : ((w.setCell ⟨b, 0, none⟩ v0).setCell ⟨b, 1, none⟩ v1).heap[b]? = some (.cells #[v0, v1, c2, c3] t (0, 0)) := by
    have := Joins.block_setCell (i := 1) h1 v1
    simpa using this
  have h3 : (((w.setCell ⟨b, 0, none⟩ v0).setCell ⟨b, 1, none⟩ v1).setCell ⟨b, 2, none⟩ v2).heap[b]? = some (.cells #[v0, v1, v2, c3] t (0, 0)) := by
    have := Joins.block_setCell (i := 2) h2 v2
    simpa using this
  have h4 : ((((w.setCell ⟨b, 0, none⟩ v0).setCell ⟨b, 1, none⟩ v1).setCell ⟨b, 2, none⟩ v2).setCell ⟨b, 3, none⟩ v3).heap[b]? = some (.cells #[v0, v1, v2, v3] t (0, 0)) := by
    have := Joins.block_setCell (i := 3) h3 v3
    simpa using this
  exact ⟨by unfold World.cell?; rw [h1]; rfl, by unfold World.cell?; rw [h2]; rfl, by unfold World.cell?; rw [h3]; rfl, by unfold World.cell?; rw [h4]; rfl⟩

end Go.Proofs.YtppfhepipadepaaGreatDoor

namespace Go.Proofs.YtppfhepipadepaaGreatDoor
open Go.RowKit Go.Maps

theorem Tryz.infoRef : (Tryz.prog.info? 115).map (fun i => (i.zero, i.size, i.bytes)) = some (some (.agg #[.int .i64 0, .int .i64 0]), 2, 16) := by kernel_rfl

theorem eqRef_any (a b : Int) (w : World) : Calls Tryz.prog 67 #[.agg #[.int .i64 a, .int .i64 b], .agg #[.int .i64 a, .int .i64 b]] w fun e w' => e = .returned (.bool true) ∧ Below w.heap.size w w' := by
  go_enter Tryz.func67, Tryz.ntmps67
  go_wp2
  go_ret
  exact ⟨rfl, ((Below.refl _ _).alloc (Nat.le_refl _) _).alloc (by simp) _⟩

set_option maxHeartbeats 400000 in
theorem eqRf_any (a b : Option Addr) (n c1 c2 : Nat) (gs : List (Int × Int)) (w : World) (hl : n ≤ 1048576) (ha : GAt w a n gs) (hb : GAt w b n gs) :
    Calls Tryz.prog 37 #[.slice a n c1, .slice b n c2] w fun e w' => e = .returned (.bool true) ∧ Below w.heap.size w w' := by
  have HA : Hid (GAt w a n gs) := ha
  have HB : Hid (GAt w b n gs) := hb
  clear ha hb
  go_enter Tryz.func37, Tryz.ntmps37
  go_wp2
  go_loopw [5] (fun i wr => ∃ k : Nat, k ≤ n ∧ i = .int .i64 k ∧ Below w.heap.size w wr) (fun i _ => n - (intOf i).toNat)
  case atStart => exact ⟨0, Nat.zero_le _, rfl, Below.refl _ _⟩
  case round =>
    obtain ⟨k, hk, rfl, hbel⟩ := hrel
    by_cases hlt : k < n
    · rcases HA.out.2 with h0 | ⟨b0, o0, e0, l0, d0⟩
      · omega
      subst e0
      rcases HB.out.2 with h0 | ⟨b1, o1, e1, l1, d1⟩
      · omega
      subst e1
      obtain ⟨g, hg⟩ : ∃ g, g = gs.getD k G0 := ⟨_, rfl⟩
      have y0 := d0 k hlt
      have y1 := d1 k hlt
      rw [← hg] at y0 y1
      obtain ⟨g1, g2⟩ := g
      have x0 := (hbel.cell (p := ⟨b0, o0 + k * 2, none⟩) l0).trans y0.1
      have x1 := (hbel.cell (p := ⟨b0, o0 + k * 2 + 1, none⟩) l0).trans y0.2
      have x2 := (hbel.cell (p := ⟨b1, o1 + k * 2, none⟩) l1).trans y1.1
      have x3 := (hbel.cell (p := ⟨b1, o1 + k * 2 + 1, none⟩) l1).trans y1.2
      clear hg d0 d1 y0 y1
      have hki : (k : Int) < (n : Int) := by omega
      have hw0 : b0 < wr.heap.size := Nat.lt_of_lt_of_le l0 hbel.size
      have hw1 : b1 < wr.heap.size := Nat.lt_of_lt_of_le l1 hbel.size
      have hcall : ∀ j, Calls Tryz.prog 67 #[.agg #[.int .i64 g1, .int .i64 g2], .agg #[.int .i64 g1, .int .i64 g2]] (wr.drewN j) fun e w' => e = .returned (.bool true) ∧ Below wr.heap.size wr w' := fun j => (eqRef_any g1 g2 _).mono fun e w' h => ⟨h.1, (Joins.below_draws _ wr j).trans h.2⟩
      go_wp2
      go_region_held3 (fun w' => w'.cell? ⟨b0, o0 + k * 2, none⟩ = some (.int .i64 g1) ∧ w'.cell? ⟨b0, o0 + k * 2 + 1, none⟩ = some (.int .i64 g2) ∧ w'.cell? ⟨b1, o1 + k * 2, none⟩ = some (.int .i64 g1) ∧ w'.cell? ⟨b1, o1 + k * 2 + 1, none⟩ = some (.int .i64 g2)) (go_keep)
        (first | (go_at_call 67; refine (hcall 1).mono ?_; rintro e w3 ⟨rfl, hb3⟩; have z0 := (hb3.cell (p := ⟨b0, o0 + k * 2, none⟩) hw0).trans x0; have z1 := (hb3.cell (p := ⟨b0, o0 + k * 2 + 1, none⟩) hw0).trans x1; have z2 := (hb3.cell (p := ⟨b1, o1 + k * 2, none⟩) hw1).trans x2; have z3 := (hb3.cell (p := ⟨b1, o1 + k * 2 + 1, none⟩) hw1).trans x3))
      go_wp2
      go_roundw
      case rel => exact ⟨k + 1, by omega, by go_num, hbel.trans (hb3.mono hbel.size)⟩
      case measure => simp [intOf]; omega
    · go_wp2
      go_ret
      exact ⟨rfl, hbel⟩

end Go.Proofs.YtppfhepipadepaaGreatDoor

namespace Go.Proofs.YtppfhepipadepaaGreatDoor
open Go.RowKit Go.Maps

structure Ou where
  v : Int
  l : List Int
  x : Int
  y : Int
def O0 : Ou := ⟨0, [], 0, 0⟩

/-- What a slice of outs leads to: four cells each, the keys behind the second. -/
def OAt (w : World) (a : Option Addr) (n : Nat) (os : List Ou) : Prop :=
  os.length = n ∧ (n = 0 ∨ ∃ b off, a = some ⟨b, off, none⟩ ∧ b < w.heap.size ∧ ∀ j, j < n → ∃ ka kn kc, w.cell? ⟨b, off + j * 4, none⟩ = some (.int .i64 (os.getD j O0).v) ∧ w.cell? ⟨b, off + j * 4 + 1, none⟩ = some (.slice ka kn kc) ∧
    w.cell? ⟨b, off + j * 4 + 2, none⟩ = some (.int .i64 (os.getD j O0).x) ∧ w.cell? ⟨b, off + j * 4 + 3, none⟩ = some (.int .i64 (os.getD j O0).y) ∧ kn ≤ maxLen ∧ IAt w ka kn (os.getD j O0).l)

theorem OAt.below {w w' : World} {a : Option Addr} {n : Nat} {os : List Ou} (h : OAt w a n os) {B : Nat} (hb : Below B w w') (hB : w.heap.size ≤ B) : OAt w' a n os := by
  obtain ⟨hn, h | ⟨b, off, rfl, hlt, hc⟩⟩ := h
  · exact ⟨hn, .inl h⟩
  · refine ⟨hn, .inr ⟨b, off, rfl, Nat.lt_of_lt_of_le hlt hb.size, fun j hj => ?_⟩⟩
    obtain ⟨ka, kn, kc, h0, h1, h2, h3, h4, h5⟩ := hc j hj
    have hl := Nat.lt_of_lt_of_le hlt hB
    exact ⟨ka, kn, kc, (hb.cell (p := ⟨b, off + j * 4, none⟩) hl).trans h0, (hb.cell (p := ⟨b, off + j * 4 + 1, none⟩) hl).trans h1, (hb.cell (p := ⟨b, off + j * 4 + 2, none⟩) hl).trans h2, (hb.cell (p := ⟨b, off + j * 4 + 3, none⟩) hl).trans h3, h4, h5.below hb hB⟩

end Go.Proofs.YtppfhepipadepaaGreatDoor

namespace Go.Proofs.YtppfhepipadepaaGreatDoor
open Go.RowKit Go.Maps Go.WideMaps

theorem Tryz.infoOut : (Tryz.prog.info? 100).map (fun i => (i.zero, i.size, i.bytes)) = some (some (.agg #[.int .i64 0, .slice none 0 0, .int .i64 0, .int .i64 0]), 4, 48) := by kernel_rfl

theorem res4 {w w2 : World} {b B : Nat} {c0 c1 c2 c3 : Value} {t : TypeId} (h : w.heap[b]? = some (.cells #[c0, c1, c2, c3] t (0, 0))) (hb : Below B w w2) (hB : b < B) :
    (w2.cell? ⟨b, 0, none⟩ = some c0 ∧ w2.cell? ⟨b, 1, none⟩ = some c1 ∧ w2.cell? ⟨b, 2, none⟩ = some c2 ∧ w2.cell? ⟨b, 3, none⟩ = some c3 ∧ w2.frozen? ⟨b, 0, none⟩ = false ∧ w2.frozen? ⟨b, 1, none⟩ = false ∧ w2.frozen? ⟨b, 2, none⟩ = false ∧ w2.frozen? ⟨b, 3, none⟩ = false) ∧ Hid (w2.heap[b]? = some (.cells #[c0, c1, c2, c3] t (0, 0))) := by
  have h2 := (hb.block b hB).trans h
  exact ⟨cells4 h2, h2⟩

end Go.Proofs.YtppfhepipadepaaGreatDoor

namespace Go.Proofs.YtppfhepipadepaaGreatDoor
open Go.RowKit Go.Maps Go.WideMaps

end Go.Proofs.YtppfhepipadepaaGreatDoor

namespace Go.Proofs.YtppfhepipadepaaGreatDoor
open Go.RowKit Go.Maps Go.WideMaps

set_option maxHeartbeats 400000 in
theorem eqOut_any (v : Int) (a b : Option Addr) (n c1 c2 : Nat) (l : List Int) (x y : Int) (w : World) (hl : n ≤ 1048576) (ha : IAt w a n l) (hb : IAt w b n l) :
    Calls Tryz.prog 68 #[.agg #[.int .i64 v, .slice a n c1, .int .i64 x, .int .i64 y], .agg #[.int .i64 v, .slice b n c2, .int .i64 x, .int .i64 y]] w fun e w' => e = .returned (.bool true) ∧ Below w.heap.size w w' := by
  have hbx : Below w.heap.size w ((w.alloc (.cells #[.int .i64 v, .slice a n c1, .int .i64 x, .int .i64 y] 100)).alloc (.cells #[.int .i64 v, .slice b n c2, .int .i64 x, .int .i64 y] 100)) := below_box2 _ _
  have hS := eqRu_any a b n c1 c2 l x y _ hl (ha.below hbx (Nat.le_refl _)) (hb.below hbx (Nat.le_refl _))
  have HBX : Hid (Below w.heap.size w ((w.alloc (.cells #[.int .i64 v, .slice a n c1, .int .i64 x, .int .i64 y] 100)).alloc (.cells #[.int .i64 v, .slice b n c2, .int .i64 x, .int .i64 y] 100))) := hbx
  clear hbx ha hb
  go_enter Tryz.func68, Tryz.ntmps68
  go_wp2_with (first
    | (go_at_call 83; refine hS.mono ?_; rintro e w2 ⟨rfl, hb2⟩; have HBW : Hid (Below w.heap.size w w2) := HBX.out.trans (hb2.mono (by simp; omega)); clear hb2))
  go_ret
  exact ⟨rfl, HBW.out⟩

set_option maxHeartbeats 1000000 in
theorem eqOs_any (a b : Option Addr) (n c1 c2 : Nat) (os : List Ou) (w : World) (hl : n ≤ 1048576) (hk : ∀ j, j < n → (os.getD j O0).l.length ≤ 1048576) (ha : OAt w a n os) (hb : OAt w b n os) :
    Calls Tryz.prog 38 #[.slice a n c1, .slice b n c2] w fun e w' => e = .returned (.bool true) ∧ Below w.heap.size w w' := by
  have HA : Hid (OAt w a n os) := ha
  have HB : Hid (OAt w b n os) := hb
  have HKL : Hid (∀ j, j < n → (os.getD j O0).l.length ≤ 1048576) := hk
  clear ha hb hk
  go_enter Tryz.func38, Tryz.ntmps38
  go_wp2
  go_loopw [5] (fun i wr => ∃ k : Nat, k ≤ n ∧ i = .int .i64 k ∧ Below w.heap.size w wr) (fun i _ => n - (intOf i).toNat)
  case atStart => exact ⟨0, Nat.zero_le _, rfl, Below.refl _ _⟩
  case round =>
    obtain ⟨k, hk, rfl, hbel⟩ := hrel
    by_cases hlt : k < n
    · rcases HA.out.2 with h0 | ⟨b0, o0, e0, l0, d0⟩
      · omega
      subst e0
      rcases HB.out.2 with h0 | ⟨b1, o1, e1, l1, d1⟩
      · omega
      subst e1
      obtain ⟨o, ho⟩ : ∃ o, o = os.getD k O0 := ⟨_, rfl⟩
      obtain ⟨ka, kn, kc, p0, p1, p2, p3, p4, p5⟩ := d0 k hlt
      obtain ⟨ja, jn, jc, q0, q1, q2, q3, q4, q5⟩ := d1 k hlt
      have hol := HKL.out k hlt
      rw [← ho] at p0 p2 p3 p5 q0 q2 q3 q5 hol
      obtain ⟨ov, ol, ox, oy⟩ := o
      obtain rfl := p5.1
      obtain rfl := q5.1
      simp only at p0 p1 p2 p3 q0 q1 q2 q3 hol p5 q5
      have x0 := (hbel.cell (p := ⟨b0, o0 + k * 4, none⟩) l0).trans p0
      have x1 := (hbel.cell (p := ⟨b0, o0 + k * 4 + 1, none⟩) l0).trans p1
      have x2 := (hbel.cell (p := ⟨b0, o0 + k * 4 + 2, none⟩) l0).trans p2
      have x3 := (hbel.cell (p := ⟨b0, o0 + k * 4 + 3, none⟩) l0).trans p3
      have y0 := (hbel.cell (p := ⟨b1, o1 + k * 4, none⟩) l1).trans q0
      have y1 := (hbel.cell (p := ⟨b1, o1 + k * 4 + 1, none⟩) l1).trans q1
      have y2 := (hbel.cell (p := ⟨b1, o1 + k * 4 + 2, none⟩) l1).trans q2
      have y3 := (hbel.cell (p := ⟨b1, o1 + k * 4 + 3, none⟩) l1).trans q3
      have hki : (k : Int) < (n : Int) := by omega
      have hw0 : b0 < wr.heap.size := Nat.lt_of_lt_of_le l0 hbel.size
      have hw1 : b1 < wr.heap.size := Nat.lt_of_lt_of_le l1 hbel.size
      have hcall : Calls Tryz.prog 68 #[.agg #[.int .i64 ov, .slice ka ol.length kc, .int .i64 ox, .int .i64 oy], .agg #[.int .i64 ov, .slice ja ol.length jc, .int .i64 ox, .int .i64 oy]] wr.drew fun e w' => e = .returned (.bool true) ∧ Below wr.heap.size wr w' :=
        (eqOut_any ov ka ja ol.length kc jc ol ox oy _ hol ((p5.below hbel (Nat.le_refl _)).below (Below.refl _ _).drew (Nat.le_refl _)) ((q5.below hbel (Nat.le_refl _)).below (Below.refl _ _).drew (Nat.le_refl _))).mono fun e w' h => ⟨h.1, (Below.refl _ _).drew.trans h.2⟩
      clear ho d0 d1 p0 p1 p2 p3 p4 p5 q0 q1 q2 q3 q4 q5 hol
      go_wp2
      go_region_held3 (fun w' => (w'.cell? ⟨b0, o0 + k * 4, none⟩ = some (.int .i64 ov) ∧ w'.cell? ⟨b0, o0 + k * 4 + 1, none⟩ = some (.slice ka ol.length kc) ∧ w'.cell? ⟨b0, o0 + k * 4 + 2, none⟩ = some (.int .i64 ox) ∧ w'.cell? ⟨b0, o0 + k * 4 + 3, none⟩ = some (.int .i64 oy)) ∧ w'.cell? ⟨b1, o1 + k * 4, none⟩ = some (.int .i64 ov) ∧ w'.cell? ⟨b1, o1 + k * 4 + 1, none⟩ = some (.slice ja ol.length jc) ∧ w'.cell? ⟨b1, o1 + k * 4 + 2, none⟩ = some (.int .i64 ox) ∧ w'.cell? ⟨b1, o1 + k * 4 + 3, none⟩ = some (.int .i64 oy)) (go_keep)
        (first | (go_at_call 68; refine hcall.mono ?_; rintro e w3 ⟨rfl, hb3⟩; have z0 := (hb3.cell (p := ⟨b0, o0 + k * 4, none⟩) hw0).trans x0; have z1 := (hb3.cell (p := ⟨b0, o0 + k * 4 + 1, none⟩) hw0).trans x1; have z2 := (hb3.cell (p := ⟨b0, o0 + k * 4 + 2, none⟩) hw0).trans x2; have z3 := (hb3.cell (p := ⟨b0, o0 + k * 4 + 3, none⟩) hw0).trans x3; have z4 := (hb3.cell (p := ⟨b1, o1 + k * 4, none⟩) hw1).trans y0; have z5 := (hb3.cell (p := ⟨b1, o1 + k * 4 + 1, none⟩) hw1).trans y1; have z6 := (hb3.cell (p := ⟨b1, o1 + k * 4 + 2, none⟩) hw1).trans y2; have z7 := (hb3.cell (p := ⟨b1, o1 + k * 4 + 3, none⟩) hw1).trans y3))
      go_wp2
      go_roundw
      case rel => exact ⟨k + 1, by omega, by go_num, hbel.trans (hb3.mono hbel.size)⟩
      case measure => simp [intOf]; omega
    · go_wp2
      go_ret
      exact ⟨rfl, hbel⟩

/-- What is known of a transaction: its refs and its outs. -/
structure TxAt (w : World) (ia : Option Addr) (n : Nat) (oa : Option Addr) (m : Nat) (rs : List (Int × Int)) (os : List Ou) : Prop where
  r : GAt w ia n rs
  o : OAt w oa m os
theorem TxAt.below {w w' : World} {ia oa : Option Addr} {n m : Nat} {rs : List (Int × Int)} {os : List Ou} (h : TxAt w ia n oa m rs os) {B : Nat} (hb : Below B w w') (hB : w.heap.size ≤ B) : TxAt w' ia n oa m rs os := ⟨h.r.below hb hB, h.o.below hb hB⟩

set_option maxHeartbeats 400000 in
theorem eqTx_any (k f : Int) (ia ib oa ob : Option Addr) (n m c0 c1 d0 d1 : Nat) (rs : List (Int × Int)) (os : List Ou) (w : World) (hn : n ≤ 1048576) (hm : m ≤ 1048576) (hk : ∀ j, j < m → (os.getD j O0).l.length ≤ 1048576) (ha : TxAt w ia n oa m rs os) (hb : TxAt w ib n ob m rs os) :
    Calls Tryz.prog 21 #[.agg #[.int .i64 k, .int .i64 f, .slice ia n c0, .slice oa m d0], .agg #[.int .i64 k, .int .i64 f, .slice ib n c1, .slice ob m d1]] w fun e w' => e = .returned (.bool true) ∧ Below w.heap.size w w' := by
  have hbx : Below w.heap.size w ((w.alloc (.cells #[.int .i64 k, .int .i64 f, .slice ia n c0, .slice oa m d0] 30)).alloc (.cells #[.int .i64 k, .int .i64 f, .slice ib n c1, .slice ob m d1] 30)) := below_box2 _ _
  have hS := eqRf_any ia ib n c0 c1 rs _ hn (ha.r.below hbx (Nat.le_refl _)) (hb.r.below hbx (Nat.le_refl _))
  have T0 := show Hid (((w.alloc (.cells #[.int .i64 k, .int .i64 f, .slice ia n c0, .slice oa m d0] 30)).alloc (.cells #[.int .i64 k, .int .i64 f, .slice ib n c1, .slice ob m d1] 30)).heap[w.heap.size]? = some (.cells #[.int .i64 k, .int .i64 f, .slice ia n c0, .slice oa m d0] 30 (0, 0))) from block_at2
  have T1 := show Hid (((w.alloc (.cells #[.int .i64 k, .int .i64 f, .slice ia n c0, .slice oa m d0] 30)).alloc (.cells #[.int .i64 k, .int .i64 f, .slice ib n c1, .slice ob m d1] 30)).heap[w.heap.size + 1]? = some (.cells #[.int .i64 k, .int .i64 f, .slice ib n c1, .slice ob m d1] 30 (0, 0))) from heap_alloc_at _ _ _ (by simp)
  have HBX : Hid (Below w.heap.size w ((w.alloc (.cells #[.int .i64 k, .int .i64 f, .slice ia n c0, .slice oa m d0] 30)).alloc (.cells #[.int .i64 k, .int .i64 f, .slice ib n c1, .slice ob m d1] 30))) := hbx
  have HA : Hid (OAt w oa m os) := ha.o
  have HB : Hid (OAt w ob m os) := hb.o
  have HK : Hid (∀ j, j < m → (os.getD j O0).l.length ≤ 1048576) := hk
  clear hbx ha hb hk
  go_enter Tryz.func21, Tryz.ntmps21
  go_wp2_with (first
    | (go_at_call 37; refine hS.mono ?_; rintro e w2 ⟨rfl, hb2⟩; obtain ⟨⟨p0, p1, p2, p3, _⟩, _⟩ := res4 T0.out hb2 (by simp; omega); obtain ⟨⟨q0, q1, q2, q3, _⟩, _⟩ := res4 T1.out hb2 (by simp); have hbw : Below w.heap.size w w2 := HBX.out.trans (hb2.mono (by simp; omega)); have hO := eqOs_any oa ob m d0 d1 os w2 hm HK.out (HA.out.below hbw (Nat.le_refl _)) (HB.out.below hbw (Nat.le_refl _)); clear hb2)
    | (go_at_call 38; refine hO.mono ?_; rintro e w3 ⟨rfl, hb3⟩))
  go_ret
  exact ⟨rfl, hbw.trans (hb3.mono hbw.size)⟩

end Go.Proofs.YtppfhepipadepaaGreatDoor

namespace Go.Proofs.YtppfhepipadepaaGreatDoor
open Go.RowKit Go.Maps Go.WideMaps


end Go.Proofs.YtppfhepipadepaaGreatDoor

namespace Go.Proofs.YtppfhepipadepaaGreatDoor
open Go.RowKit Go.Maps Go.WideMaps

set_option maxRecDepth 20000 in
set_option maxHeartbeats 2000000 in
theorem l2FaultAt_any (P q n cap : Nat) (a : Option Addr) (l : List Int) (x y : Int) (w : World) (hl : n ≤ 1048576) (hI : IAt w a n l) (hPl : P < w.heap.size) (p0 : w.cell? ⟨P, q, none⟩ = some (.slice a n cap)) (p1 : w.cell? ⟨P, q + 1, none⟩ = some (.int .i64 x)) (p2 : w.cell? ⟨P, q + 2, none⟩ = some (.int .i64 y)) :
    Calls Tryz.prog 71 #[.pointer (some ⟨P, q, none⟩)] w fun e w' => e = .returned (.int .i64 (ruleR l x y)) ∧ Below w.heap.size w w' := by
  have HI : Hid (IAt w a n l) := hI
  have HN : Hid (l.length = n) := hI.1
  obtain ⟨b1, hb1⟩ : ∃ b, b = inB n 1 3 := ⟨_, rfl⟩
  obtain ⟨kb, hkb⟩ : ∃ b, b = inB x 1 n := ⟨_, rfl⟩
  obtain ⟨kc, hkc⟩ : ∃ b, b = inB y 0 999 := ⟨_, rfl⟩
  have hW1 : ∀ v, Calls Tryz.prog 47 #[.int .i64 n, .int .i64 1, .int .i64 3] v fun e w' => e = .returned (.bool b1) ∧ w' = v := fun v => by rw [hb1]; exact l1In_any _ _ _ v
  have hW2 : ∀ v, Calls Tryz.prog 47 #[.int .i64 x, .int .i64 1, .int .i64 n] v fun e w' => e = .returned (.bool kb) ∧ w' = v := fun v => by rw [hkb]; exact l1In_any _ _ _ v
  have hW3 : ∀ v, Calls Tryz.prog 84 #[.int .i64 y] v fun e w' => e = .returned (.bool kc) ∧ w' = v := fun v => by rw [hkc]; exact l2Height_any _ v
  have HB1 : Hid (b1 = inB n 1 3) := hb1
  have HKB : Hid (kb = inB x 1 n) := hkb
  have HKC : Hid (kc = inB y 0 999) := hkc
  obtain ⟨r, hr⟩ : ∃ r, r = ruleR l x y := ⟨_, rfl⟩
  rw [← hr]
  have HR : Hid (r = ruleR l x y) := hr
  clear hI hb1 hkb hkc hr
  cases b1
  · obtain rfl : r = 2 := by rw [HR.out]; exact ruleR_many HN.out HB1.out.symm
    go_enter Tryz.func71, Tryz.ntmps71
    go_wp2_with (go_at_call 47; refine (hW1 _).mono ?_; rintro e w' ⟨rfl, hw⟩; have hw2 := hw.symm; subst hw2)
    go_ret
    exact ⟨rfl, Below.refl _ _⟩
  · go_enter Tryz.func71, Tryz.ntmps71
    go_wp2_with (go_at_call 47; refine (hW1 _).mono ?_; rintro e w' ⟨rfl, hw⟩; have hw2 := hw.symm; subst hw2)
    go_loop [4] (fun i => ∃ k : Nat, k ≤ n ∧ i = .int .i64 k ∧ Hid (allK (l.take k) = true)) (fun i => n - (intOf i).toNat)
    case atStart => exact ⟨0, Nat.zero_le _, rfl, by show _ = _; simp [allK]⟩
    case round =>
      obtain ⟨k, hk, rfl, HT⟩ := hrel
      by_cases hlt : k < n
      · rcases HI.out.2 with h0 | ⟨b0, o0, e0, l0, d0⟩
        · omega
        subst e0
        obtain ⟨s, hs⟩ : ∃ s, s = l.getD k 0 := ⟨_, rfl⟩
        have x0 := d0 k hlt
        rw [← hs] at x0
        have HS : Hid (s = l.getD k 0) := hs
        obtain ⟨ks, hks⟩ : ∃ b, b = inB s 1 999 := ⟨_, rfl⟩
        have hkey : ∀ v, Calls Tryz.prog 46 #[.int .i64 s] v fun e w' => e = .returned (.bool ks) ∧ w' = v := fun v => by rw [hks]; exact l1Key_any s v
        have HKS : Hid (ks = inB s 1 999) := hks
        clear hs d0 hks
        have hki : (k : Int) < (n : Int) := by omega
        cases ks
        · obtain rfl : r = 3 := by
            rw [HR.out]
            refine ruleR_range HN.out HB1.out.symm (.inl (allK_pre (pre := l.take (k + 1)) (List.take_prefix _ _) ?_))
            rw [take_next HN.out hlt HS.out]; exact allK_bad HKS.out.symm
          go_wp2_with (go_at_call 46; refine (hkey _).mono ?_; rintro e w' ⟨rfl, hw⟩; have hw2 := hw.symm; subst hw2)
          go_ret
          exact ⟨rfl, Below.refl _ _⟩
        · go_wp2_with (go_at_call 46; refine (hkey _).mono ?_; rintro e w' ⟨rfl, hw⟩; have hw2 := hw.symm; subst hw2)
          go_round
          case rel => exact ⟨k + 1, by omega, by go_num, by show _ = _; rw [take_next HN.out hlt HS.out]; exact allK_snoc HT.out HKS.out.symm⟩
          case measure => simp [intOf]; omega
      · have HALL : Hid (allK l = true) := by have := HT.out; rw [take_all HN.out hlt] at this; exact this
        clear HT
        cases kb
        · obtain rfl : r = 3 := by rw [HR.out]; exact ruleR_range HN.out HB1.out.symm (.inr (.inl HKB.out.symm))
          go_wp2_with (go_at_call 47; refine (hW2 _).mono ?_; rintro e w' ⟨rfl, hw⟩; have hw2 := hw.symm; subst hw2)
          go_ret
          exact ⟨rfl, Below.refl _ _⟩
        · cases kc
          · obtain rfl : r = 3 := by rw [HR.out]; exact ruleR_range HN.out HB1.out.symm (.inr (.inr HKC.out.symm))
            go_wp2_with (first | (go_at_call 47; refine (hW2 _).mono ?_; rintro e w' ⟨rfl, hw⟩; have hw2 := hw.symm; subst hw2) | (go_at_call 84; refine (hW3 _).mono ?_; rintro e w' ⟨rfl, hw⟩; have hw2 := hw.symm; subst hw2))
            go_ret
            exact ⟨rfl, Below.refl _ _⟩
          · go_wp2_with (first | (go_at_call 47; refine (hW2 _).mono ?_; rintro e w' ⟨rfl, hw⟩; have hw2 := hw.symm; subst hw2) | (go_at_call 84; refine (hW3 _).mono ?_; rintro e w' ⟨rfl, hw⟩; have hw2 := hw.symm; subst hw2))
            go_loopw [5] (fun i wr => ∃ j : Nat, j + 1 ≤ n ∧ i = .int .i64 ((j : Int) + 1) ∧ Hid (riseB 0 (l.take (j + 1)) = true) ∧ Below w.heap.size w wr) (fun i _ => n - (intOf i).toNat)
            case atStart => exact ⟨0, by have := inB_true.1 HB1.out.symm; omega, by go_num, riseB_one HN.out HB1.out.symm HALL.out, Below.refl _ _⟩
            case round =>
              obtain ⟨j, hj, rfl, HT, hbel⟩ := hrel
              by_cases hlt2 : j + 1 < n
              · rcases HI.out.2 with h0 | ⟨b0, o0, e0, l0, d0⟩
                · omega
                subst e0
                obtain ⟨s, hs⟩ : ∃ s, s = l.getD (j + 1) 0 := ⟨_, rfl⟩
                obtain ⟨t, ht⟩ : ∃ t, t = l.getD j 0 := ⟨_, rfl⟩
                have x0 := (hbel.cell (p := ⟨b0, o0 + (j + 1), none⟩) l0).trans (d0 (j + 1) hlt2)
                have x1 := (hbel.cell (p := ⟨b0, o0 + j, none⟩) l0).trans (d0 j (by omega))
                rw [← hs] at x0
                rw [← ht] at x1
                have HS : Hid (s = l.getD (j + 1) 0) := hs
                have HTT : Hid (t = l.getD j 0) := ht
                clear hs ht d0
                have y0 := (hbel.cell (p := ⟨P, q, none⟩) hPl).trans p0
                have hki : (j : Int) + 1 < (n : Int) := by omega
                have hkj : (j : Int) < (n : Int) := by omega
                by_cases hst : s ≤ t
                · obtain rfl : r = 1 := by
                    rw [HR.out]
                    refine ruleR_form HN.out HB1.out.symm HALL.out HKB.out.symm HKC.out.symm (riseB_pre (pre := l.take (j + 1 + 1)) (List.take_prefix _ _) ?_)
                    rw [take_next HN.out hlt2 HS.out, riseB_snoc, lastK_take HN.out (by omega) HTT.out, decide_eq_false (by omega), Bool.and_false]
                  go_wp2
                  go_quiet (fail)
                  go_wp2
                  go_ret
                  exact ⟨rfl, hbel.trans (Joins.below_draws _ _ _)⟩
                · go_wp2
                  go_quiet (fail)
                  go_wp2
                  go_roundw
                  case rel => exact ⟨j + 1, by omega, by go_num, by show _ = _; rw [take_next HN.out hlt2 HS.out, riseB_snoc, lastK_take HN.out (by omega) HTT.out, HT.out, decide_eq_true (by omega)]; rfl, hbel.trans (Joins.below_draws _ _ _)⟩
                  case measure => simp [intOf]; omega
              · have y0 := (hbel.cell (p := ⟨P, q, none⟩) hPl).trans p0
                obtain rfl : r = 0 := by
                  have := HT.out
                  rw [take_all HN.out hlt2] at this
                  rw [HR.out]; exact ruleR_ok HN.out HB1.out.symm HALL.out HKB.out.symm HKC.out.symm this
                have hki : ¬ (j : Int) + 1 < (n : Int) := by omega
                go_wp2
                go_ret
                exact ⟨rfl, hbel⟩

set_option maxHeartbeats 400000 in
theorem l3Among_any (a : Option Addr) (n cap : Nat) (gs : List (Int × Int)) (p q : Int) (w : World) (hl : n ≤ maxLen) (hs : GAt w a n gs) :
    Calls Tryz.prog 73 #[.slice a n cap, .agg #[.int .i64 p, .int .i64 q]] w fun e w' => e = .returned (.bool (memB gs (p, q))) ∧ Below w.heap.size w w' := by
  unfold maxLen at hl
  obtain ⟨hn, hs⟩ := hs
  rcases hs with rfl | ⟨b, off, rfl, hb, hc⟩
  · obtain rfl : gs = [] := List.length_eq_zero_iff.1 hn
    go_enter Tryz.func73, Tryz.ntmps73
    go_wp2
    refine wp_loop_rounds 1 ?_
    rw [rounds_succ]
    go_wp2
    go_ret
    exact ⟨rfl, (Below.refl _ _).alloc (Nat.le_refl _) _⟩
  · have HN : Hid (gs.length = n) := hn
    clear hn
    go_enter Tryz.func73, Tryz.ntmps73
    go_wp2
    go_loopw [5] (fun i wr => ∃ k : Nat, k ≤ n ∧ i = .int .i64 k ∧ Hid ((p, q) ∉ gs.take k) ∧ wr.cell? ⟨w.heap.size, 0, none⟩ = some (.int .i64 p) ∧ wr.cell? ⟨w.heap.size, 1, none⟩ = some (.int .i64 q) ∧ Below w.heap.size w wr) (fun i _ => n - (intOf i).toNat)
    case atStart => exact ⟨0, Nat.zero_le _, rfl, by show (p, q) ∉ _; simp, by simp, by simp, (Below.refl _ _).alloc (Nat.le_refl _) _⟩
    case round =>
      obtain ⟨k, hk, rfl, hj, hp, hq, hbel⟩ := hrel
      by_cases hlt : k < n
      · obtain ⟨g, hg⟩ : ∃ g, g = gs.getD k G0 := ⟨_, rfl⟩
        have hcx := hc k hlt
        rw [← hg] at hcx
        obtain ⟨g1, g2⟩ := g
        have c0 := (hbel.cell (p := ⟨b, off + k * 2, none⟩) hb).trans hcx.1
        have c1 := (hbel.cell (p := ⟨b, off + k * 2 + 1, none⟩) hb).trans hcx.2
        have HG : Hid ((g1, g2) = gs.getD k G0) := hg
        clear hg hc hcx
        have hki : (k : Int) < (n : Int) := by omega
        by_cases h1 : g1 = p
        · have e1 : (g1 == p) = true := by simp [h1]
          have H1 : Hid (g1 = p) := h1
          clear h1
          by_cases h2 : g2 = q
          · have e2 : (g2 == q) = true := by simp [h2]
            have H2 : Hid (g2 = q) := h2
            clear h2
            go_wp2
            go_quiet (fail)
            go_wp2
            go_ret
            refine ⟨?_, hbel.trans (Joins.below_draws _ _ _)⟩
            have hm : memB gs (p, q) = true := by
              unfold memB
              rw [num_hit gs (p, q) G0 k (by rw [HN.out]; exact hlt) (by rw [← HG.out, H1.out, H2.out]) hj.out]
              simp
            rw [hm]; rfl
          · have e2 : (g2 == q) = false := by simp [h2]
            have H2 : Hid (¬ (g1, g2) = (p, q)) := fun e => h2 (by simpa using congrArg Prod.snd e)
            clear h2
            go_wp2
            go_quiet (fail)
            go_wp2
            go_roundw
            case rel => exact ⟨k + 1, by omega, by go_num, signed_more HN.out hlt hj.out HG.out H2.out, by simpa using hp, by simpa using hq, hbel.trans (Joins.below_draws _ _ _)⟩
            case measure => simp [intOf]; omega
        · have e1 : (g1 == p) = false := by simp [h1]
          have H2 : Hid (¬ (g1, g2) = (p, q)) := fun e => h1 (by simpa using congrArg Prod.fst e)
          clear h1
          go_wp2
          go_quiet (fail)
          go_wp2
          go_roundw
          case rel => exact ⟨k + 1, by omega, by go_num, signed_more HN.out hlt hj.out HG.out H2.out, by simpa using hp, by simpa using hq, hbel.trans (Joins.below_draws _ _ _)⟩
          case measure => simp [intOf]; omega
      · go_wp2
        go_ret
        refine ⟨?_, hbel⟩
        have hm : memB gs (p, q) = false := by
          unfold memB
          rw [(num_zero gs (p, q)).2 (by have := hj.out; rwa [List.take_of_length_le (by rw [HN.out]; omega)] at this)]
          rfl
        rw [hm]; rfl

def refB (r : Int × Int) : Bool := inB r.1 1 60 && inB r.2 0 3

theorem l3Ref_any (a b : Int) (w : World) : Calls Tryz.prog 72 #[.agg #[.int .i64 a, .int .i64 b]] w fun e w' => e = .returned (.bool (refB (a, b))) ∧ Below w.heap.size w w' := by
  obtain ⟨ka, hka⟩ : ∃ k, k = inB a 1 60 := ⟨_, rfl⟩
  obtain ⟨kb, hkb⟩ : ∃ k, k = inB b 0 3 := ⟨_, rfl⟩
  have hr : refB (a, b) = (ka && kb) := by rw [hka, hkb]; rfl
  have h1 : ∀ v, Calls Tryz.prog 47 #[.int .i64 a, .int .i64 1, .int .i64 60] v fun e w' => e = .returned (.bool ka) ∧ w' = v := fun v => by rw [hka]; exact l1In_any _ _ _ v
  have h2 : ∀ v, Calls Tryz.prog 47 #[.int .i64 b, .int .i64 0, .int .i64 3] v fun e w' => e = .returned (.bool kb) ∧ w' = v := fun v => by rw [hkb]; exact l1In_any _ _ _ v
  rw [hr]
  clear hka hkb hr
  have hbx : Below w.heap.size w (w.alloc (.cells #[.int .i64 a, .int .i64 b] 115)) := below_box _
  cases ka <;> cases kb
  all_goals
    go_enter Tryz.func72, Tryz.ntmps72
    go_wp2_with (go_at_call 47; (first | (refine (h1 _).mono ?_; clear h1) | (refine (h2 _).mono ?_; clear h2)); rintro e w' ⟨rfl, hw⟩; have hw2 := hw.symm; subst hw2)
    go_ret
    exact ⟨rfl, hbx⟩

def outsR : List Ou → Int
  | [] => 0
  | o :: t => if inB o.v 1 1000000 = false then 3 else if ruleR o.l o.x o.y ≠ 0 then ruleR o.l o.x o.y else outsR t

theorem drop_next {os : List Ou} {n k : Nat} (hn : os.length = n) (hk : k < n) {o : Ou} (ho : o = os.getD k O0) : os.drop k = o :: os.drop (k + 1) := by
  rw [List.drop_eq_getElem_cons (show k < os.length by omega)]
  congr 1
  rw [ho, List.getD, List.getElem?_eq_getElem (by omega)]
  rfl
theorem drop_none {os : List Ou} {n k : Nat} (hn : os.length = n) (hk : ¬ k < n) : outsR (os.drop k) = 0 := by rw [List.drop_of_length_le (by omega)]; rfl

def joinR (k : Int) (os : List Ou) : Int := if outsR os ≠ 0 then outsR os else if k = 1 ∧ (os.getD 0 O0).v < 100 then 8 else 0

set_option maxHeartbeats 1000000 in
theorem l3Outs_any (P m d : Nat) (oa : Option Addr) (os : List Ou) (k : Int) (w : World) (hm1 : 1 ≤ m) (hm : m ≤ 1048576) (hk : ∀ j, j < m → (os.getD j O0).l.length ≤ 1048576) (hO : OAt w oa m os) (hPl : P < w.heap.size) (hK : w.cell? ⟨P, 0, none⟩ = some (.int .i64 k)) (hS : w.cell? ⟨P, 3, none⟩ = some (.slice oa m d)) :
    Calls Tryz.prog 74 #[.pointer (some ⟨P, 0, none⟩)] w fun e w' => e = .returned (.int .i64 (joinR k os)) ∧ Below w.heap.size w w' := by
  have HO : Hid (OAt w oa m os) := hO
  have HN : Hid (os.length = m) := hO.1
  have HKL : Hid (∀ j, j < m → (os.getD j O0).l.length ≤ 1048576) := hk
  obtain ⟨r, hr⟩ : ∃ r, r = joinR k os := ⟨_, rfl⟩
  rw [← hr]
  have HR : Hid (r = joinR k os) := hr
  clear hO hk hr
  go_enter Tryz.func74, Tryz.ntmps74
  go_wp2
  go_loopw [3] (fun i wr => ∃ j : Nat, j ≤ m ∧ i = .int .i64 j ∧ Below w.heap.size w wr ∧ Hid (outsR os = outsR (os.drop j))) (fun i _ => m - (intOf i).toNat)
  case atStart => exact ⟨0, Nat.zero_le _, rfl, Below.refl _ _, by show _ = _; simp⟩
  case round =>
    obtain ⟨j, hj, rfl, hbel, HT⟩ := hrel
    have y0 := (hbel.cell (p := ⟨P, 0, none⟩) hPl).trans hK
    have y3 := (hbel.cell (p := ⟨P, 3, none⟩) hPl).trans hS
    rcases HO.out.2 with h0 | ⟨b, off, e0, l0, d0⟩
    · omega
    subst e0
    by_cases hlt : j < m
    · obtain ⟨o, ho⟩ : ∃ o, o = os.getD j O0 := ⟨_, rfl⟩
      obtain ⟨ka, kn, kc, p0, p1, p2, p3, p4, p5⟩ := d0 j hlt
      have hol := HKL.out j hlt
      rw [← ho] at p0 p2 p3 p5 hol
      have HS : Hid (o = os.getD j O0) := ho
      obtain ⟨ov, ol, ox, oy⟩ := o
      obtain rfl := p5.1
      have x0 := (hbel.cell (p := ⟨b, off + j * 4, none⟩) l0).trans p0
      have x1 := (hbel.cell (p := ⟨b, off + j * 4 + 1, none⟩) l0).trans p1
      have x2 := (hbel.cell (p := ⟨b, off + j * 4 + 2, none⟩) l0).trans p2
      have x3 := (hbel.cell (p := ⟨b, off + j * 4 + 3, none⟩) l0).trans p3
      obtain ⟨cd, hcd⟩ : ∃ c, c = ruleR ol ox oy := ⟨_, rfl⟩
      have hlf := l2FaultAt_any b (off + j * 4 + 1) ol.length kc ka ol ox oy wr hol (p5.below hbel (Nat.le_refl _)) (Nat.lt_of_lt_of_le l0 hbel.size) x1 x2 x3
      rw [← hcd] at hlf
      have HCD : Hid (cd = ruleR ol ox oy) := hcd
      obtain ⟨kv, hkv⟩ : ∃ k, k = inB ov 1 1000000 := ⟨_, rfl⟩
      have hin : ∀ v, Calls Tryz.prog 47 #[.int .i64 ov, .int .i64 1, .int .i64 1000000] v fun e w' => e = .returned (.bool kv) ∧ w' = v := fun v => by rw [hkv]; exact l1In_any _ _ _ v
      have HKV : Hid (kv = inB ov 1 1000000) := hkv
      simp only at x0 x2 x3
      have HNX : Hid (os.drop j = (⟨ov, ol, ox, oy⟩ : Ou) :: os.drop (j + 1)) := drop_next HN.out hlt HS.out
      clear ho d0 p0 p1 p2 p3 p4 p5 hol hcd hkv x1
      have hki : (j : Int) < (m : Int) := by omega
      cases kv
      · obtain rfl : r = 3 := by rw [HR.out, joinR, HT.out, HNX.out, outsR, if_pos HKV.out.symm]; rfl
        go_wp2_with (go_at_call 47; refine (hin _).mono ?_; rintro e w' ⟨rfl, hw⟩; have hw2 := hw.symm; subst hw2)
        go_ret
        exact ⟨rfl, hbel⟩
      · by_cases hc0 : cd = 0
        · have HTN : Hid (outsR os = outsR (os.drop (j + 1))) := by
            show _ = _
            rw [HT.out, HNX.out, outsR, if_neg (by rw [← HKV.out]; simp), if_neg (by rw [← HCD.out, hc0]; simp)]
          go_wp2_with (first | (go_at_call 47; refine (hin _).mono ?_; rintro e w' ⟨rfl, hw⟩; have hw2 := hw.symm; subst hw2) | (go_at_call 71; refine hlf.mono ?_; rintro e w3 ⟨rfl, hb3⟩))
          go_roundw
          case rel => exact ⟨j + 1, by omega, by go_num, hbel.trans (hb3.mono hbel.size), HTN⟩
          case measure => simp [intOf]; omega
        · have e1 : outsR os = cd := by rw [HT.out, HNX.out, outsR, if_neg (by rw [← HKV.out]; simp), if_pos (by rw [← HCD.out]; exact hc0), ← HCD.out]
          obtain rfl : r = cd := by rw [HR.out, joinR, e1, if_pos hc0]
          clear e1
          go_wp2_with (first | (go_at_call 47; refine (hin _).mono ?_; rintro e w' ⟨rfl, hw⟩; have hw2 := hw.symm; subst hw2) | (go_at_call 71; refine hlf.mono ?_; rintro e w3 ⟨rfl, hb3⟩))
          go_ret
          exact ⟨rfl, hbel.trans (hb3.mono hbel.size)⟩
    · obtain ⟨ka, kn, kc, p0, _⟩ := d0 0 (by omega)
      obtain ⟨ov, hov⟩ : ∃ v, v = (os.getD 0 O0).v := ⟨_, rfl⟩
      rw [← hov] at p0
      simp only [Nat.zero_mul, Nat.add_zero] at p0
      have x0 := (hbel.cell (p := ⟨b, off, none⟩) l0).trans p0
      have HOV : Hid (ov = (os.getD 0 O0).v) := hov
      have HZ : Hid (outsR os = 0) := by show _ = _; rw [HT.out]; exact drop_none HN.out hlt
      clear d0 p0 hov
      have hmi : 0 < (m : Int) := by omega
      by_cases hk1 : k = 1
      · subst hk1
        by_cases hv : ov < 100
        · obtain rfl : r = 8 := by rw [HR.out, joinR, HZ.out, if_neg (by simp), if_pos ⟨rfl, by rw [← HOV.out]; exact hv⟩]
          go_wp2
          go_ret
          exact ⟨rfl, hbel⟩
        · obtain rfl : r = 0 := by rw [HR.out, joinR, HZ.out, if_neg (by simp), if_neg (by rw [← HOV.out]; intro h; exact hv h.2)]
          go_wp2
          go_ret
          exact ⟨rfl, hbel⟩
      · obtain rfl : r = 0 := by rw [HR.out, joinR, HZ.out, if_neg (by simp), if_neg (fun h => hk1 h.1)]
        have hkb : (k == 1) = false := by simpa using hk1
        go_wp2
        go_ret
        exact ⟨rfl, hbel⟩

end Go.Proofs.YtppfhepipadepaaGreatDoor

namespace Go.Proofs.YtppfhepipadepaaGreatDoor
open Go.RowKit Go.Maps Go.WideMaps

def refsR : List (Int × Int) → List (Int × Int) → Int
  | _, [] => 0
  | seen, r :: t => if refB r = false then 3 else if memB seen r = true then 7 else refsR (seen ++ [r]) t

def txR (k f : Int) (rs : List (Int × Int)) (os : List Ou) : Int :=
  if inB k 0 2 = false ∨ ¬ (k = 0 ↔ f = 0) then 1 else if k ≠ 0 ∧ inB f 1 999 = false then 3 else if inB rs.length 1 4 = false ∨ inB os.length 1 4 = false then 2
  else if refsR [] rs ≠ 0 then refsR [] rs else joinR k os

section
variable {k f : Int} {rs : List (Int × Int)} {os : List Ou} {n m : Nat}
theorem txR_form (h : inB k 0 2 = false ∨ ¬ (k = 0 ↔ f = 0)) : txR k f rs os = 1 := by unfold txR; rw [if_pos h]
theorem txR_range (h : inB k 0 2 = true) (h1 : k = 0 ↔ f = 0) (h2 : k ≠ 0) (h3 : inB f 1 999 = false) : txR k f rs os = 3 := by unfold txR; rw [if_neg (by simp [h, h1]), if_pos ⟨h2, h3⟩]
theorem txR_many (hn : rs.length = n) (hm : os.length = m) (h : inB k 0 2 = true) (h1 : k = 0 ↔ f = 0) (h2 : ¬ (k ≠ 0 ∧ inB f 1 999 = false)) (h3 : inB n 1 4 = false ∨ inB m 1 4 = false) : txR k f rs os = 2 := by unfold txR; rw [if_neg (by simp [h, h1]), if_neg h2, hn, hm, if_pos h3]
theorem txR_rest (hn : rs.length = n) (hm : os.length = m) (h : inB k 0 2 = true) (h1 : k = 0 ↔ f = 0) (h2 : ¬ (k ≠ 0 ∧ inB f 1 999 = false)) (h3 : inB n 1 4 = true) (h4 : inB m 1 4 = true) : txR k f rs os = if refsR [] rs ≠ 0 then refsR [] rs else joinR k os := by unfold txR; rw [if_neg (by simp [h, h1]), if_neg h2, hn, hm, if_neg (by simp [h3, h4])]

theorem rs_next (hn : rs.length = n) {j : Nat} (hj : j < n) {g : Int × Int} (hg : g = rs.getD j G0) : rs.drop j = g :: rs.drop (j + 1) ∧ rs.take (j + 1) = rs.take j ++ [g] := by
  have e1 : rs[j]? = some g := by rw [hg, List.getD, List.getElem?_eq_getElem (by omega)]; rfl
  refine ⟨?_, take_more e1⟩
  rw [List.drop_eq_getElem_cons (show j < rs.length by omega)]
  congr 1
  have := List.getElem?_eq_getElem (show j < rs.length by omega)
  rw [e1] at this
  simpa using this.symm
theorem refs_go (hn : rs.length = n) {j : Nat} (hj : j < n) {g : Int × Int} (hg : g = rs.getD j G0) (h : refsR [] rs = refsR (rs.take j) (rs.drop j)) (h1 : refB g = true) (h2 : memB (rs.take j) g = false) : Hid (refsR [] rs = refsR (rs.take (j + 1)) (rs.drop (j + 1))) := by
  show _ = _
  obtain ⟨e1, e2⟩ := rs_next hn hj hg
  rw [h, e1, refsR, if_neg (by simp [h1]), if_neg (by simp [h2]), e2]
theorem refs_bad (hn : rs.length = n) {j : Nat} (hj : j < n) {g : Int × Int} (hg : g = rs.getD j G0) (h : refsR [] rs = refsR (rs.take j) (rs.drop j)) (h1 : refB g = false) : refsR [] rs = 3 := by
  obtain ⟨e1, e2⟩ := rs_next hn hj hg
  rw [h, e1, refsR, if_pos h1]
theorem refs_taken (hn : rs.length = n) {j : Nat} (hj : j < n) {g : Int × Int} (hg : g = rs.getD j G0) (h : refsR [] rs = refsR (rs.take j) (rs.drop j)) (h1 : refB g = true) (h2 : memB (rs.take j) g = true) : refsR [] rs = 7 := by
  obtain ⟨e1, e2⟩ := rs_next hn hj hg
  rw [h, e1, refsR, if_neg (by simp [h1]), if_pos h2]
theorem refs_done (hn : rs.length = n) {j : Nat} (hj : ¬ j < n) (h : refsR [] rs = refsR (rs.take j) (rs.drop j)) : refsR [] rs = 0 := by
  rw [h, List.drop_of_length_le (by omega)]; rfl
end

set_option maxRecDepth 20000 in
set_option maxHeartbeats 4000000 in
theorem l3Fault_any (P n c m d : Nat) (ia oa : Option Addr) (k f : Int) (rs : List (Int × Int)) (os : List Ou) (w : World) (hn : n ≤ 1048576) (hm : m ≤ 1048576) (hc1 : n ≤ c) (hc2 : c ≤ maxLen) (hk : ∀ j, j < m → (os.getD j O0).l.length ≤ 1048576) (h : TxAt w ia n oa m rs os)
    (hP : w.heap[P]? = some (.cells #[.int .i64 k, .int .i64 f, .slice ia n c, .slice oa m d] 30 (0, 0))) :
    Calls Tryz.prog 54 #[.pointer (some ⟨P, 0, none⟩)] w fun e w' => e = .returned (.int .i64 (txR k f rs os)) ∧ Below w.heap.size w w' := by
  unfold maxLen at hc2
  obtain ⟨p0, p1, p2, p3, _⟩ := cells4 hP
  have hPl := lt_of_block hP
  have HP : Hid (w.heap[P]? = some (.cells #[.int .i64 k, .int .i64 f, .slice ia n c, .slice oa m d] 30 (0, 0))) := hP
  have HR : Hid (GAt w ia n rs) := h.r
  have HO : Hid (OAt w oa m os) := h.o
  have HN : Hid (rs.length = n) := h.r.1
  have HM : Hid (os.length = m) := h.o.1
  have HK : Hid (∀ j, j < m → (os.getD j O0).l.length ≤ 1048576) := hk
  obtain ⟨r, hr⟩ : ∃ r, r = txR k f rs os := ⟨_, rfl⟩
  rw [← hr]
  have HV : Hid (r = txR k f rs os) := hr
  obtain ⟨b1, hb1⟩ : ∃ b, b = inB k 0 2 := ⟨_, rfl⟩
  obtain ⟨bf, hbf⟩ : ∃ b, b = inB f 1 999 := ⟨_, rfl⟩
  obtain ⟨bn, hbn⟩ : ∃ b, b = inB n 1 4 := ⟨_, rfl⟩
  obtain ⟨bm, hbm⟩ : ∃ b, b = inB m 1 4 := ⟨_, rfl⟩
  have h1 : ∀ v, Calls Tryz.prog 47 #[.int .i64 k, .int .i64 0, .int .i64 2] v fun e w' => e = .returned (.bool b1) ∧ w' = v := fun v => by rw [hb1]; exact l1In_any _ _ _ v
  have h2 : ∀ v, Calls Tryz.prog 46 #[.int .i64 f] v fun e w' => e = .returned (.bool bf) ∧ w' = v := fun v => by rw [hbf]; exact l1Key_any _ v
  have h3 : ∀ v, Calls Tryz.prog 47 #[.int .i64 n, .int .i64 1, .int .i64 4] v fun e w' => e = .returned (.bool bn) ∧ w' = v := fun v => by rw [hbn]; exact l1In_any _ _ _ v
  have h4 : ∀ v, Calls Tryz.prog 47 #[.int .i64 m, .int .i64 1, .int .i64 4] v fun e w' => e = .returned (.bool bm) ∧ w' = v := fun v => by rw [hbm]; exact l1In_any _ _ _ v
  have HB1 : Hid (b1 = inB k 0 2) := hb1
  have HBF : Hid (bf = inB f 1 999) := hbf
  have HBN : Hid (bn = inB n 1 4) := hbn
  have HBM : Hid (bm = inB m 1 4) := hbm
  clear hP h hk hr hb1 hbf hbn hbm
  cases b1
  · obtain rfl : r = 1 := by rw [HV.out]; exact txR_form (.inl HB1.out.symm)
    go_enter Tryz.func54, Tryz.ntmps54
    go_wp2
    go_quiet (first | (go_at_call 47; refine Calls.quiet_of_same (h1 _)))
    go_wp2
    go_ret
    exact ⟨rfl, Joins.below_draws _ _ _⟩
  by_cases hiff : ¬ (k = 0 ↔ f = 0)
  · obtain rfl : r = 1 := by rw [HV.out]; exact txR_form (.inr hiff)
    by_cases hk0 : k = 0
    · have hf0 : ¬ f = 0 := fun e => hiff ⟨fun _ => e, fun _ => hk0⟩
      have hfb : (f == 0) = false := by simpa using hf0
      subst hk0
      go_enter Tryz.func54, Tryz.ntmps54
      go_wp2
      go_quiet (first | (go_at_call 47; refine Calls.quiet_of_same (h1 _)))
      go_wp2
      go_ret
      exact ⟨rfl, Joins.below_draws _ _ _⟩
    · have hf0 : f = 0 := Classical.not_not.1 fun e => hiff ⟨fun h => absurd h hk0, fun h => absurd h e⟩
      have hkb : (k == 0) = false := by simpa using hk0
      subst hf0
      go_enter Tryz.func54, Tryz.ntmps54
      go_wp2
      go_quiet (first | (go_at_call 47; refine Calls.quiet_of_same (h1 _)))
      go_wp2
      go_ret
      exact ⟨rfl, Joins.below_draws _ _ _⟩
  replace hiff : k = 0 ↔ f = 0 := Classical.not_not.1 hiff
  by_cases hrg : k ≠ 0 ∧ bf = false
  · obtain ⟨hk0, rfl⟩ := hrg
    obtain rfl : r = 3 := by rw [HV.out]; exact txR_range HB1.out.symm hiff hk0 HBF.out.symm
    have hkb : (k == 0) = false := by simpa using hk0
    have hfb : (f == 0) = false := by simpa using fun e => hk0 (hiff.2 e)
    have hf0 : ¬ f = 0 := fun e => hk0 (hiff.2 e)
    clear hiff
    go_enter Tryz.func54, Tryz.ntmps54
    go_wp2
    go_quiet (first | (go_at_call 47; refine Calls.quiet_of_same (h1 _)))
    go_wp2_with (first | (go_at_call 46; refine (h2 _).mono ?_; rintro e w' ⟨rfl, hw⟩; have hw2 := hw.symm; subst hw2))
    go_ret
    exact ⟨rfl, Joins.below_draws _ _ _⟩
  have HRG : Hid (¬ (k ≠ 0 ∧ inB f 1 999 = false)) := by show ¬ _; rw [← HBF.out]; exact hrg
  have HIF : Hid (k = 0 ↔ f = 0) := hiff
  by_cases hmn : bn = false ∨ bm = false
  · obtain rfl : r = 2 := by rw [HV.out]; exact txR_many HN.out HM.out HB1.out.symm HIF.out HRG.out (by rw [← HBN.out, ← HBM.out]; exact hmn)
    have hmn2 : bn = false ∨ bn = true ∧ bm = false := by rcases hmn with h | h <;> cases bn <;> simp_all
    clear hmn
    by_cases hk0 : k = 0
    · obtain rfl : f = 0 := hiff.1 hk0
      subst hk0
      clear hiff hrg
      rcases hmn2 with rfl | ⟨rfl, rfl⟩
      all_goals
        go_enter Tryz.func54, Tryz.ntmps54
        go_wp2
        go_quiet (first | (go_at_call 47; refine Calls.quiet_of_same (h1 _)))
        go_wp2_with (first | (go_at_call 47; (first | (with_reducible refine (h3 _).mono ?_; skip) | (with_reducible refine (h4 _).mono ?_; skip)); rintro e w' ⟨rfl, hw⟩; have hw2 := hw.symm; subst hw2))
        go_ret
        exact ⟨rfl, Joins.below_draws _ _ _⟩
    · have hkb : (k == 0) = false := by simpa using hk0
      have hf0 : ¬ f = 0 := fun e => hk0 (hiff.2 e)
      have hfb : (f == 0) = false := by simpa using hf0
      obtain rfl : bf = true := by cases bf; exact absurd ⟨hk0, rfl⟩ hrg; rfl
      clear hiff hrg
      rcases hmn2 with rfl | ⟨rfl, rfl⟩
      all_goals
        go_enter Tryz.func54, Tryz.ntmps54
        go_wp2
        go_quiet (first | (go_at_call 47; refine Calls.quiet_of_same (h1 _)))
        go_wp2_with (first | (go_at_call 46; refine (h2 _).mono ?_; rintro e w' ⟨rfl, hw⟩; have hw2 := hw.symm; subst hw2) | (go_at_call 47; (first | (with_reducible refine (h3 _).mono ?_; skip) | (with_reducible refine (h4 _).mono ?_; skip)); rintro e w' ⟨rfl, hw⟩; have hw2 := hw.symm; subst hw2))
        go_ret
        exact ⟨rfl, Joins.below_draws _ _ _⟩
  obtain rfl : bn = true := by cases bn <;> simp_all
  obtain rfl : bm = true := by cases bm <;> simp_all
  have HREST : Hid (r = if refsR [] rs ≠ 0 then refsR [] rs else joinR k os) := by show _ = _; rw [HV.out]; exact txR_rest HN.out HM.out HB1.out.symm HIF.out HRG.out HBN.out.symm HBM.out.symm
  have hn4 := inB_true.1 HBN.out.symm
  have hm4 := inB_true.1 HBM.out.symm
  clear hmn HV
  rcases (show (k = 0 ∧ f = 0) ∨ ((k == 0) = false ∧ (f == 0) = false ∧ ¬ k = 0 ∧ ¬ f = 0 ∧ bf = true) by
    by_cases hk0 : k = 0
    · exact .inl ⟨hk0, hiff.1 hk0⟩
    · have hf0 : ¬ f = 0 := fun e => hk0 (hiff.2 e)
      refine .inr ⟨by simpa using hk0, by simpa using hf0, hk0, hf0, ?_⟩
      cases bf
      · exact absurd ⟨hk0, rfl⟩ hrg
      · rfl) with ⟨rfl, rfl⟩ | ⟨hkb, hfb, hk0, hf0, rfl⟩
  all_goals
    clear hiff hrg
    go_enter Tryz.func54, Tryz.ntmps54
    go_wp2
    go_quiet (first | (go_at_call 47; refine Calls.quiet_of_same (h1 _)))
    go_wp2_with (first | (go_at_call 46; refine (h2 _).mono ?_; rintro e w' ⟨rfl, hw⟩; have hw2 := hw.symm; subst hw2) | (go_at_call 47; (first | (with_reducible refine (h3 _).mono ?_; skip) | (with_reducible refine (h4 _).mono ?_; skip)); rintro e w' ⟨rfl, hw⟩; have hw2 := hw.symm; subst hw2))
    clear h1 h2 h3 h4
    go_loopw [3] (fun i wr => ∃ j : Nat, j ≤ n ∧ i = .int .i64 j ∧ Below w.heap.size w wr ∧ Hid (refsR [] rs = refsR (rs.take j) (rs.drop j))) (fun i _ => n - (intOf i).toNat)
    case atStart => exact ⟨0, Nat.zero_le _, rfl, Joins.below_draws _ _ _, by show _ = _; simp⟩
    case round =>
      obtain ⟨j, hj, rfl, hbel, HT⟩ := hrel
      have y2 := (hbel.cell (p := ⟨P, 2, none⟩) hPl).trans p2
      by_cases hlt : j < n
      · rcases HR.out.2 with h0 | ⟨b, off, ha, hb, hc⟩
        · omega
        subst ha
        obtain ⟨g, hg⟩ : ∃ g, g = rs.getD j G0 := ⟨_, rfl⟩
        have hcx := hc j hlt
        rw [← hg] at hcx
        obtain ⟨g1, g2⟩ := g
        have c0 := (hbel.cell (p := ⟨b, off + j * 2, none⟩) hb).trans hcx.1
        have c1 := (hbel.cell (p := ⟨b, off + j * 2 + 1, none⟩) hb).trans hcx.2
        have HG : Hid ((g1, g2) = rs.getD j G0) := hg
        have hki : (j : Int) < (n : Int) := by omega
        have hkc : (j : Int) ≤ (c : Int) := by omega
        have hkm : j ≤ maxLen := by unfold maxLen; omega
        obtain ⟨kr, hkr⟩ : ∃ b, b = refB (g1, g2) := ⟨_, rfl⟩
        have hrf := l3Ref_any g1 g2 wr
        rw [← hkr] at hrf
        have HKR : Hid (kr = refB (g1, g2)) := hkr
        clear hg hc hcx hkr
        cases kr
        · obtain rfl : r = 3 := by have e1 := refs_bad HN.out hlt HG.out HT.out HKR.out.symm; rw [HREST.out, e1]; rfl
          go_wp2_with (first | (go_at_call 72; refine hrf.mono ?_; rintro e w2 ⟨rfl, hb2⟩))
          go_ret
          exact ⟨rfl, hbel.trans (hb2.mono hbel.size)⟩
        · obtain ⟨mb, hmb⟩ : ∃ b, b = memB (rs.take j) (g1, g2) := ⟨_, rfl⟩
          have HMB : Hid (memB (rs.take j) (g1, g2) = mb) := hmb.symm
          clear hmb
          go_wp2_with (first | (go_at_call 72; refine hrf.mono ?_; rintro e w2 ⟨rfl, hb2⟩; have hbw : Below w.heap.size w w2 := hbel.trans (hb2.mono hbel.size); have z2 := (hbw.cell (p := ⟨P, 2, none⟩) hPl).trans p2; have x0 := (hb2.cell (p := ⟨b, off + j * 2, none⟩) (Nat.lt_of_lt_of_le hb hbel.size)).trans c0; have x1 := (hb2.cell (p := ⟨b, off + j * 2 + 1, none⟩) (Nat.lt_of_lt_of_le hb hbel.size)).trans c1; clear hb2))
          have hPw : P < w2.heap.size := Nat.lt_of_lt_of_le hPl hbw.size
          have hbw2 : b < w2.heap.size := Nat.lt_of_lt_of_le hb hbw.size
          have ham : Calls Tryz.prog 73 #[.slice (some ⟨b, off, none⟩) j c, .agg #[.int .i64 g1, .int .i64 g2]] w2.drew fun e w' => e = .returned (.bool mb) ∧ Below w2.heap.size w2 w' := by
            have := l3Among_any (some ⟨b, off, none⟩) j c (rs.take j) g1 g2 w2.drew hkm (((HR.out.below hbw (Nat.le_refl _)).take hj).below (Below.refl _ _).drew (Nat.le_refl _))
            rw [HMB.out] at this
            exact this.mono fun e w' h => ⟨h.1, (Below.refl _ _).drew.trans h.2⟩
          go_region_held3 (fun w' => w'.cell? ⟨P, 2, none⟩ = some (.slice (some ⟨b, off, none⟩) n c) ∧ w'.cell? ⟨b, off + j * 2, none⟩ = some (.int .i64 g1) ∧ w'.cell? ⟨b, off + j * 2 + 1, none⟩ = some (.int .i64 g2)) (go_keep)
            (first | (go_at_call 73; refine ham.mono ?_; rintro e w3 ⟨rfl, hb3⟩; have q1 := (hb3.cell (p := ⟨P, 2, none⟩) hPw).trans z2; have q2 := (hb3.cell (p := ⟨b, off + j * 2, none⟩) hbw2).trans x0; have q3 := (hb3.cell (p := ⟨b, off + j * 2 + 1, none⟩) hbw2).trans x1))
          cases mb
          · go_wp2
            go_roundw
            case rel => exact ⟨j + 1, by omega, by go_num, hbw.trans (hb3.mono hbw.size), refs_go HN.out hlt HG.out HT.out HKR.out.symm HMB.out⟩
            case measure => simp [intOf]; omega
          · obtain rfl : r = 7 := by have e1 := refs_taken HN.out hlt HG.out HT.out HKR.out.symm HMB.out; rw [HREST.out, e1]; rfl
            go_wp2
            go_ret
            exact ⟨rfl, hbw.trans (hb3.mono hbw.size)⟩
      · have y0 := (hbel.cell (p := ⟨P, 0, none⟩) hPl).trans p0
        have y3 := (hbel.cell (p := ⟨P, 3, none⟩) hPl).trans p3
        have hlo := l3Outs_any P m d oa os _ wr (by omega) hm HK.out (HO.out.below hbel (Nat.le_refl _)) (Nat.lt_of_lt_of_le hPl hbel.size) y0 y3
        have e1 := refs_done HN.out hlt HT.out
        have e2 := HREST.out
        rw [e1, if_neg (by simp)] at e2
        rw [← e2] at hlo
        clear e1 e2
        go_wp2_with (first | (go_at_call 74; refine hlo.mono ?_; rintro e w2 ⟨rfl, hb2⟩))
        go_ret
        exact ⟨rfl, hbel.trans (hb2.mono hbel.size)⟩

end Go.Proofs.YtppfhepipadepaaGreatDoor

namespace Go.Proofs.YtppfhepipadepaaGreatDoor
open Go.RowKit Go.Shelf Go.Maps Go.WideMaps

theorem digits_big {k : Int} (h0 : 0 ≤ k) (h1 : k ≤ 1000000) (w : World) : Calls Tryz.prog 75 #[.int .i64 k] w fun e w' => e = .returned (.string (str (dec k))) ∧ Below w.heap.size w w' := by
  obtain ⟨n, rfl⟩ := Int.eq_ofNat_of_zero_le h0
  exact l2Digits_any n (by omega) w
theorem dec_big {k : Int} (h : k ≤ 1000000) : (dec k).length ≤ 10 := digits_len _ (by omega)

def kindT (k : Int) : List UInt8 := if k = 0 then [112, 97, 121] else if k = 1 then [106, 111, 105, 110, 32] else [108, 101, 97, 118, 101, 32]
def headT (k f : Int) : List UInt8 := kindT k ++ (if k = 0 then [] else dec f)
def refT (r : Int × Int) : List UInt8 := dec r.1 ++ (58 :: dec r.2)
def refsT : List (Int × Int) → List UInt8
  | [] => []
  | r :: t => 32 :: (refT r ++ t.flatMap fun r => 43 :: refT r)
def outT (o : Ou) : List UInt8 := 32 :: (dec o.v ++ (61 :: (rtxR o.l o.x o.y).map swp))
def txT (k f : Int) (rs : List (Int × Int)) (os : List Ou) : List UInt8 := headT k f ++ refsT rs ++ os.flatMap outT

theorem refsT_snoc (l : List (Int × Int)) (r : Int × Int) : refsT (l ++ [r]) = refsT l ++ ((if l.length = 0 then 32 else 43) :: refT r) := by
  cases l with
  | nil => simp [refsT]
  | cons a t => simp [refsT]

structure OutOk (o : Ou) : Prop where
  v : 0 ≤ o.v ∧ o.v ≤ 1000000
  n : 1 ≤ o.l.length ∧ o.l.length ≤ 3
  x : 0 ≤ o.x ∧ o.x ≤ 999
  y : 0 ≤ o.y ∧ o.y ≤ 999
  k : ∀ j, j < o.l.length → 0 ≤ o.l.getD j 0 ∧ o.l.getD j 0 ≤ 999
structure TxOk (k f : Int) (rs : List (Int × Int)) (os : List Ou) : Prop where
  k : k = 0 ∨ k = 1 ∨ k = 2
  f : 0 ≤ f ∧ f ≤ 999
  n : rs.length ≤ 4
  m : os.length ≤ 4
  r : ∀ j, j < rs.length → (0 ≤ (rs.getD j G0).1 ∧ (rs.getD j G0).1 ≤ 999) ∧ 0 ≤ (rs.getD j G0).2 ∧ (rs.getD j G0).2 ≤ 999
  o : ∀ j, j < os.length → OutOk (os.getD j O0)

theorem tail_len {l : List Int} (hk : ∀ k ∈ l, k ≤ 999) : (tailT l).length ≤ 11 * l.length := by
  induction l with
  | nil => simp [tailT]
  | cons a t ih =>
    have h1 := dec_len (hk a (by simp))
    have h2 := ih fun k hk' => hk k (by simp [hk'])
    simp [tailT]; omega
theorem rtx_len {o : Ou} (h : OutOk o) : (rtxR o.l o.x o.y).length ≤ 100 := by
  have hx := dec_len h.x.2
  have hy := dec_len h.y.2
  have hk : ∀ k ∈ o.l, k ≤ 999 := fun k hk => by
    obtain ⟨j, hj, e⟩ := List.getElem_of_mem hk
    have := (h.k j hj).2
    simpa [List.getD, hj, e] using this
  have hn := h.n
  have h1 : (keysT o.l).length ≤ 11 * o.l.length := by
    cases hl : o.l with
    | nil => simp [keysT]
    | cons a t =>
      rw [hl] at hk
      have h1 := dec_len (hk a (by simp))
      have h2 := tail_len (l := t) fun k hk' => hk k (by simp [hk'])
      simp [keysT]; omega
  have h2 : (aftT o.y).length ≤ 17 := by unfold aftT; split <;> simp; omega
  unfold rtxR
  simp
  omega

theorem take_next2 {α : Type} {l : List α} {n j : Nat} {d g : α} (hn : l.length = n) (hj : j < n) (hg : g = l.getD j d) : l.take (j + 1) = l.take j ++ [g] := by
  subst hg
  rw [List.take_add_one, List.getElem?_eq_getElem (by omega), List.getD, List.getElem?_eq_getElem (by omega)]
  rfl

set_option maxRecDepth 20000 in
set_option maxHeartbeats 2000000 in
theorem l3Text_any (P n c m d : Nat) (ia oa : Option Addr) (k f : Int) (rs : List (Int × Int)) (os : List Ou) (w : World) (hok : TxOk k f rs os) (h : TxAt w ia n oa m rs os) (hPl : P < w.heap.size)
    (p0 : w.cell? ⟨P, 0, none⟩ = some (.int .i64 k)) (p1 : w.cell? ⟨P, 1, none⟩ = some (.int .i64 f)) (p2 : w.cell? ⟨P, 2, none⟩ = some (.slice ia n c)) (p3 : w.cell? ⟨P, 3, none⟩ = some (.slice oa m d)) :
    Calls Tryz.prog 55 #[.pointer (some ⟨P, 0, none⟩)] w fun e w' => e = .returned (.string (str (txT k f rs os))) ∧ Below w.heap.size w w' := by
  obtain ⟨rt, hrt⟩ : ∃ r, r = txT k f rs os := ⟨_, rfl⟩
  rw [← hrt]
  have HRT : Hid (rt = txT k f rs os) := hrt
  have HT : Hid (TxAt w ia n oa m rs os) := h
  have HOK : Hid (TxOk k f rs os) := hok
  have HN : Hid (rs.length = n) := h.r.1
  have HM : Hid (os.length = m) := h.o.1
  have hn4 : n ≤ 4 := by rw [← HN.out]; exact hok.n
  have hm4 : m ≤ 4 := by rw [← HM.out]; exact hok.m
  have hff := hok.f
  obtain ⟨df, hdf⟩ : ∃ o, o = dec f := ⟨_, rfl⟩
  have hlf : df.length ≤ 10 := by rw [hdf]; exact dec_len hff.2
  have hF : ∀ W, Calls Tryz.prog 75 #[.int .i64 f] W fun e w' => e = .returned (.string (str df)) ∧ Below W.heap.size W w' := fun W => by rw [hdf]; exact digits_int hff.1 hff.2 W
  have hss : ∀ z : List UInt8, (str z).size = z.length := fun _ => rfl
  have happ : ∀ z r : List UInt8, str z ++ str r = str (z ++ r) := str_append
  have hj1 : ∀ r : List UInt8, (⟨#[106, 111, 105, 110, 32]⟩ : ByteArray) ++ str r = str ([106, 111, 105, 110, 32] ++ r) := fun r => str_append [106, 111, 105, 110, 32] r
  have hj2 : ∀ r : List UInt8, (⟨#[108, 101, 97, 118, 101, 32]⟩ : ByteArray) ++ str r = str ([108, 101, 97, 118, 101, 32] ++ r) := fun r => str_append [108, 101, 97, 118, 101, 32] r
  have HDF : Hid (df = dec f) := hdf
  clear hrt h hok hdf
  have hc32 : ∀ z : List UInt8, str z ++ ⟨#[32]⟩ = str (z ++ [32]) := fun z => str_append z _
  have hc43 : ∀ z : List UInt8, str z ++ ⟨#[43]⟩ = str (z ++ [43]) := fun z => str_append z _
  have hc58 : ∀ z : List UInt8, str z ++ ⟨#[58]⟩ = str (z ++ [58]) := fun z => str_append z _
  have hc61 : ∀ z : List UInt8, str z ++ ⟨#[61]⟩ = str (z ++ [61]) := fun z => str_append z _
  -- the head
  rcases HOK.out.k with hk0 | hk0 | hk0
  all_goals subst hk0
  · go_enter Tryz.func55, Tryz.ntmps55
    go_wp2
    go_loopw [3, 4] (fun v i wr => ∃ j : Nat, j ≤ n ∧ i = .int .i64 j ∧ ∃ o : List UInt8, v = .string (str o) ∧ o.length ≤ 20 + 22 * j ∧ Hid (o = headT 0 f ++ refsT (rs.take j)) ∧ Below w.heap.size w wr) (fun _ i _ => n - (intOf i).toNat)
    case atStart => exact ⟨0, Nat.zero_le _, rfl, [112, 97, 121], rfl, by simp, by show _ = _; simp [headT, kindT, refsT], below_box _⟩
    case round =>
      obtain ⟨j, hj, rfl, o, rfl, hol, HO, hbel⟩ := hrel
      have y2 := (hbel.cell (p := ⟨P, 2, none⟩) hPl).trans p2
      have y3 := (hbel.cell (p := ⟨P, 3, none⟩) hPl).trans p3
      have hPr := Nat.lt_of_lt_of_le hPl hbel.size
      by_cases hlt : j < n
      · rcases HT.out.r.2 with h0 | ⟨b, off, e0, l0, d0⟩
        · omega
        subst e0
        obtain ⟨g, hg⟩ : ∃ g, g = rs.getD j G0 := ⟨_, rfl⟩
        have hcx := d0 j hlt
        have hrb := HOK.out.r j (by rw [HN.out]; exact hlt)
        rw [← hg] at hcx hrb
        obtain ⟨g1, g2⟩ := g
        have c0 := (hbel.cell (p := ⟨b, off + j * 2, none⟩) l0).trans hcx.1
        have c1 := (hbel.cell (p := ⟨b, off + j * 2 + 1, none⟩) l0).trans hcx.2
        have hbr := Nat.lt_of_lt_of_le l0 hbel.size
        obtain ⟨d1, hd1⟩ : ∃ o, o = dec g1 := ⟨_, rfl⟩
        obtain ⟨d2, hd2⟩ : ∃ o, o = dec g2 := ⟨_, rfl⟩
        have hl1 : d1.length ≤ 10 := by rw [hd1]; exact dec_len hrb.1.2
        have hl2 : d2.length ≤ 10 := by rw [hd2]; exact dec_len hrb.2.2
        have hA : ∀ W, Calls Tryz.prog 75 #[.int .i64 g1] W fun e w' => e = .returned (.string (str d1)) ∧ Below W.heap.size W w' := fun W => by rw [hd1]; exact digits_int hrb.1.1 hrb.1.2 W
        have hB : ∀ W, Calls Tryz.prog 75 #[.int .i64 g2] W fun e w' => e = .returned (.string (str d2)) ∧ Below W.heap.size W w' := fun W => by rw [hd2]; exact digits_int hrb.2.1 hrb.2.2 W
        have HG : Hid ((g1, g2) = rs.getD j G0) := hg
        have HD1 : Hid (d1 = dec g1) := hd1
        have HD2 : Hid (d2 = dec g2) := hd2
        clear hg hd1 hd2 hrb hcx d0
        have hki : (j : Int) < (n : Int) := by omega
        have hz1 : ¬ 9223372036854775807 < o.length + 1 := by omega
        have hz2 : ¬ 9223372036854775807 < o.length + 1 + d1.length := by omega
        have hz3 : ¬ 9223372036854775807 < o.length + (d1.length + 1) + 1 := by omega
        have hz4 : ¬ 9223372036854775807 < o.length + (d1.length + 1 + 1) + d2.length := by omega
        by_cases hj0 : j = 0
        · -- the first ref
          have hjb : ((j : Int) == 0) = true := by simp [hj0]
          have HJ0 : Hid (j = 0) := hj0
          clear hj0
          go_wp2
          go_region_held3 (fun w' => w'.cell? ⟨P, 2, none⟩ = some (.slice (some ⟨b, off, none⟩) n c) ∧ w'.cell? ⟨b, off + j * 2, none⟩ = some (.int .i64 g1) ∧ w'.cell? ⟨b, off + j * 2 + 1, none⟩ = some (.int .i64 g2)) (go_keep)
            (first
              | (go_at_call 75; (first
                  | (have hA' := hA; (with_reducible refine (hA' _).mono ?_); clear hA hA'; rintro e w2 ⟨rfl, hb2⟩; have z2 := (hb2.cell (p := ⟨P, 2, none⟩) hPr).trans y2; have z3 := (hb2.cell (p := ⟨b, off + j * 2, none⟩) hbr).trans c0; have z4 := (hb2.cell (p := ⟨b, off + j * 2 + 1, none⟩) hbr).trans c1; have hs2 : wr.heap.size ≤ w2.heap.size := hb2.size)
                  | ((with_reducible refine (hB _).mono ?_); rintro e w3 ⟨rfl, hb3⟩; have x2 := (hb3.cell (p := ⟨P, 2, none⟩) (Nat.lt_of_lt_of_le hPr hs2)).trans z2; have x3 := (hb3.cell (p := ⟨b, off + j * 2, none⟩) (Nat.lt_of_lt_of_le hbr hs2)).trans z3; have x4 := (hb3.cell (p := ⟨b, off + j * 2 + 1, none⟩) (Nat.lt_of_lt_of_le hbr hs2)).trans z4))))
          have HB3 : Hid (Below w.heap.size w w3) := hbel.trans (((show Below wr.heap.size wr w2 from (Below.refl _ _).drew.trans hb2).trans (hb3.mono hs2)).mono hbel.size)
          go_wp2
          go_roundw
          case rel =>
            refine ⟨j + 1, by omega, by go_num, _, rfl, by simp; omega, ?_, HB3.out⟩
            show _ = _
            rw [take_next2 HN.out hlt HG.out, refsT_snoc, HO.out, HD1.out, HD2.out]
            have e2 : (rs.take j).length = j := by rw [List.length_take, HN.out]; omega
            have e3 := HJ0.out
            simp [e3, refT]
          case measure => simp [intOf]; omega

        · -- a ref behind it
          have hjb : ((j : Int) == 0) = false := by simp [hj0]
          have HJ0 : Hid (¬ j = 0) := hj0
          clear hj0
          go_wp2
          go_region_held3 (fun w' => w'.cell? ⟨P, 2, none⟩ = some (.slice (some ⟨b, off, none⟩) n c) ∧ w'.cell? ⟨b, off + j * 2, none⟩ = some (.int .i64 g1) ∧ w'.cell? ⟨b, off + j * 2 + 1, none⟩ = some (.int .i64 g2)) (go_keep)
            (first
              | (go_at_call 75; (first
                  | (have hA' := hA; (with_reducible refine (hA' _).mono ?_); clear hA hA'; rintro e w2 ⟨rfl, hb2⟩; have z2 := (hb2.cell (p := ⟨P, 2, none⟩) hPr).trans y2; have z3 := (hb2.cell (p := ⟨b, off + j * 2, none⟩) hbr).trans c0; have z4 := (hb2.cell (p := ⟨b, off + j * 2 + 1, none⟩) hbr).trans c1; have hs2 : wr.heap.size ≤ w2.heap.size := hb2.size)
                  | ((with_reducible refine (hB _).mono ?_); rintro e w3 ⟨rfl, hb3⟩; have x2 := (hb3.cell (p := ⟨P, 2, none⟩) (Nat.lt_of_lt_of_le hPr hs2)).trans z2; have x3 := (hb3.cell (p := ⟨b, off + j * 2, none⟩) (Nat.lt_of_lt_of_le hbr hs2)).trans z3; have x4 := (hb3.cell (p := ⟨b, off + j * 2 + 1, none⟩) (Nat.lt_of_lt_of_le hbr hs2)).trans z4))))
          have HB3 : Hid (Below w.heap.size w w3) := hbel.trans (((show Below wr.heap.size wr w2 from (Below.refl _ _).drew.trans hb2).trans (hb3.mono hs2)).mono hbel.size)
          go_wp2
          go_roundw
          case rel =>
            refine ⟨j + 1, by omega, by go_num, _, rfl, by simp; omega, ?_, HB3.out⟩
            show _ = _
            rw [take_next2 HN.out hlt HG.out, refsT_snoc, HO.out, HD1.out, HD2.out]
            have e2 : (rs.take j).length = j := by rw [List.length_take, HN.out]; omega
            have e3 := HJ0.out
            simp [e2, e3, refT]
          case measure => simp [intOf]; omega

      · have e1 : rs.take j = rs := List.take_of_length_le (by rw [HN.out]; omega)
        have HO2 : Hid (o = headT 0 f ++ refsT rs) := by show _ = _; rw [HO.out, e1]
        clear HO e1
        have hol2 : o.length ≤ 200 := by omega
        go_wp2
        go_loopw [3, 6] (fun v i wr2 => ∃ q : Nat, q ≤ m ∧ i = .int .i64 q ∧ ∃ o2 : List UInt8, v = .string (str o2) ∧ o2.length ≤ 200 + 150 * q ∧ Hid (o2 = headT 0 f ++ refsT rs ++ (os.take q).flatMap outT) ∧ Below w.heap.size w wr2) (fun _ i _ => m - (intOf i).toNat)
        case atStart => exact ⟨0, Nat.zero_le _, rfl, o, rfl, by omega, by show _ = _; simp [HO2.out], hbel⟩
        case round =>
          clear y2 y3 hbel HO2 hol hol2 hj hlt hPr
          obtain ⟨q, hq, rfl, o2, rfl, hol, HO, hbel⟩ := hrel
          have y3 := (hbel.cell (p := ⟨P, 3, none⟩) hPl).trans p3
          have hPr := Nat.lt_of_lt_of_le hPl hbel.size
          by_cases hlt : q < m
          · rcases HT.out.o.2 with h0 | ⟨b, off, e0, l0, d0⟩
            · omega
            subst e0
            obtain ⟨u, hu⟩ : ∃ u, u = os.getD q O0 := ⟨_, rfl⟩
            have hou := HOK.out.o q (by rw [HM.out]; exact hlt)
            obtain ⟨ka, kn, kc, q0, q1, q2, q3, hkn, hI⟩ := d0 q hlt
            rw [← hu] at hou q0 q2 q3 hI
            have c0 := (hbel.cell (p := ⟨b, off + q * 4, none⟩) l0).trans q0
            have hbr := Nat.lt_of_lt_of_le l0 hbel.size
            obtain ⟨uv, huv⟩ : ∃ z, z = u.v := ⟨_, rfl⟩
            obtain ⟨d1, hd1⟩ : ∃ z, z = dec uv := ⟨_, rfl⟩
            obtain ⟨r1, hr1⟩ : ∃ z, z = rtxR u.l u.x u.y := ⟨_, rfl⟩
            obtain ⟨r2, hr2⟩ : ∃ z, z = r1.map swp := ⟨_, rfl⟩
            have hv := hou.v
            rw [← huv] at c0 hv
            have hl1 : d1.length ≤ 10 := by rw [hd1]; exact dec_big hv.2
            have hlr : r1.length ≤ 100 := by rw [hr1]; exact rtx_len hou
            have hl2 : r2.length ≤ 100 := by rw [hr2]; simpa using hlr
            have hA : ∀ W, Calls Tryz.prog 75 #[.int .i64 uv] W fun e w' => e = .returned (.string (str d1)) ∧ Below W.heap.size W w' := fun W => by rw [hd1]; exact digits_big hv.1 hv.2 W
            have hB : ∀ W, Below w.heap.size w W → Calls Tryz.prog 76 #[.pointer (some ⟨b, off + q * 4 + 1, none⟩)] W fun e w' => e = .returned (.string (str r1)) ∧ Below W.heap.size W w' := fun W hW => by
              rw [hr1]
              have hkl := hI.1
              exact l2TextAt_any b (off + q * 4 + 1) kn kc ka u.l u.x u.y W (by rw [← hkl]; exact hou.n.1) (by rw [← hkl]; exact hou.n.2) hou.x hou.y (by rw [← hkl]; exact hou.k) (hI.below hW (Nat.le_refl _)) (Nat.lt_of_lt_of_le l0 hW.size)
                ((hW.cell (p := ⟨b, off + q * 4 + 1, none⟩) l0).trans q1) ((hW.cell (p := ⟨b, off + q * 4 + 2, none⟩) l0).trans q2) ((hW.cell (p := ⟨b, off + q * 4 + 3, none⟩) l0).trans q3)
            have hC : ∀ W, Calls Tryz.prog 53 #[.string (str r1), .int .u8 32, .int .u8 95] W fun e w' => e = .returned (.string (str r2)) ∧ Below W.heap.size W w' := fun W => by rw [hr2]; exact l3Swap_any r1 W (by omega)
            have HU : Hid (u = os.getD q O0 ∧ outT u = 32 :: (d1 ++ (61 :: r2))) := ⟨hu, by simp [outT, hd1, huv, hr2, hr1]⟩
            clear hu huv hd1 hr1 hr2 hou d0 q0 q1 q2 q3 hI
            have hki : (q : Int) < (m : Int) := by omega
            have hz1 : ¬ 9223372036854775807 < o2.length + 1 := by omega
            have hz2 : ¬ 9223372036854775807 < o2.length + 1 + d1.length := by omega
            have hz3 : ¬ 9223372036854775807 < o2.length + (d1.length + 1) + 1 := by omega
            have hz4 : ¬ 9223372036854775807 < o2.length + (d1.length + 1 + 1) + r2.length := by omega
            go_wp2
            go_region_held3 (fun w' => w'.cell? ⟨P, 3, none⟩ = some (.slice (some ⟨b, off, none⟩) m d) ∧ w'.cell? ⟨b, off + q * 4, none⟩ = some (.int .i64 uv)) (go_keep)
              (first
                | (go_at_call 75; refine (hA _).mono ?_; rintro e w2 ⟨rfl, hb2⟩; have z2 := (hb2.cell (p := ⟨P, 3, none⟩) hPr).trans y3; have z3 := (hb2.cell (p := ⟨b, off + q * 4, none⟩) hbr).trans c0; have hs2 : wr.heap.size ≤ w2.heap.size := hb2.size; have HB2 : Hid (Below w.heap.size w w2) := hbel.trans ((show Below wr.heap.size wr w2 from (Below.refl _ _).drew.trans hb2).mono hbel.size))
                | (go_at_call 76; refine (hB _ HB2.out).mono ?_; rintro e w3 ⟨rfl, hb3⟩; have x2 := (hb3.cell (p := ⟨P, 3, none⟩) (Nat.lt_of_lt_of_le hPr hs2)).trans z2; have x3 := (hb3.cell (p := ⟨b, off + q * 4, none⟩) (Nat.lt_of_lt_of_le hbr hs2)).trans z3; have hs3 := Nat.le_trans hs2 hb3.size; have HB3 : Hid (Below w.heap.size w w3) := HB2.out.trans (hb3.mono HB2.out.size))
                | (go_at_call 53; refine (hC _).mono ?_; rintro e w4 ⟨rfl, hb4⟩; have v2 := (hb4.cell (p := ⟨P, 3, none⟩) (Nat.lt_of_lt_of_le hPr hs3)).trans x2; have v3 := (hb4.cell (p := ⟨b, off + q * 4, none⟩) (Nat.lt_of_lt_of_le hbr hs3)).trans x3; have HB4 : Hid (Below w.heap.size w w4) := HB3.out.trans (hb4.mono HB3.out.size)))
            go_wp2
            go_roundw
            case rel =>
              refine ⟨q + 1, by omega, by go_num, _, rfl, by simp; omega, ?_, HB4.out⟩
              show _ = _
              rw [take_next2 HM.out hlt HU.out.1, List.flatMap_append, HO.out]
              simp [HU.out.2]
            case measure => simp [intOf]; omega
          · have e1 : os.take q = os := List.take_of_length_le (by rw [HM.out]; omega)
            obtain rfl : rt = o2 := by rw [HRT.out, HO.out, e1]; rfl
            clear e1 HO
            go_wp2
            go_ret
            exact ⟨rfl, hbel⟩
  · go_enter Tryz.func55, Tryz.ntmps55
    go_wp2_with (go_at_call 75; refine (hF _).mono ?_; rintro e w1 ⟨rfl, hb1⟩)
    have hb0 : Below w.heap.size w w1 := (below_box _).trans (hb1.mono (by simp))
    clear hb1 hF
    go_loopw [3, 4] (fun v i wr => ∃ j : Nat, j ≤ n ∧ i = .int .i64 j ∧ ∃ o : List UInt8, v = .string (str o) ∧ o.length ≤ 20 + 22 * j ∧ Hid (o = headT 1 f ++ refsT (rs.take j)) ∧ Below w.heap.size w wr) (fun _ i _ => n - (intOf i).toNat)
    case atStart => exact ⟨0, Nat.zero_le _, rfl, 106 :: 111 :: 105 :: 110 :: 32 :: df, rfl, by simp; omega, by show _ = _; simp [headT, kindT, refsT, HDF.out], hb0⟩
    case round =>
      obtain ⟨j, hj, rfl, o, rfl, hol, HO, hbel⟩ := hrel
      have y2 := (hbel.cell (p := ⟨P, 2, none⟩) hPl).trans p2
      have y3 := (hbel.cell (p := ⟨P, 3, none⟩) hPl).trans p3
      have hPr := Nat.lt_of_lt_of_le hPl hbel.size
      by_cases hlt : j < n
      · rcases HT.out.r.2 with h0 | ⟨b, off, e0, l0, d0⟩
        · omega
        subst e0
        obtain ⟨g, hg⟩ : ∃ g, g = rs.getD j G0 := ⟨_, rfl⟩
        have hcx := d0 j hlt
        have hrb := HOK.out.r j (by rw [HN.out]; exact hlt)
        rw [← hg] at hcx hrb
        obtain ⟨g1, g2⟩ := g
        have c0 := (hbel.cell (p := ⟨b, off + j * 2, none⟩) l0).trans hcx.1
        have c1 := (hbel.cell (p := ⟨b, off + j * 2 + 1, none⟩) l0).trans hcx.2
        have hbr := Nat.lt_of_lt_of_le l0 hbel.size
        obtain ⟨d1, hd1⟩ : ∃ o, o = dec g1 := ⟨_, rfl⟩
        obtain ⟨d2, hd2⟩ : ∃ o, o = dec g2 := ⟨_, rfl⟩
        have hl1 : d1.length ≤ 10 := by rw [hd1]; exact dec_len hrb.1.2
        have hl2 : d2.length ≤ 10 := by rw [hd2]; exact dec_len hrb.2.2
        have hA : ∀ W, Calls Tryz.prog 75 #[.int .i64 g1] W fun e w' => e = .returned (.string (str d1)) ∧ Below W.heap.size W w' := fun W => by rw [hd1]; exact digits_int hrb.1.1 hrb.1.2 W
        have hB : ∀ W, Calls Tryz.prog 75 #[.int .i64 g2] W fun e w' => e = .returned (.string (str d2)) ∧ Below W.heap.size W w' := fun W => by rw [hd2]; exact digits_int hrb.2.1 hrb.2.2 W
        have HG : Hid ((g1, g2) = rs.getD j G0) := hg
        have HD1 : Hid (d1 = dec g1) := hd1
        have HD2 : Hid (d2 = dec g2) := hd2
        clear hg hd1 hd2 hrb hcx d0
        have hki : (j : Int) < (n : Int) := by omega
        have hz1 : ¬ 9223372036854775807 < o.length + 1 := by omega
        have hz2 : ¬ 9223372036854775807 < o.length + 1 + d1.length := by omega
        have hz3 : ¬ 9223372036854775807 < o.length + (d1.length + 1) + 1 := by omega
        have hz4 : ¬ 9223372036854775807 < o.length + (d1.length + 1 + 1) + d2.length := by omega
        by_cases hj0 : j = 0
        · -- the first ref
          have hjb : ((j : Int) == 0) = true := by simp [hj0]
          have HJ0 : Hid (j = 0) := hj0
          clear hj0
          go_wp2
          go_region_held3 (fun w' => w'.cell? ⟨P, 2, none⟩ = some (.slice (some ⟨b, off, none⟩) n c) ∧ w'.cell? ⟨b, off + j * 2, none⟩ = some (.int .i64 g1) ∧ w'.cell? ⟨b, off + j * 2 + 1, none⟩ = some (.int .i64 g2)) (go_keep)
            (first
              | (go_at_call 75; (first
                  | (have hA' := hA; (with_reducible refine (hA' _).mono ?_); clear hA hA'; rintro e w2 ⟨rfl, hb2⟩; have z2 := (hb2.cell (p := ⟨P, 2, none⟩) hPr).trans y2; have z3 := (hb2.cell (p := ⟨b, off + j * 2, none⟩) hbr).trans c0; have z4 := (hb2.cell (p := ⟨b, off + j * 2 + 1, none⟩) hbr).trans c1; have hs2 : wr.heap.size ≤ w2.heap.size := hb2.size)
                  | ((with_reducible refine (hB _).mono ?_); rintro e w3 ⟨rfl, hb3⟩; have x2 := (hb3.cell (p := ⟨P, 2, none⟩) (Nat.lt_of_lt_of_le hPr hs2)).trans z2; have x3 := (hb3.cell (p := ⟨b, off + j * 2, none⟩) (Nat.lt_of_lt_of_le hbr hs2)).trans z3; have x4 := (hb3.cell (p := ⟨b, off + j * 2 + 1, none⟩) (Nat.lt_of_lt_of_le hbr hs2)).trans z4))))
          have HB3 : Hid (Below w.heap.size w w3) := hbel.trans (((show Below wr.heap.size wr w2 from (Below.refl _ _).drew.trans hb2).trans (hb3.mono hs2)).mono hbel.size)
          go_wp2
          go_roundw
          case rel =>
            refine ⟨j + 1, by omega, by go_num, _, rfl, by simp; omega, ?_, HB3.out⟩
            show _ = _
            rw [take_next2 HN.out hlt HG.out, refsT_snoc, HO.out, HD1.out, HD2.out]
            have e2 : (rs.take j).length = j := by rw [List.length_take, HN.out]; omega
            have e3 := HJ0.out
            simp [e3, refT]
          case measure => simp [intOf]; omega

        · -- a ref behind it
          have hjb : ((j : Int) == 0) = false := by simp [hj0]
          have HJ0 : Hid (¬ j = 0) := hj0
          clear hj0
          go_wp2
          go_region_held3 (fun w' => w'.cell? ⟨P, 2, none⟩ = some (.slice (some ⟨b, off, none⟩) n c) ∧ w'.cell? ⟨b, off + j * 2, none⟩ = some (.int .i64 g1) ∧ w'.cell? ⟨b, off + j * 2 + 1, none⟩ = some (.int .i64 g2)) (go_keep)
            (first
              | (go_at_call 75; (first
                  | (have hA' := hA; (with_reducible refine (hA' _).mono ?_); clear hA hA'; rintro e w2 ⟨rfl, hb2⟩; have z2 := (hb2.cell (p := ⟨P, 2, none⟩) hPr).trans y2; have z3 := (hb2.cell (p := ⟨b, off + j * 2, none⟩) hbr).trans c0; have z4 := (hb2.cell (p := ⟨b, off + j * 2 + 1, none⟩) hbr).trans c1; have hs2 : wr.heap.size ≤ w2.heap.size := hb2.size)
                  | ((with_reducible refine (hB _).mono ?_); rintro e w3 ⟨rfl, hb3⟩; have x2 := (hb3.cell (p := ⟨P, 2, none⟩) (Nat.lt_of_lt_of_le hPr hs2)).trans z2; have x3 := (hb3.cell (p := ⟨b, off + j * 2, none⟩) (Nat.lt_of_lt_of_le hbr hs2)).trans z3; have x4 := (hb3.cell (p := ⟨b, off + j * 2 + 1, none⟩) (Nat.lt_of_lt_of_le hbr hs2)).trans z4))))
          have HB3 : Hid (Below w.heap.size w w3) := hbel.trans (((show Below wr.heap.size wr w2 from (Below.refl _ _).drew.trans hb2).trans (hb3.mono hs2)).mono hbel.size)
          go_wp2
          go_roundw
          case rel =>
            refine ⟨j + 1, by omega, by go_num, _, rfl, by simp; omega, ?_, HB3.out⟩
            show _ = _
            rw [take_next2 HN.out hlt HG.out, refsT_snoc, HO.out, HD1.out, HD2.out]
            have e2 : (rs.take j).length = j := by rw [List.length_take, HN.out]; omega
            have e3 := HJ0.out
            simp [e2, e3, refT]
          case measure => simp [intOf]; omega

      · have e1 : rs.take j = rs := List.take_of_length_le (by rw [HN.out]; omega)
        have HO2 : Hid (o = headT 1 f ++ refsT rs) := by show _ = _; rw [HO.out, e1]
        clear HO e1
        have hol2 : o.length ≤ 200 := by omega
        go_wp2
        go_loopw [3, 6] (fun v i wr2 => ∃ q : Nat, q ≤ m ∧ i = .int .i64 q ∧ ∃ o2 : List UInt8, v = .string (str o2) ∧ o2.length ≤ 200 + 150 * q ∧ Hid (o2 = headT 1 f ++ refsT rs ++ (os.take q).flatMap outT) ∧ Below w.heap.size w wr2) (fun _ i _ => m - (intOf i).toNat)
        case atStart => exact ⟨0, Nat.zero_le _, rfl, o, rfl, by omega, by show _ = _; simp [HO2.out], hbel⟩
        case round =>
          clear y2 y3 hbel HO2 hol hol2 hj hlt hPr
          obtain ⟨q, hq, rfl, o2, rfl, hol, HO, hbel⟩ := hrel
          have y3 := (hbel.cell (p := ⟨P, 3, none⟩) hPl).trans p3
          have hPr := Nat.lt_of_lt_of_le hPl hbel.size
          by_cases hlt : q < m
          · rcases HT.out.o.2 with h0 | ⟨b, off, e0, l0, d0⟩
            · omega
            subst e0
            obtain ⟨u, hu⟩ : ∃ u, u = os.getD q O0 := ⟨_, rfl⟩
            have hou := HOK.out.o q (by rw [HM.out]; exact hlt)
            obtain ⟨ka, kn, kc, q0, q1, q2, q3, hkn, hI⟩ := d0 q hlt
            rw [← hu] at hou q0 q2 q3 hI
            have c0 := (hbel.cell (p := ⟨b, off + q * 4, none⟩) l0).trans q0
            have hbr := Nat.lt_of_lt_of_le l0 hbel.size
            obtain ⟨uv, huv⟩ : ∃ z, z = u.v := ⟨_, rfl⟩
            obtain ⟨d1, hd1⟩ : ∃ z, z = dec uv := ⟨_, rfl⟩
            obtain ⟨r1, hr1⟩ : ∃ z, z = rtxR u.l u.x u.y := ⟨_, rfl⟩
            obtain ⟨r2, hr2⟩ : ∃ z, z = r1.map swp := ⟨_, rfl⟩
            have hv := hou.v
            rw [← huv] at c0 hv
            have hl1 : d1.length ≤ 10 := by rw [hd1]; exact dec_big hv.2
            have hlr : r1.length ≤ 100 := by rw [hr1]; exact rtx_len hou
            have hl2 : r2.length ≤ 100 := by rw [hr2]; simpa using hlr
            have hA : ∀ W, Calls Tryz.prog 75 #[.int .i64 uv] W fun e w' => e = .returned (.string (str d1)) ∧ Below W.heap.size W w' := fun W => by rw [hd1]; exact digits_big hv.1 hv.2 W
            have hB : ∀ W, Below w.heap.size w W → Calls Tryz.prog 76 #[.pointer (some ⟨b, off + q * 4 + 1, none⟩)] W fun e w' => e = .returned (.string (str r1)) ∧ Below W.heap.size W w' := fun W hW => by
              rw [hr1]
              have hkl := hI.1
              exact l2TextAt_any b (off + q * 4 + 1) kn kc ka u.l u.x u.y W (by rw [← hkl]; exact hou.n.1) (by rw [← hkl]; exact hou.n.2) hou.x hou.y (by rw [← hkl]; exact hou.k) (hI.below hW (Nat.le_refl _)) (Nat.lt_of_lt_of_le l0 hW.size)
                ((hW.cell (p := ⟨b, off + q * 4 + 1, none⟩) l0).trans q1) ((hW.cell (p := ⟨b, off + q * 4 + 2, none⟩) l0).trans q2) ((hW.cell (p := ⟨b, off + q * 4 + 3, none⟩) l0).trans q3)
            have hC : ∀ W, Calls Tryz.prog 53 #[.string (str r1), .int .u8 32, .int .u8 95] W fun e w' => e = .returned (.string (str r2)) ∧ Below W.heap.size W w' := fun W => by rw [hr2]; exact l3Swap_any r1 W (by omega)
            have HU : Hid (u = os.getD q O0 ∧ outT u = 32 :: (d1 ++ (61 :: r2))) := ⟨hu, by simp [outT, hd1, huv, hr2, hr1]⟩
            clear hu huv hd1 hr1 hr2 hou d0 q0 q1 q2 q3 hI
            have hki : (q : Int) < (m : Int) := by omega
            have hz1 : ¬ 9223372036854775807 < o2.length + 1 := by omega
            have hz2 : ¬ 9223372036854775807 < o2.length + 1 + d1.length := by omega
            have hz3 : ¬ 9223372036854775807 < o2.length + (d1.length + 1) + 1 := by omega
            have hz4 : ¬ 9223372036854775807 < o2.length + (d1.length + 1 + 1) + r2.length := by omega
            go_wp2
            go_region_held3 (fun w' => w'.cell? ⟨P, 3, none⟩ = some (.slice (some ⟨b, off, none⟩) m d) ∧ w'.cell? ⟨b, off + q * 4, none⟩ = some (.int .i64 uv)) (go_keep)
              (first
                | (go_at_call 75; refine (hA _).mono ?_; rintro e w2 ⟨rfl, hb2⟩; have z2 := (hb2.cell (p := ⟨P, 3, none⟩) hPr).trans y3; have z3 := (hb2.cell (p := ⟨b, off + q * 4, none⟩) hbr).trans c0; have hs2 : wr.heap.size ≤ w2.heap.size := hb2.size; have HB2 : Hid (Below w.heap.size w w2) := hbel.trans ((show Below wr.heap.size wr w2 from (Below.refl _ _).drew.trans hb2).mono hbel.size))
                | (go_at_call 76; refine (hB _ HB2.out).mono ?_; rintro e w3 ⟨rfl, hb3⟩; have x2 := (hb3.cell (p := ⟨P, 3, none⟩) (Nat.lt_of_lt_of_le hPr hs2)).trans z2; have x3 := (hb3.cell (p := ⟨b, off + q * 4, none⟩) (Nat.lt_of_lt_of_le hbr hs2)).trans z3; have hs3 := Nat.le_trans hs2 hb3.size; have HB3 : Hid (Below w.heap.size w w3) := HB2.out.trans (hb3.mono HB2.out.size))
                | (go_at_call 53; refine (hC _).mono ?_; rintro e w4 ⟨rfl, hb4⟩; have v2 := (hb4.cell (p := ⟨P, 3, none⟩) (Nat.lt_of_lt_of_le hPr hs3)).trans x2; have v3 := (hb4.cell (p := ⟨b, off + q * 4, none⟩) (Nat.lt_of_lt_of_le hbr hs3)).trans x3; have HB4 : Hid (Below w.heap.size w w4) := HB3.out.trans (hb4.mono HB3.out.size)))
            go_wp2
            go_roundw
            case rel =>
              refine ⟨q + 1, by omega, by go_num, _, rfl, by simp; omega, ?_, HB4.out⟩
              show _ = _
              rw [take_next2 HM.out hlt HU.out.1, List.flatMap_append, HO.out]
              simp [HU.out.2]
            case measure => simp [intOf]; omega
          · have e1 : os.take q = os := List.take_of_length_le (by rw [HM.out]; omega)
            obtain rfl : rt = o2 := by rw [HRT.out, HO.out, e1]; rfl
            clear e1 HO
            go_wp2
            go_ret
            exact ⟨rfl, hbel⟩
  · go_enter Tryz.func55, Tryz.ntmps55
    go_wp2_with (go_at_call 75; refine (hF _).mono ?_; rintro e w1 ⟨rfl, hb1⟩)
    have hb0 : Below w.heap.size w w1 := (below_box _).trans (hb1.mono (by simp))
    clear hb1 hF
    go_loopw [3, 4] (fun v i wr => ∃ j : Nat, j ≤ n ∧ i = .int .i64 j ∧ ∃ o : List UInt8, v = .string (str o) ∧ o.length ≤ 20 + 22 * j ∧ Hid (o = headT 2 f ++ refsT (rs.take j)) ∧ Below w.heap.size w wr) (fun _ i _ => n - (intOf i).toNat)
    case atStart => exact ⟨0, Nat.zero_le _, rfl, 108 :: 101 :: 97 :: 118 :: 101 :: 32 :: df, rfl, by simp; omega, by show _ = _; simp [headT, kindT, refsT, HDF.out], hb0⟩
    case round =>
      obtain ⟨j, hj, rfl, o, rfl, hol, HO, hbel⟩ := hrel
      have y2 := (hbel.cell (p := ⟨P, 2, none⟩) hPl).trans p2
      have y3 := (hbel.cell (p := ⟨P, 3, none⟩) hPl).trans p3
      have hPr := Nat.lt_of_lt_of_le hPl hbel.size
      by_cases hlt : j < n
      · rcases HT.out.r.2 with h0 | ⟨b, off, e0, l0, d0⟩
        · omega
        subst e0
        obtain ⟨g, hg⟩ : ∃ g, g = rs.getD j G0 := ⟨_, rfl⟩
        have hcx := d0 j hlt
        have hrb := HOK.out.r j (by rw [HN.out]; exact hlt)
        rw [← hg] at hcx hrb
        obtain ⟨g1, g2⟩ := g
        have c0 := (hbel.cell (p := ⟨b, off + j * 2, none⟩) l0).trans hcx.1
        have c1 := (hbel.cell (p := ⟨b, off + j * 2 + 1, none⟩) l0).trans hcx.2
        have hbr := Nat.lt_of_lt_of_le l0 hbel.size
        obtain ⟨d1, hd1⟩ : ∃ o, o = dec g1 := ⟨_, rfl⟩
        obtain ⟨d2, hd2⟩ : ∃ o, o = dec g2 := ⟨_, rfl⟩
        have hl1 : d1.length ≤ 10 := by rw [hd1]; exact dec_len hrb.1.2
        have hl2 : d2.length ≤ 10 := by rw [hd2]; exact dec_len hrb.2.2
        have hA : ∀ W, Calls Tryz.prog 75 #[.int .i64 g1] W fun e w' => e = .returned (.string (str d1)) ∧ Below W.heap.size W w' := fun W => by rw [hd1]; exact digits_int hrb.1.1 hrb.1.2 W
        have hB : ∀ W, Calls Tryz.prog 75 #[.int .i64 g2] W fun e w' => e = .returned (.string (str d2)) ∧ Below W.heap.size W w' := fun W => by rw [hd2]; exact digits_int hrb.2.1 hrb.2.2 W
        have HG : Hid ((g1, g2) = rs.getD j G0) := hg
        have HD1 : Hid (d1 = dec g1) := hd1
        have HD2 : Hid (d2 = dec g2) := hd2
        clear hg hd1 hd2 hrb hcx d0
        have hki : (j : Int) < (n : Int) := by omega
        have hz1 : ¬ 9223372036854775807 < o.length + 1 := by omega
        have hz2 : ¬ 9223372036854775807 < o.length + 1 + d1.length := by omega
        have hz3 : ¬ 9223372036854775807 < o.length + (d1.length + 1) + 1 := by omega
        have hz4 : ¬ 9223372036854775807 < o.length + (d1.length + 1 + 1) + d2.length := by omega
        by_cases hj0 : j = 0
        · -- the first ref
          have hjb : ((j : Int) == 0) = true := by simp [hj0]
          have HJ0 : Hid (j = 0) := hj0
          clear hj0
          go_wp2
          go_region_held3 (fun w' => w'.cell? ⟨P, 2, none⟩ = some (.slice (some ⟨b, off, none⟩) n c) ∧ w'.cell? ⟨b, off + j * 2, none⟩ = some (.int .i64 g1) ∧ w'.cell? ⟨b, off + j * 2 + 1, none⟩ = some (.int .i64 g2)) (go_keep)
            (first
              | (go_at_call 75; (first
                  | (have hA' := hA; (with_reducible refine (hA' _).mono ?_); clear hA hA'; rintro e w2 ⟨rfl, hb2⟩; have z2 := (hb2.cell (p := ⟨P, 2, none⟩) hPr).trans y2; have z3 := (hb2.cell (p := ⟨b, off + j * 2, none⟩) hbr).trans c0; have z4 := (hb2.cell (p := ⟨b, off + j * 2 + 1, none⟩) hbr).trans c1; have hs2 : wr.heap.size ≤ w2.heap.size := hb2.size)
                  | ((with_reducible refine (hB _).mono ?_); rintro e w3 ⟨rfl, hb3⟩; have x2 := (hb3.cell (p := ⟨P, 2, none⟩) (Nat.lt_of_lt_of_le hPr hs2)).trans z2; have x3 := (hb3.cell (p := ⟨b, off + j * 2, none⟩) (Nat.lt_of_lt_of_le hbr hs2)).trans z3; have x4 := (hb3.cell (p := ⟨b, off + j * 2 + 1, none⟩) (Nat.lt_of_lt_of_le hbr hs2)).trans z4))))
          have HB3 : Hid (Below w.heap.size w w3) := hbel.trans (((show Below wr.heap.size wr w2 from (Below.refl _ _).drew.trans hb2).trans (hb3.mono hs2)).mono hbel.size)
          go_wp2
          go_roundw
          case rel =>
            refine ⟨j + 1, by omega, by go_num, _, rfl, by simp; omega, ?_, HB3.out⟩
            show _ = _
            rw [take_next2 HN.out hlt HG.out, refsT_snoc, HO.out, HD1.out, HD2.out]
            have e2 : (rs.take j).length = j := by rw [List.length_take, HN.out]; omega
            have e3 := HJ0.out
            simp [e3, refT]
          case measure => simp [intOf]; omega

        · -- a ref behind it
          have hjb : ((j : Int) == 0) = false := by simp [hj0]
          have HJ0 : Hid (¬ j = 0) := hj0
          clear hj0
          go_wp2
          go_region_held3 (fun w' => w'.cell? ⟨P, 2, none⟩ = some (.slice (some ⟨b, off, none⟩) n c) ∧ w'.cell? ⟨b, off + j * 2, none⟩ = some (.int .i64 g1) ∧ w'.cell? ⟨b, off + j * 2 + 1, none⟩ = some (.int .i64 g2)) (go_keep)
            (first
              | (go_at_call 75; (first
                  | (have hA' := hA; (with_reducible refine (hA' _).mono ?_); clear hA hA'; rintro e w2 ⟨rfl, hb2⟩; have z2 := (hb2.cell (p := ⟨P, 2, none⟩) hPr).trans y2; have z3 := (hb2.cell (p := ⟨b, off + j * 2, none⟩) hbr).trans c0; have z4 := (hb2.cell (p := ⟨b, off + j * 2 + 1, none⟩) hbr).trans c1; have hs2 : wr.heap.size ≤ w2.heap.size := hb2.size)
                  | ((with_reducible refine (hB _).mono ?_); rintro e w3 ⟨rfl, hb3⟩; have x2 := (hb3.cell (p := ⟨P, 2, none⟩) (Nat.lt_of_lt_of_le hPr hs2)).trans z2; have x3 := (hb3.cell (p := ⟨b, off + j * 2, none⟩) (Nat.lt_of_lt_of_le hbr hs2)).trans z3; have x4 := (hb3.cell (p := ⟨b, off + j * 2 + 1, none⟩) (Nat.lt_of_lt_of_le hbr hs2)).trans z4))))
          have HB3 : Hid (Below w.heap.size w w3) := hbel.trans (((show Below wr.heap.size wr w2 from (Below.refl _ _).drew.trans hb2).trans (hb3.mono hs2)).mono hbel.size)
          go_wp2
          go_roundw
          case rel =>
            refine ⟨j + 1, by omega, by go_num, _, rfl, by simp; omega, ?_, HB3.out⟩
            show _ = _
            rw [take_next2 HN.out hlt HG.out, refsT_snoc, HO.out, HD1.out, HD2.out]
            have e2 : (rs.take j).length = j := by rw [List.length_take, HN.out]; omega
            have e3 := HJ0.out
            simp [e2, e3, refT]
          case measure => simp [intOf]; omega

      · have e1 : rs.take j = rs := List.take_of_length_le (by rw [HN.out]; omega)
        have HO2 : Hid (o = headT 2 f ++ refsT rs) := by show _ = _; rw [HO.out, e1]
        clear HO e1
        have hol2 : o.length ≤ 200 := by omega
        go_wp2
        go_loopw [3, 6] (fun v i wr2 => ∃ q : Nat, q ≤ m ∧ i = .int .i64 q ∧ ∃ o2 : List UInt8, v = .string (str o2) ∧ o2.length ≤ 200 + 150 * q ∧ Hid (o2 = headT 2 f ++ refsT rs ++ (os.take q).flatMap outT) ∧ Below w.heap.size w wr2) (fun _ i _ => m - (intOf i).toNat)
        case atStart => exact ⟨0, Nat.zero_le _, rfl, o, rfl, by omega, by show _ = _; simp [HO2.out], hbel⟩
        case round =>
          clear y2 y3 hbel HO2 hol hol2 hj hlt hPr
          obtain ⟨q, hq, rfl, o2, rfl, hol, HO, hbel⟩ := hrel
          have y3 := (hbel.cell (p := ⟨P, 3, none⟩) hPl).trans p3
          have hPr := Nat.lt_of_lt_of_le hPl hbel.size
          by_cases hlt : q < m
          · rcases HT.out.o.2 with h0 | ⟨b, off, e0, l0, d0⟩
            · omega
            subst e0
            obtain ⟨u, hu⟩ : ∃ u, u = os.getD q O0 := ⟨_, rfl⟩
            have hou := HOK.out.o q (by rw [HM.out]; exact hlt)
            obtain ⟨ka, kn, kc, q0, q1, q2, q3, hkn, hI⟩ := d0 q hlt
            rw [← hu] at hou q0 q2 q3 hI
            have c0 := (hbel.cell (p := ⟨b, off + q * 4, none⟩) l0).trans q0
            have hbr := Nat.lt_of_lt_of_le l0 hbel.size
            obtain ⟨uv, huv⟩ : ∃ z, z = u.v := ⟨_, rfl⟩
            obtain ⟨d1, hd1⟩ : ∃ z, z = dec uv := ⟨_, rfl⟩
            obtain ⟨r1, hr1⟩ : ∃ z, z = rtxR u.l u.x u.y := ⟨_, rfl⟩
            obtain ⟨r2, hr2⟩ : ∃ z, z = r1.map swp := ⟨_, rfl⟩
            have hv := hou.v
            rw [← huv] at c0 hv
            have hl1 : d1.length ≤ 10 := by rw [hd1]; exact dec_big hv.2
            have hlr : r1.length ≤ 100 := by rw [hr1]; exact rtx_len hou
            have hl2 : r2.length ≤ 100 := by rw [hr2]; simpa using hlr
            have hA : ∀ W, Calls Tryz.prog 75 #[.int .i64 uv] W fun e w' => e = .returned (.string (str d1)) ∧ Below W.heap.size W w' := fun W => by rw [hd1]; exact digits_big hv.1 hv.2 W
            have hB : ∀ W, Below w.heap.size w W → Calls Tryz.prog 76 #[.pointer (some ⟨b, off + q * 4 + 1, none⟩)] W fun e w' => e = .returned (.string (str r1)) ∧ Below W.heap.size W w' := fun W hW => by
              rw [hr1]
              have hkl := hI.1
              exact l2TextAt_any b (off + q * 4 + 1) kn kc ka u.l u.x u.y W (by rw [← hkl]; exact hou.n.1) (by rw [← hkl]; exact hou.n.2) hou.x hou.y (by rw [← hkl]; exact hou.k) (hI.below hW (Nat.le_refl _)) (Nat.lt_of_lt_of_le l0 hW.size)
                ((hW.cell (p := ⟨b, off + q * 4 + 1, none⟩) l0).trans q1) ((hW.cell (p := ⟨b, off + q * 4 + 2, none⟩) l0).trans q2) ((hW.cell (p := ⟨b, off + q * 4 + 3, none⟩) l0).trans q3)
            have hC : ∀ W, Calls Tryz.prog 53 #[.string (str r1), .int .u8 32, .int .u8 95] W fun e w' => e = .returned (.string (str r2)) ∧ Below W.heap.size W w' := fun W => by rw [hr2]; exact l3Swap_any r1 W (by omega)
            have HU : Hid (u = os.getD q O0 ∧ outT u = 32 :: (d1 ++ (61 :: r2))) := ⟨hu, by simp [outT, hd1, huv, hr2, hr1]⟩
            clear hu huv hd1 hr1 hr2 hou d0 q0 q1 q2 q3 hI
            have hki : (q : Int) < (m : Int) := by omega
            have hz1 : ¬ 9223372036854775807 < o2.length + 1 := by omega
            have hz2 : ¬ 9223372036854775807 < o2.length + 1 + d1.length := by omega
            have hz3 : ¬ 9223372036854775807 < o2.length + (d1.length + 1) + 1 := by omega
            have hz4 : ¬ 9223372036854775807 < o2.length + (d1.length + 1 + 1) + r2.length := by omega
            go_wp2
            go_region_held3 (fun w' => w'.cell? ⟨P, 3, none⟩ = some (.slice (some ⟨b, off, none⟩) m d) ∧ w'.cell? ⟨b, off + q * 4, none⟩ = some (.int .i64 uv)) (go_keep)
              (first
                | (go_at_call 75; refine (hA _).mono ?_; rintro e w2 ⟨rfl, hb2⟩; have z2 := (hb2.cell (p := ⟨P, 3, none⟩) hPr).trans y3; have z3 := (hb2.cell (p := ⟨b, off + q * 4, none⟩) hbr).trans c0; have hs2 : wr.heap.size ≤ w2.heap.size := hb2.size; have HB2 : Hid (Below w.heap.size w w2) := hbel.trans ((show Below wr.heap.size wr w2 from (Below.refl _ _).drew.trans hb2).mono hbel.size))
                | (go_at_call 76; refine (hB _ HB2.out).mono ?_; rintro e w3 ⟨rfl, hb3⟩; have x2 := (hb3.cell (p := ⟨P, 3, none⟩) (Nat.lt_of_lt_of_le hPr hs2)).trans z2; have x3 := (hb3.cell (p := ⟨b, off + q * 4, none⟩) (Nat.lt_of_lt_of_le hbr hs2)).trans z3; have hs3 := Nat.le_trans hs2 hb3.size; have HB3 : Hid (Below w.heap.size w w3) := HB2.out.trans (hb3.mono HB2.out.size))
                | (go_at_call 53; refine (hC _).mono ?_; rintro e w4 ⟨rfl, hb4⟩; have v2 := (hb4.cell (p := ⟨P, 3, none⟩) (Nat.lt_of_lt_of_le hPr hs3)).trans x2; have v3 := (hb4.cell (p := ⟨b, off + q * 4, none⟩) (Nat.lt_of_lt_of_le hbr hs3)).trans x3; have HB4 : Hid (Below w.heap.size w w4) := HB3.out.trans (hb4.mono HB3.out.size)))
            go_wp2
            go_roundw
            case rel =>
              refine ⟨q + 1, by omega, by go_num, _, rfl, by simp; omega, ?_, HB4.out⟩
              show _ = _
              rw [take_next2 HM.out hlt HU.out.1, List.flatMap_append, HO.out]
              simp [HU.out.2]
            case measure => simp [intOf]; omega
          · have e1 : os.take q = os := List.take_of_length_le (by rw [HM.out]; omega)
            obtain rfl : rt = o2 := by rw [HRT.out, HO.out, e1]; rfl
            clear e1 HO
            go_wp2
            go_ret
            exact ⟨rfl, hbel⟩

end Go.Proofs.YtppfhepipadepaaGreatDoor
