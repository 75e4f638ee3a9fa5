/- Are all of them keys, and do they rise: the program's loops over its iterator. -/
import Derived.Test.YtaopblgnmmhjfaaIt
namespace Go.Proofs.Ytaopblgnmmhjfaa
open Go.RowKit Go.Shelf Go.Maps Go.WideMaps
attribute [local go_sem] Oper.semAt_some

theorem new1 (W : World) (v : Value) (t : TypeId) : (W.alloc (.cells #[v] t)).cell? ⟨W.heap.size, 0, none⟩ = some v ∧ (W.alloc (.cells #[v] t)).frozen? ⟨W.heap.size, 0, none⟩ = false :=
  ⟨by unfold World.cell?; rw [heap_alloc_new]; rfl, Joins.unfrozen_of_block (heap_alloc_new _ _) 0⟩
theorem kept1 {W : World} {a : Addr} {v : Value} (o : Obj) (h : W.cell? a = some v) : (W.alloc o).cell? a = some v := cell_kept h (World.grownBy_alloc W o none) (fun r e => by cases e)
theorem kept1f {W : World} {a : Addr} {v : Value} (o : Obj) (h : W.cell? a = some v) (hf : W.frozen? a = false) : (W.alloc o).frozen? a = false := (frozen_kept h (World.grownBy_alloc W o none) (fun r e => by cases e)).trans hf

def allK (l : List Int) : Bool := l.all fun k => inB k 1 999
theorem allK_snoc {pre : List Int} {x : Int} (h : allK pre = true) (hx : inB x 1 999 = true) : allK (pre ++ [x]) = true := by simp [allK] at *; exact ⟨h, hx⟩
theorem allK_bad {pre : List Int} {x : Int} (hx : inB x 1 999 = false) : allK (pre ++ [x]) = false := by simp [allK, hx]
theorem allK_pre {pre l : List Int} (h : pre <+: l) (hb : allK pre = false) : allK l = false := by
  obtain ⟨t, rfl⟩ := h
  unfold allK at *
  rw [List.all_append, hb]; rfl

def riseB : Int → List Int → Bool
  | _, [] => true
  | p, k :: t => decide (p < k) && riseB k t
def lastK : Int → List Int → Int
  | p, [] => p
  | _, k :: t => lastK k t
theorem lastK_snoc (p : Int) (l : List Int) (x : Int) : lastK p (l ++ [x]) = x := by
  induction l generalizing p with
  | nil => rfl
  | cons k t ih => exact ih k
theorem riseB_snoc (p : Int) (l : List Int) (x : Int) : riseB p (l ++ [x]) = (riseB p l && decide (lastK p l < x)) := by
  induction l generalizing p with
  | nil => simp only [List.nil_append, riseB, lastK, Bool.and_true, Bool.true_and]; rfl
  | cons k t ih => simp only [List.cons_append, riseB, lastK, ih, Bool.and_assoc]; rfl
theorem riseB_pre {pre l : List Int} (h : pre <+: l) {p : Int} (hb : riseB p pre = false) : riseB p l = false := by
  obtain ⟨t, rfl⟩ := h
  induction pre generalizing p with
  | nil => cases hb
  | cons k r ih =>
    simp only [List.cons_append, riseB] at *
    cases hd : decide (p < k)
    · rfl
    · rw [hd, Bool.true_and] at hb
      rw [Bool.true_and]
      exact ih hb

set_option maxRecDepth 100000 in
set_option maxHeartbeats 2000000 in
theorem areKeys_any (Bs len cap : Nat) (a : Option Addr) (l : List Int) (w0 w : World) (hlen : len ≤ 1048576) (hI : IAt w0 a len l) (hB : Below w0.heap.size w0 w) (hBl : Bs < w.heap.size) (hBs : w.cell? ⟨Bs, 0, none⟩ = some (.slice a len cap)) :
    Calls Try.prog 109 #[.func (.func 146) #[] #[.pointer (some ⟨Bs, 0, none⟩)]] w fun e w' => e = .returned (.bool (allK l)) ∧ Below w.heap.size w w' := by
  obtain ⟨r, hr⟩ : ∃ r, r = allK l := ⟨_, rfl⟩
  rw [← hr]
  refine (callsIn_wide (n := 3)).1 ?_
  refine callsIn_of_wp_marks Try.func109 rfl trivial ?_ rfl
  simp only [Try.ntmps109, List.size_toArray, List.length_cons, List.length_nil, Nat.reduceAdd, Nat.reduceSub, Array.replicate_succ, Array.replicate_zero, List.push_toArray, List.append_toArray, List.nil_append, List.cons_append]
  gi_wp2
  have c0 := new1 w (.bool false) 4
  have hB0 : Below w.heap.size w (w.alloc (.cells #[.bool false] 4)) := below_box _
  have hsz := hB.size
  refine wpIn_rangeFunc_ownF rfl (by omega) (gf := 146) (lb := #[.pointer (some ⟨Bs, 0, none⟩)]) rfl trivial (enters_of Try.func146 (by kernel_rfl) rfl)
    (each_stops (fun x : Int => x) Fence.wide (3 - 1) trivial rfl (by omega) Bs len cap a l w0 _ hlen (by simpa using hI) (hB.trans (hB0.mono hsz)) (by simp; omega) ((hB0.cell (p := ⟨Bs, 0, none⟩) hBl).trans hBs)) belowK_t (belowK_b (by simp; omega)) (Below.refl _ _) (fun _ => rfl)
    (fun pre W => (allK pre = true ∧ W.cell? ⟨w.heap.size, 0, none⟩ = some (.bool false) ∧ W.frozen? ⟨w.heap.size, 0, none⟩ = false) ∧ Below w.heap.size w W)
    (fun c pre W => (c = .ret ∧ allK pre = false ∧ W.cell? ⟨w.heap.size, 0, none⟩ = some (.bool false)) ∧ Below w.heap.size w W)
    (OwnFrom.and (Own.from (fun s A B row hs hg hr => ⟨hs.1, cell_kept hs.2.1 hg hr, (frozen_kept hs.2.1 hg hr).trans hs.2.2⟩) _) (ownFrom_below (Nat.le_refl _) (by simp)))
    (fun c => OwnFrom.and (Own.from (fun s A B row hs hg hr => ⟨hs.1, hs.2.1, cell_kept hs.2.2 hg hr⟩) _) (ownFrom_below (Nat.le_refl _) (by simp)))
    ⟨⟨rfl, c0.1, c0.2⟩, hB0⟩
    (fun x => { tmps := #[.func (.func 146) #[] #[.pointer (some ⟨Bs, 0, none⟩)], undef, .pointer (some ⟨w.heap.size, 0, none⟩), .int .i64 x, .func (.func 146) #[] #[.pointer (some ⟨Bs, 0, none⟩)], .int .i64 x, undef, undef, undef], defers := [] }) ?assign ?body ?done ?stop
  case assign =>
    intro l x W K hK
    gi_wp2
    exact hK
  case body =>
    rintro l pre x W ⟨⟨hp, hcr, hfr⟩, hBB⟩ _
    obtain ⟨kb, hkb⟩ : ∃ kb, kb = inB x 1 999 := ⟨_, rfl⟩
    have hkey : ∀ v, Calls Try.prog 85 #[.int .i64 x] v fun e w' => e = .returned (.bool kb) ∧ w' = v := fun v => by rw [hkb]; exact isKey_any x v
    have HKB : Hid (kb = inB x 1 999) := hkb
    clear hkb
    cases kb
    · gi_wp2_with (refine ⟨trivial, ?_⟩; gi_at_call 85; refine (CallsIn.inRound l (callsIn_wide.2 (hkey _))).mono ?_; rintro e w' ⟨rfl, hw⟩; have hw2 := hw.symm; subst hw2)
      exact ⟨KeepsOthers.setCell _ _ _, ⟨rfl, allK_bad HKB.out.symm, World.cell?_setCell_same' _ _ _ (by rw [hcr]; rfl)⟩, hBB.setCell (p := ⟨w.heap.size, 0, none⟩) (Nat.le_refl _) _⟩
    · gi_wp2_with (refine ⟨trivial, ?_⟩; gi_at_call 85; refine (CallsIn.inRound l (callsIn_wide.2 (hkey _))).mono ?_; rintro e w' ⟨rfl, hw⟩; have hw2 := hw.symm; subst hw2)
      exact ⟨KeepsOthers.refl _, Below.refl _ _, ⟨allK_snoc hp HKB.out.symm, hcr, hfr⟩, hBB⟩
  case done =>
    rintro D ys W hD rfl ⟨⟨hne, hcr, hfr⟩, hBB⟩ hK
    gi_wp2
    have hK' := (KeepsOthers.setCell W ⟨w.heap.size, 0, none⟩ (.bool true)).same D _ hK rfl
    refine ⟨by simp, .inl ⟨_, _, rfl, run_takeDeferred hK', ?_⟩⟩
    have hc5 := cell_kept (World.cell?_setCell_same' W ⟨w.heap.size, 0, none⟩ (.bool true) (by rw [hcr]; rfl)) (grownBy_putObj' _ D (.deferred none)) (fun r e => by cases e; exact ⟨_, hK', rfl⟩)
    refine ⟨.bool true, ?_, by rw [hr, hne], (hBB.setCell (p := ⟨w.heap.size, 0, none⟩) (Nat.le_refl _) _).trans (belowK_b (w := w) (Nat.le_refl _) _ D _ _ (by simp at hD; omega) hK' rfl rfl)⟩
    simp [results, Try.results109, go_sem, hc5]
  case stop =>
    rintro D c pre W hD hpre ⟨⟨rfl, hin, hcr⟩, hBB⟩ hK
    gi_wp2
    refine ⟨by simp, .inl ⟨_, _, rfl, run_takeDeferred hK, ?_⟩⟩
    have hc5 := cell_kept hcr (grownBy_putObj' _ D (.deferred none)) (fun r e => by cases e; exact ⟨_, hK, rfl⟩)
    refine ⟨.bool false, ?_, by rw [hr, allK_pre hpre hin], hBB.trans (belowK_b (w := w) (Nat.le_refl _) W D _ _ (by simp at hD; omega) hK rfl rfl)⟩
    simp [results, Try.results109, go_sem, hc5]

set_option maxRecDepth 100000 in
set_option maxHeartbeats 2000000 in
theorem keysRise_any (Bs len cap : Nat) (a : Option Addr) (l : List Int) (w0 w : World) (hlen : len ≤ 1048576) (hI : IAt w0 a len l) (hB : Below w0.heap.size w0 w) (hBl : Bs < w.heap.size) (hBs : w.cell? ⟨Bs, 0, none⟩ = some (.slice a len cap)) :
    Calls Try.prog 112 #[.func (.func 146) #[] #[.pointer (some ⟨Bs, 0, none⟩)]] w fun e w' => e = .returned (.bool (riseB 0 l)) ∧ Below w.heap.size w w' := by
  obtain ⟨r, hr⟩ : ∃ r, r = riseB 0 l := ⟨_, rfl⟩
  rw [← hr]
  refine (callsIn_wide (n := 3)).1 ?_
  refine callsIn_of_wp_marks Try.func112 rfl trivial ?_ rfl
  simp only [Try.ntmps112, List.size_toArray, List.length_cons, List.length_nil, Nat.reduceAdd, Nat.reduceSub, Array.replicate_succ, Array.replicate_zero, List.push_toArray, List.append_toArray, List.nil_append, List.cons_append]
  gi_wp2
  have c0 := new1 w (.bool false) 4
  have c1 := new1 (w.alloc (.cells #[.bool false] 4)) (.int .i64 0) 2
  simp only [World.size_alloc] at c1
  have hB0 : Below w.heap.size w ((w.alloc (.cells #[.bool false] 4)).alloc (.cells #[.int .i64 0] 2)) := below_box2 _ _
  have hsz := hB.size
  refine wpIn_rangeFunc_ownF rfl (by omega) (gf := 146) (lb := #[.pointer (some ⟨Bs, 0, none⟩)]) rfl trivial (enters_of Try.func146 (by kernel_rfl) rfl)
    (each_stops (fun x : Int => x) Fence.wide (3 - 1) trivial rfl (by omega) Bs len cap a l w0 _ hlen (by simpa using hI) (hB.trans (hB0.mono hsz)) (by simp; omega) ((hB0.cell (p := ⟨Bs, 0, none⟩) hBl).trans hBs)) belowK_t (belowK_b (by simp; omega)) (Below.refl _ _) (fun _ => rfl)
    (fun pre W => (riseB 0 pre = true ∧ (W.cell? ⟨w.heap.size, 0, none⟩ = some (.bool false) ∧ W.frozen? ⟨w.heap.size, 0, none⟩ = false) ∧ W.cell? ⟨w.heap.size + 1, 0, none⟩ = some (.int .i64 (lastK 0 pre)) ∧ W.frozen? ⟨w.heap.size + 1, 0, none⟩ = false) ∧ Below w.heap.size w W)
    (fun c pre W => (c = .ret ∧ riseB 0 pre = false ∧ W.cell? ⟨w.heap.size, 0, none⟩ = some (.bool false)) ∧ Below w.heap.size w W)
    (OwnFrom.and (Own.from (fun s A B row hs hg hr => ⟨hs.1, ⟨cell_kept hs.2.1.1 hg hr, (frozen_kept hs.2.1.1 hg hr).trans hs.2.1.2⟩, cell_kept hs.2.2.1 hg hr, (frozen_kept hs.2.2.1 hg hr).trans hs.2.2.2⟩) _) (ownFrom_below (Nat.le_refl _) (by simp; omega)))
    (fun c => OwnFrom.and (Own.from (fun s A B row hs hg hr => ⟨hs.1, hs.2.1, cell_kept hs.2.2 hg hr⟩) _) (ownFrom_below (Nat.le_refl _) (by simp; omega)))
    ⟨⟨rfl, ⟨kept1 _ c0.1, kept1f _ c0.1 c0.2⟩, c1.1, c1.2⟩, hB0⟩
    (fun x => { tmps := #[.func (.func 146) #[] #[.pointer (some ⟨Bs, 0, none⟩)], undef, .pointer (some ⟨w.heap.size, 0, none⟩), .pointer (some ⟨w.heap.size + 1, 0, none⟩), .int .i64 x, .func (.func 146) #[] #[.pointer (some ⟨Bs, 0, none⟩)], .int .i64 x, undef, undef, undef, undef], defers := [] }) ?assign ?body ?done ?stop
  case assign =>
    intro l x W K hK
    gi_wp2
    exact hK
  case body =>
    rintro l pre x W ⟨⟨hp, ⟨hcr, hfr⟩, hcl, hfl⟩, hBB⟩ _
    obtain ⟨q, hq⟩ : ∃ q, q = lastK 0 pre := ⟨_, rfl⟩
    rw [← hq] at hcl
    by_cases hx : x ≤ q
    · gi_wp2
      exact ⟨KeepsOthers.setCell _ _ _, ⟨rfl, by rw [riseB_snoc, ← hq, decide_eq_false (by omega), Bool.and_false], World.cell?_setCell_same' _ _ _ (by rw [hcr]; rfl)⟩, hBB.setCell (p := ⟨w.heap.size, 0, none⟩) (Nat.le_refl _) _⟩
    · gi_wp2
      exact ⟨KeepsOthers.setCell _ _ _, (Below.refl _ _).setCell (p := ⟨w.heap.size + 1, 0, none⟩) (show _ ≤ w.heap.size + 1 by omega) _, ⟨by rw [riseB_snoc, ← hq, hp, decide_eq_true (by omega)]; rfl, ⟨(World.cell?_of_block (Below.heap_setCell _ ⟨w.heap.size + 1, 0, none⟩ _ w.heap.size (show w.heap.size ≠ w.heap.size + 1 by omega))).trans hcr, by rw [World.frozen?_setCell]; exact hfr⟩, by rw [lastK_snoc]; exact World.cell?_setCell_same' _ _ _ (by rw [hcl]; rfl), by rw [World.frozen?_setCell]; exact hfl⟩, hBB.setCell (p := ⟨w.heap.size + 1, 0, none⟩) (show _ ≤ w.heap.size + 1 by omega) _⟩
  case done =>
    rintro D ys W hD rfl ⟨⟨hne, ⟨hcr, hfr⟩, _⟩, hBB⟩ hK
    gi_wp2
    have hK' := (KeepsOthers.setCell W ⟨w.heap.size, 0, none⟩ (.bool true)).same D _ hK rfl
    refine ⟨by simp, .inl ⟨_, _, rfl, run_takeDeferred hK', ?_⟩⟩
    have hc5 := cell_kept (World.cell?_setCell_same' W ⟨w.heap.size, 0, none⟩ (.bool true) (by rw [hcr]; rfl)) (grownBy_putObj' _ D (.deferred none)) (fun r e => by cases e; exact ⟨_, hK', rfl⟩)
    refine ⟨.bool true, ?_, by rw [hr, hne], (hBB.setCell (p := ⟨w.heap.size, 0, none⟩) (Nat.le_refl _) _).trans (belowK_b (w := w) (Nat.le_refl _) _ D _ _ (by simp at hD; omega) hK' rfl rfl)⟩
    simp [results, Try.results112, go_sem, hc5]
  case stop =>
    rintro D c pre W hD hpre ⟨⟨rfl, hin, hcr⟩, hBB⟩ hK
    gi_wp2
    refine ⟨by simp, .inl ⟨_, _, rfl, run_takeDeferred hK, ?_⟩⟩
    have hc5 := cell_kept hcr (grownBy_putObj' _ D (.deferred none)) (fun r e => by cases e; exact ⟨_, hK, rfl⟩)
    refine ⟨.bool false, ?_, by rw [hr, riseB_pre hpre hin], hBB.trans (belowK_b (w := w) (Nat.le_refl _) W D _ _ (by simp at hD; omega) hK rfl rfl)⟩
    simp [results, Try.results112, go_sem, hc5]

end Go.Proofs.Ytaopblgnmmhjfaa
