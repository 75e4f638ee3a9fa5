/- A purse's coins, sorted by their refs. -/
import Derived.Test.YtacjgnefomdoaaaGreatDoorDe
import Derived.Test.YtacjgnefomdoaaaGreatDoorSo
import Derived.Shelf.SlSortCmp.NoneTotal
namespace Go.Proofs.YtacjgnefomdoaaaGreatDoor
open Go.RowKit Go.Maps Go.WideMaps Go.Shelf

instance : Inhabited SC := ⟨⟨(C0, .slice none 0 0), none, 0, 0, rfl⟩⟩

theorem grow_of_below {w w' : World} (hb : Below w.heap.size w w') (hd : w.drawn ≤ w'.drawn) : ∃ q os', w' = Sort.grow (w.drewN q) os' := by
  have hheap : w.heap ++ w'.heap.extract w.heap.size w'.heap.size = w'.heap := by
    apply Array.ext_getElem?
    intro k
    by_cases hk : k < w.heap.size
    · rw [Array.getElem?_append_left hk]; exact (hb.block k hk).symm
    · have := hb.size
      rw [Array.getElem?_append_right (by omega), Array.getElem?_extract]
      by_cases h2 : k < w'.heap.size
      · rw [if_pos (by omega)]
        congr 1
        omega
      · rw [if_neg (by omega), Array.getElem?_eq_none (by omega)]
  refine ⟨w'.drawn - w.drawn, w'.heap.extract w.heap.size w'.heap.size, ?_⟩
  have h1 := hb.os
  have h2 := hb.tape
  have h3 := hb.output
  obtain ⟨a1, a2, a3, a4, a5⟩ := w
  obtain ⟨b1, b2, b3, b4, b5⟩ := w'
  simp only at h1 h2 h3 hheap hd
  subst h1 h2 h3
  simp only [Sort.grow, World.drewN, World.mk.injEq, true_and, and_true]
  exact ⟨hheap.symm, by omega⟩

/-- What compareCoins answers. -/
def cfC (x y : SC) : Int := cmpR (refOf x.1) (refOf y.1)
theorem ltC (x y : SC) : ltOf cfC x y = decide (x.1.1.p < y.1.1.p ∨ (x.1.1.p = y.1.1.p ∧ x.1.1.q < y.1.1.q)) := by
  unfold ltOf cfC refOf
  exact decide_eq_decide.2 cmpR_neg
theorem swoC : Sort.SWO (ltOf cfC) where
  irrefl x := by rw [ltC]; simp
  trans x y z h1 h2 := by rw [ltC] at *; simp at *; omega
  ntrans x y z h1 h2 := by rw [ltC] at *; simp at *; omega

set_option maxRecDepth 20000 in
set_option maxHeartbeats 2000000 in
theorem compareCoins_any (x y : SC) (w : World) : Calls Tryz.prog 135 #[.agg (cellsC x).toArray, .agg (cellsC y).toArray] w fun e w' => e = .returned (.int .i64 (cfC x y)) ∧ ∃ q os', w' = Sort.grow (w.drewN q) os' := by
  obtain ⟨⟨xc, xu⟩, xa, xn, xp, hx⟩ := x
  obtain ⟨⟨yc, yu⟩, ya, yn, yp, hy⟩ := y
  simp only at hx hy
  subst hx hy
  show Calls Tryz.prog 135 #[.agg #[.int .i64 xc.p, .int .i64 xc.q, .int .i64 xc.v, .slice xa xn xp, .int .i64 xc.x, .int .i64 xc.y, .int .i64 xc.h, .bool xc.m], .agg #[.int .i64 yc.p, .int .i64 yc.q, .int .i64 yc.v, .slice ya yn yp, .int .i64 yc.x, .int .i64 yc.y, .int .i64 yc.h, .bool yc.m]] w _
  obtain ⟨t0, t1, t2⟩ := blocks2 w (.cells #[.int .i64 xc.p, .int .i64 xc.q, .int .i64 xc.v, .slice xa xn xp, .int .i64 xc.x, .int .i64 xc.y, .int .i64 xc.h, .bool xc.m] 86) (.cells #[.int .i64 yc.p, .int .i64 yc.q, .int .i64 yc.v, .slice ya yn yp, .int .i64 yc.x, .int .i64 yc.y, .int .i64 yc.h, .bool yc.m] 86)
  have hbx : Below w.heap.size w ((w.alloc (.cells #[.int .i64 xc.p, .int .i64 xc.q, .int .i64 xc.v, .slice xa xn xp, .int .i64 xc.x, .int .i64 xc.y, .int .i64 xc.h, .bool xc.m] 86)).alloc (.cells #[.int .i64 yc.p, .int .i64 yc.q, .int .i64 yc.v, .slice ya yn yp, .int .i64 yc.x, .int .i64 yc.y, .int .i64 yc.h, .bool yc.m] 86)) := below_box2 _ _
  have hc := compareRefs_more xc.p xc.q yc.p yc.q ((w.alloc (.cells #[.int .i64 xc.p, .int .i64 xc.q, .int .i64 xc.v, .slice xa xn xp, .int .i64 xc.x, .int .i64 xc.y, .int .i64 xc.h, .bool xc.m] 86)).alloc (.cells #[.int .i64 yc.p, .int .i64 yc.q, .int .i64 yc.v, .slice ya yn yp, .int .i64 yc.x, .int .i64 yc.y, .int .i64 yc.h, .bool yc.m] 86))
  obtain ⟨⟨s0, s1, s2, s3, s4, s5, s6, s7⟩, _⟩ := cells8 t0
  obtain ⟨⟨r0, r1, r2, r3, r4, r5, r6, r7⟩, _⟩ := cells8 t1
  obtain ⟨k, hk⟩ : ∃ k, k = cmpR (xc.p, xc.q) (yc.p, yc.q) := ⟨_, rfl⟩
  rw [← hk] at hc
  have HK : Hid (cfC ⟨(xc, .slice xa xn xp), xa, xn, xp, rfl⟩ ⟨(yc, .slice ya yn yp), ya, yn, yp, rfl⟩ = k) := hk.symm
  have HBX : Hid (Below w.heap.size w ((w.alloc (.cells #[.int .i64 xc.p, .int .i64 xc.q, .int .i64 xc.v, .slice xa xn xp, .int .i64 xc.x, .int .i64 xc.y, .int .i64 xc.h, .bool xc.m] 86)).alloc (.cells #[.int .i64 yc.p, .int .i64 yc.q, .int .i64 yc.v, .slice ya yn yp, .int .i64 yc.x, .int .i64 yc.y, .int .i64 yc.h, .bool yc.m] 86))) := hbx
  clear hk hbx t0 t1 t2
  go_enter Tryz.func135, Tryz.ntmps135
  go_wp2_with (go_at_call 87; (with_reducible refine hc.mono ?_); clear hc; rintro e w' ⟨rfl, hb, hd⟩)
  go_ret
  exact ⟨by rw [HK.out]; rfl, grow_of_below (HBX.out.trans (hb.mono HBX.out.size)) hd⟩

theorem get_flat : ∀ (ts : List SC) (t : Nat), t < ts.length * 8 → (ts.flatMap cellsC)[t]? = (cellsC (ts[t / 8]!))[t % 8]?
  | [], t, h => by simp at h
  | a :: l, t, h => by
    have hl : (cellsC a).length = 8 := rfl
    rw [List.flatMap_cons]
    by_cases h8 : t < 8
    · rw [List.getElem?_append_left (by omega)]
      have h1 : t / 8 = 0 := by omega
      have h2 : t % 8 = t := by omega
      rw [h1, h2]
      rfl
    · rw [List.getElem?_append_right (by omega), hl, get_flat l (t - 8) (by simp at h; omega)]
      have h1 : t / 8 = (t - 8) / 8 + 1 := by omega
      have h2 : t % 8 = (t - 8) % 8 := by omega
      rw [h1, h2]
      rfl
theorem length_flat (ts : List SC) : (ts.flatMap cellsC).length = ts.length * 8 := by
  induction ts with
  | nil => rfl
  | cons a l ih => rw [List.flatMap_cons, List.length_append, ih]; simp [cellsC]; omega
theorem flat_list (ts : List SC) : (Sort.flatK cellsC 8 ts.toArray).toList = ts.flatMap cellsC := by
  apply List.ext_getElem?
  intro t
  by_cases h : t < ts.length * 8
  · rw [get_flat ts t h, Array.getElem?_toList, Array.getElem?_eq_getElem (by simpa using h)]
    have h1 := Sort.get_flatK cellsC 8 ts.toArray t (by simpa using h)
    rw [getElem!_pos (Sort.flatK cellsC 8 ts.toArray) t (by simpa using h)] at h1
    rw [h1]
    have h2 : t % 8 < (cellsC (ts.toArray[t / 8]!)).length := by show t % 8 < 8; omega
    rw [getElem!_pos (cellsC (ts.toArray[t / 8]!)) (t % 8) h2, ← List.getElem?_eq_getElem h2]
    simp
  · rw [List.getElem?_eq_none (by simp; omega), List.getElem?_eq_none (by rw [length_flat]; omega)]

theorem holds_coins {w : World} {g cap base : Nat} {ss : List SC} (h : w.ownsRow base 86 8 (.slice (some ⟨g, 0, none⟩) ss.length cap) ss.length (ss.flatMap cellsC)) : Sort.HoldsK cellsC 8 w g 0 ss.toArray := by
  intro j hj
  have hj' : j < ss.length * 8 := by simpa using hj
  refine ⟨?_, h.frozenAt _⟩
  rw [Nat.zero_add, h.cellAt j hj', ← flat_list, Array.getElem?_toList, getElem!_pos (Sort.flatK cellsC 8 ss.toArray) j hj, Array.getElem?_eq_getElem hj]
  rfl

theorem block_sorted {w : World} {g n : Nat} {os : Array Obj} {cur : Array Value} {e : TypeId} {fr : Nat × Nat} (d : Array Value) (hb : w.heap[g]? = some (.cells cur e fr)) :
    (Sort.grow (Sort.putRow id (Sort.ahead w n) g 0 d) os).heap[g]? = some (.cells (Sort.putCells id 0 d cur) e fr) := by
  have hg : g < w.heap.size := (Array.getElem?_eq_some_iff.1 hb).1
  rw [Sort.heap_grow_old _ _ (by simpa using hg)]
  simp [Sort.putRow, Sort.mapBlock, Sort.ahead, Array.getElem?_modify, hb, Sort.onCells]
theorem grown_sorted {w : World} {g n : Nat} {os : Array Obj} (d : Array Value) : w.grownBy (Sort.grow (Sort.putRow id (Sort.ahead w n) g 0 d) os) (some g) := by
  refine ⟨rfl, rfl, rfl, by simp, fun k hk hne => ?_⟩
  rw [Sort.heap_grow_old _ _ (by simpa using hk)]
  have : g ≠ k := fun e => hne (by rw [e])
  simp [Sort.putRow, Sort.mapBlock, Sort.ahead, Array.getElem?_modify, this]
theorem take_cells (cur d : Array Value) (h : d.size ≤ cur.size) : (Sort.putCells id 0 d cur).toList.take d.size = d.toList := by
  apply List.ext_getElem?
  intro j
  by_cases hj : j < d.size
  · rw [List.getElem?_take_of_lt hj, Array.getElem?_toList]
    simp [Sort.putCells, hj, show j < cur.size by omega]
  · rw [List.getElem?_take_eq_none (by omega), List.getElem?_eq_none (by simp; omega)]

theorem row_sorted {w : World} {g cap base n : Nat} {os : Array Obj} {ss ts : List SC} (hl : ts.length = ss.length) (h : w.ownsRow base 86 8 (.slice (some ⟨g, 0, none⟩) ss.length cap) ss.length (ss.flatMap cellsC)) :
    (sortWorldK cellsC 8 w g 0 n ts.toArray os).ownsRow base 86 8 (.slice (some ⟨g, 0, none⟩) ss.length cap) ss.length (ts.flatMap cellsC) := by
  rcases h.2 with ⟨e1, _⟩ | ⟨g', cap', cur, e1, hbase, hb, h1, h2, h3, h4⟩
  · cases e1
  · cases e1
    refine ⟨by rw [length_flat, hl], .inr ⟨g, cap, _, rfl, hbase, block_sorted _ hb, h1, h2, by simp [Sort.putCells, h3], ?_⟩⟩
    have hs : (Sort.flatK cellsC 8 ts.toArray).size = ss.length * 8 := by simp [hl]
    have := take_cells cur (Sort.flatK cellsC 8 ts.toArray) (by rw [hs, h3]; exact Nat.mul_le_mul_right _ h1)
    rw [hs, flat_list] at this
    exact this

set_option maxHeartbeats 2000000 in
theorem sortC_any (g cap base : Nat) (ss : List SC) (w : World) (h : w.ownsRow base 86 8 (.slice (some ⟨g, 0, none⟩) ss.length cap) ss.length (ss.flatMap cellsC)) (hlen : ss.length ≤ 1000) :
    Calls Tryz.prog 150 #[.slice (some ⟨g, 0, none⟩) ss.length cap, .func (.func 135) #[] #[]] w fun e w' => e = .returned (.tuple #[]) ∧
      ∃ ts : List SC, ts.Perm ss ∧ (ts.Pairwise fun x y => ltOf cfC y x = false) ∧ w'.ownsRow base 86 8 (.slice (some ⟨g, 0, none⟩) ss.length cap) ss.length (ts.flatMap cellsC) ∧ w.grownBy w' (some g) := by
  have eg : ∀ args w, (callFunc 135 args).run Tryz.prog w = .ok (.enter 135 args) w := enters_of Tryz.func135 (by kernel_rfl) rfl
  have hcon := AnyQ.slices_SortFunc Tryz.sortC 8 Tryz.isAgg86 Tryz.sizeOf86 cellsC (fun _ => rfl) (fun x v hv => by
    obtain ⟨⟨xc, xu⟩, xa, xn, xp, hx⟩ := x
    simp only at hx
    subst hx
    simp [cellsC] at hv
    rcases hv with rfl | rfl | rfl | rfl | rfl | rfl | rfl | rfl <;> rfl) cfC swoC 135 #[] g 0 cap ss.toArray w eg (fun _ _ _ _ x y => compareCoins_any x y _) (holds_coins h) (h.lt g rfl).2 (by simp; omega)
  refine Calls.mono (show Calls Tryz.prog 150 #[.slice (some ⟨g, 0, none⟩) ss.length cap, .func (.func 135) #[] #[]] w _ from hcon) ?_
  rintro e w' ⟨rfl, d', n, os, hp, hs, rfl⟩
  have hsz : d'.size = ss.length := by simpa using hp.1
  have hd : d'.toList.toArray = d' := by simp
  refine ⟨rfl, d'.toList, ?_, ?_, ?_, ?_⟩
  · have h3 := hp.2.2
    simp only [List.size_toArray] at h3
    rw [← hsz, Array.extract_size] at h3
    rw [hsz] at h3
    simpa using h3
  · rw [List.pairwise_iff_getElem]
    intro i j hi hj hij
    have hi' : i < d'.size := by simpa using hi
    have hj' : j < d'.size := by simpa using hj
    have := hs i j (Nat.zero_le _) hij (by simpa [hsz] using hj')
    rw [getElem!_pos d' i hi', getElem!_pos d' j hj'] at this
    simpa using this
  · have := row_sorted (n := n) (os := os) (ts := d'.toList) (by simpa using hsz) h
    rwa [hd] at this
  · exact grown_sorted _

end Go.Proofs.YtacjgnefomdoaaaGreatDoor
