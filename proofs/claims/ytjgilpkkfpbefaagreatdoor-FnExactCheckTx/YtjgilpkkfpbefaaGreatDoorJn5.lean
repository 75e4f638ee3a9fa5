/- A purse's coins, sorted by their refs. The purse tells its coins, rising by their refs. The program takes coins out of its purse. The program's TakeCoins keeps its contract. A transaction is taken back: what it comes to, without a world. -/
import Derived.Test.YtjgilpkkfpbefaaGreatDoorJn4
import Derived.Test.YtjgilpkkfpbefaaGreatDoorSo
import Derived.Shelf.SlSortCmp.NoneTotal
import Derived.Test.YtjgilpkkfpbefaaGreatDoorJn3
import Derived.Maps.RangeWalk
import Derived.Test.YtjgilpkkfpbefaaGreatDoorJn2
import Derived.Test.YtjgilpkkfpbefaaGreatDoorJn1
namespace Go.Proofs.YtjgilpkkfpbefaaGreatDoor
open Go.RowKit Go.Maps Go.WideMaps Go.Shelf

instance : Inhabited SC := ⟨⟨(C0, .slice none 0 0), none, 0, 0, rfl⟩⟩

theorem grow_of_below {w w' : World} (hb : Below w.heap.size w w') (hd : w.drawn ≤ w'.drawn) : ∃ q os', w' = Sort.grow (w.drewN q) os' := by
  have hheap : w.heap ++ w'.heap.extract w.heap.size w'.heap.size = w'.heap := by
    apply Array.ext_getElem?
    intro k
    by_cases hk : k < w.heap.size
    · rw [Array.getElem?_append_left hk]; exact (hb.block k hk).symm
    · have := hb.size
      rw [Array.getElem?_append_right (by omega), Array.getElem?_extract]
      by_cases h2 : k < w'.heap.size
      · rw [if_pos (by omega)]
        congr 1
        omega
      · rw [if_neg (by omega), Array.getElem?_eq_none (by omega)]
  refine ⟨w'.drawn - w.drawn, w'.heap.extract w.heap.size w'.heap.size, ?_⟩
  have h1 := hb.os
  have h2 := hb.tape
  have h3 := hb.output
  obtain ⟨a1, a2, a3, a4, a5⟩ := w
  obtain ⟨b1, b2, b3, b4, b5⟩ := w'
  simp only at h1 h2 h3 hheap hd
  subst h1 h2 h3
  simp only [Sort.grow, World.drewN, World.mk.injEq, true_and, and_true]
  exact ⟨hheap.symm, by omega⟩

/-- What compareCoins answers. -/
def cfC (x y : SC) : Int := cmpR (refOf x.1) (refOf y.1)
theorem ltC (x y : SC) : ltOf cfC x y = decide (x.1.1.p < y.1.1.p ∨ (x.1.1.p = y.1.1.p ∧ x.1.1.q < y.1.1.q)) := by
  unfold ltOf cfC refOf
  exact decide_eq_decide.2 cmpR_neg
theorem swoC : Sort.SWO (ltOf cfC) where
  irrefl x := by rw [ltC]; simp
  trans x y z h1 h2 := by rw [ltC] at *; simp at *; omega
  ntrans x y z h1 h2 := by rw [ltC] at *; simp at *; omega

set_option maxRecDepth 20000 in
set_option maxHeartbeats 2000000 in
theorem compareCoins_any (x y : SC) (w : World) : Calls Tryz.prog 135 #[.agg (cellsC x).toArray, .agg (cellsC y).toArray] w fun e w' => e = .returned (.int .i64 (cfC x y)) ∧ ∃ q os', w' = Sort.grow (w.drewN q) os' := by
  obtain ⟨⟨xc, xu⟩, xa, xn, xp, hx⟩ := x
  obtain ⟨⟨yc, yu⟩, ya, yn, yp, hy⟩ := y
  simp only at hx hy
  subst hx hy
  show Calls Tryz.prog 135 #[.agg #[.int .i64 xc.p, .int .i64 xc.q, .int .i64 xc.v, .slice xa xn xp, .int .i64 xc.x, .int .i64 xc.y, .int .i64 xc.h, .bool xc.m], .agg #[.int .i64 yc.p, .int .i64 yc.q, .int .i64 yc.v, .slice ya yn yp, .int .i64 yc.x, .int .i64 yc.y, .int .i64 yc.h, .bool yc.m]] w _
  obtain ⟨t0, t1, t2⟩ := blocks2 w (.cells #[.int .i64 xc.p, .int .i64 xc.q, .int .i64 xc.v, .slice xa xn xp, .int .i64 xc.x, .int .i64 xc.y, .int .i64 xc.h, .bool xc.m] 86) (.cells #[.int .i64 yc.p, .int .i64 yc.q, .int .i64 yc.v, .slice ya yn yp, .int .i64 yc.x, .int .i64 yc.y, .int .i64 yc.h, .bool yc.m] 86)
  have hbx : Below w.heap.size w ((w.alloc (.cells #[.int .i64 xc.p, .int .i64 xc.q, .int .i64 xc.v, .slice xa xn xp, .int .i64 xc.x, .int .i64 xc.y, .int .i64 xc.h, .bool xc.m] 86)).alloc (.cells #[.int .i64 yc.p, .int .i64 yc.q, .int .i64 yc.v, .slice ya yn yp, .int .i64 yc.x, .int .i64 yc.y, .int .i64 yc.h, .bool yc.m] 86)) := below_box2 _ _
  have hc := compareRefs_more xc.p xc.q yc.p yc.q ((w.alloc (.cells #[.int .i64 xc.p, .int .i64 xc.q, .int .i64 xc.v, .slice xa xn xp, .int .i64 xc.x, .int .i64 xc.y, .int .i64 xc.h, .bool xc.m] 86)).alloc (.cells #[.int .i64 yc.p, .int .i64 yc.q, .int .i64 yc.v, .slice ya yn yp, .int .i64 yc.x, .int .i64 yc.y, .int .i64 yc.h, .bool yc.m] 86))
  obtain ⟨⟨s0, s1, s2, s3, s4, s5, s6, s7⟩, _⟩ := cells8 t0
  obtain ⟨⟨r0, r1, r2, r3, r4, r5, r6, r7⟩, _⟩ := cells8 t1
  obtain ⟨k, hk⟩ : ∃ k, k = cmpR (xc.p, xc.q) (yc.p, yc.q) := ⟨_, rfl⟩
  rw [← hk] at hc
  have HK : Hid (cfC ⟨(xc, .slice xa xn xp), xa, xn, xp, rfl⟩ ⟨(yc, .slice ya yn yp), ya, yn, yp, rfl⟩ = k) := hk.symm
  have HBX : Hid (Below w.heap.size w ((w.alloc (.cells #[.int .i64 xc.p, .int .i64 xc.q, .int .i64 xc.v, .slice xa xn xp, .int .i64 xc.x, .int .i64 xc.y, .int .i64 xc.h, .bool xc.m] 86)).alloc (.cells #[.int .i64 yc.p, .int .i64 yc.q, .int .i64 yc.v, .slice ya yn yp, .int .i64 yc.x, .int .i64 yc.y, .int .i64 yc.h, .bool yc.m] 86))) := hbx
  clear hk hbx t0 t1 t2
  go_enter Tryz.func135, Tryz.ntmps135
  go_wp2_with (go_at_call 87; (with_reducible refine hc.mono ?_); clear hc; rintro e w' ⟨rfl, hb, hd⟩)
  go_ret
  exact ⟨by rw [HK.out]; rfl, grow_of_below (HBX.out.trans (hb.mono HBX.out.size)) hd⟩

theorem get_flat : ∀ (ts : List SC) (t : Nat), t < ts.length * 8 → (ts.flatMap cellsC)[t]? = (cellsC (ts[t / 8]!))[t % 8]?
  | [], t, h => by simp at h
  | a :: l, t, h => by
    have hl : (cellsC a).length = 8 := rfl
    rw [List.flatMap_cons]
    by_cases h8 : t < 8
    · rw [List.getElem?_append_left (by omega)]
      have h1 : t / 8 = 0 := by omega
      have h2 : t % 8 = t := by omega
      rw [h1, h2]
      rfl
    · rw [List.getElem?_append_right (by omega), hl, get_flat l (t - 8) (by simp at h; omega)]
      have h1 : t / 8 = (t - 8) / 8 + 1 := by omega
      have h2 : t % 8 = (t - 8) % 8 := by omega
      rw [h1, h2]
      rfl
theorem length_flat (ts : List SC) : (ts.flatMap cellsC).length = ts.length * 8 := by
  induction ts with
  | nil => rfl
  | cons a l ih => rw [List.flatMap_cons, List.length_append, ih]; simp [cellsC]; omega
theorem flat_list (ts : List SC) : (Sort.flatK cellsC 8 ts.toArray).toList = ts.flatMap cellsC := by
  apply List.ext_getElem?
  intro t
  by_cases h : t < ts.length * 8
  · rw [get_flat ts t h, Array.getElem?_toList, Array.getElem?_eq_getElem (by simpa using h)]
    have h1 := Sort.get_flatK cellsC 8 ts.toArray t (by simpa using h)
    rw [getElem!_pos (Sort.flatK cellsC 8 ts.toArray) t (by simpa using h)] at h1
    rw [h1]
    have h2 : t % 8 < (cellsC (ts.toArray[t / 8]!)).length := by show t % 8 < 8; omega
    rw [getElem!_pos (cellsC (ts.toArray[t / 8]!)) (t % 8) h2, ← List.getElem?_eq_getElem h2]
    simp
  · rw [List.getElem?_eq_none (by simp; omega), List.getElem?_eq_none (by rw [length_flat]; omega)]

theorem holds_coins {w : World} {g cap base : Nat} {ss : List SC} (h : w.ownsRow base 86 8 (.slice (some ⟨g, 0, none⟩) ss.length cap) ss.length (ss.flatMap cellsC)) : Sort.HoldsK cellsC 8 w g 0 ss.toArray := by
  intro j hj
  have hj' : j < ss.length * 8 := by simpa using hj
  refine ⟨?_, h.frozenAt _⟩
  rw [Nat.zero_add, h.cellAt j hj', ← flat_list, Array.getElem?_toList, getElem!_pos (Sort.flatK cellsC 8 ss.toArray) j hj, Array.getElem?_eq_getElem hj]
  rfl

theorem block_sorted {w : World} {g n : Nat} {os : Array Obj} {cur : Array Value} {e : TypeId} {fr : Nat × Nat} (d : Array Value) (hb : w.heap[g]? = some (.cells cur e fr)) :
    (Sort.grow (Sort.putRow id (Sort.ahead w n) g 0 d) os).heap[g]? = some (.cells (Sort.putCells id 0 d cur) e fr) := by
  have hg : g < w.heap.size := (Array.getElem?_eq_some_iff.1 hb).1
  rw [Sort.heap_grow_old _ _ (by simpa using hg)]
  simp [Sort.putRow, Sort.mapBlock, Sort.ahead, Array.getElem?_modify, hb, Sort.onCells]
theorem grown_sorted {w : World} {g n : Nat} {os : Array Obj} (d : Array Value) : w.grownBy (Sort.grow (Sort.putRow id (Sort.ahead w n) g 0 d) os) (some g) := by
  refine ⟨rfl, rfl, rfl, by simp, fun k hk hne => ?_⟩
  rw [Sort.heap_grow_old _ _ (by simpa using hk)]
  have : g ≠ k := fun e => hne (by rw [e])
  simp [Sort.putRow, Sort.mapBlock, Sort.ahead, Array.getElem?_modify, this]
theorem take_cells (cur d : Array Value) (h : d.size ≤ cur.size) : (Sort.putCells id 0 d cur).toList.take d.size = d.toList := by
  apply List.ext_getElem?
  intro j
  by_cases hj : j < d.size
  · rw [List.getElem?_take_of_lt hj, Array.getElem?_toList]
    simp [Sort.putCells, hj, show j < cur.size by omega]
  · rw [List.getElem?_take_eq_none (by omega), List.getElem?_eq_none (by simp; omega)]

theorem row_sorted {w : World} {g cap base n : Nat} {os : Array Obj} {ss ts : List SC} (hl : ts.length = ss.length) (h : w.ownsRow base 86 8 (.slice (some ⟨g, 0, none⟩) ss.length cap) ss.length (ss.flatMap cellsC)) :
    (sortWorldK cellsC 8 w g 0 n ts.toArray os).ownsRow base 86 8 (.slice (some ⟨g, 0, none⟩) ss.length cap) ss.length (ts.flatMap cellsC) := by
  rcases h.2 with ⟨e1, _⟩ | ⟨g', cap', cur, e1, hbase, hb, h1, h2, h3, h4⟩
  · cases e1
  · cases e1
    refine ⟨by rw [length_flat, hl], .inr ⟨g, cap, _, rfl, hbase, block_sorted _ hb, h1, h2, by simp [Sort.putCells, h3], ?_⟩⟩
    have hs : (Sort.flatK cellsC 8 ts.toArray).size = ss.length * 8 := by simp [hl]
    have := take_cells cur (Sort.flatK cellsC 8 ts.toArray) (by rw [hs, h3]; exact Nat.mul_le_mul_right _ h1)
    rw [hs, flat_list] at this
    exact this

set_option maxHeartbeats 2000000 in
theorem sortC_any (g cap base : Nat) (ss : List SC) (w : World) (h : w.ownsRow base 86 8 (.slice (some ⟨g, 0, none⟩) ss.length cap) ss.length (ss.flatMap cellsC)) (hlen : ss.length ≤ 1000) :
    Calls Tryz.prog 150 #[.slice (some ⟨g, 0, none⟩) ss.length cap, .func (.func 135) #[] #[]] w fun e w' => e = .returned (.tuple #[]) ∧
      ∃ ts : List SC, ts.Perm ss ∧ (ts.Pairwise fun x y => ltOf cfC y x = false) ∧ w'.ownsRow base 86 8 (.slice (some ⟨g, 0, none⟩) ss.length cap) ss.length (ts.flatMap cellsC) ∧ w.grownBy w' (some g) := by
  have eg : ∀ args w, (callFunc 135 args).run Tryz.prog w = .ok (.enter 135 args) w := enters_of Tryz.func135 (by kernel_rfl) rfl
  have hcon := AnyQ.slices_SortFunc Tryz.sortC 8 Tryz.isAgg86 Tryz.sizeOf86 cellsC (fun _ => rfl) (fun x v hv => by
    obtain ⟨⟨xc, xu⟩, xa, xn, xp, hx⟩ := x
    simp only at hx
    subst hx
    simp [cellsC] at hv
    rcases hv with rfl | rfl | rfl | rfl | rfl | rfl | rfl | rfl <;> rfl) cfC swoC 135 #[] g 0 cap ss.toArray w eg (fun _ _ _ _ x y => compareCoins_any x y _) (holds_coins h) (h.lt g rfl).2 (by simp; omega)
  refine Calls.mono (show Calls Tryz.prog 150 #[.slice (some ⟨g, 0, none⟩) ss.length cap, .func (.func 135) #[] #[]] w _ from hcon) ?_
  rintro e w' ⟨rfl, d', n, os, hp, hs, rfl⟩
  have hsz : d'.size = ss.length := by simpa using hp.1
  have hd : d'.toList.toArray = d' := by simp
  refine ⟨rfl, d'.toList, ?_, ?_, ?_, ?_⟩
  · have h3 := hp.2.2
    simp only [List.size_toArray] at h3
    rw [← hsz, Array.extract_size] at h3
    rw [hsz] at h3
    simpa using h3
  · rw [List.pairwise_iff_getElem]
    intro i j hi hj hij
    have hi' : i < d'.size := by simpa using hi
    have hj' : j < d'.size := by simpa using hj
    have := hs i j (Nat.zero_le _) hij (by simpa [hsz] using hj')
    rw [getElem!_pos d' i hi', getElem!_pos d' j hj'] at this
    simpa using this
  · have := row_sorted (n := n) (os := os) (ts := d'.toList) (by simpa using hsz) h
    rwa [hd] at this
  · exact grown_sorted _

end Go.Proofs.YtjgilpkkfpbefaaGreatDoor

namespace Go.Proofs.YtjgilpkkfpbefaaGreatDoor
open Go.RowKit Go.Maps Go.WideMaps Go.Shelf

theorem sortAny (v : Value) (base : Nat) (ss : List SC) (w : World) (h : w.ownsRow base 86 8 v ss.length (ss.flatMap cellsC)) (hlen : ss.length ≤ 1000) :
    Calls Tryz.prog 150 #[v, .func (.func 135) #[] #[]] w fun e w' => e = .returned (.tuple #[]) ∧
      ∃ ts : List SC, ts.Perm ss ∧ (ts.Pairwise fun x y => ltOf cfC y x = false) ∧ w'.ownsRow base 86 8 v ss.length (ts.flatMap cellsC) ∧ w.grownBy w' v.ownBlock := by
  rcases id h.2 with ⟨rfl, h0⟩ | ⟨g, cap, cur, rfl, _⟩
  · have hn := AnyF.slices_SortFunc_none Tryz.sortC none 0 (.func (.func 135) #[] #[]) w
    refine Calls.mono (show Calls Tryz.prog 150 #[.slice none 0 0, .func (.func 135) #[] #[]] w _ from hn) ?_
    rintro e w' ⟨rfl, rfl⟩
    have hs : ss = [] := List.eq_nil_of_length_eq_zero h0
    subst hs
    exact ⟨rfl, [], List.Perm.refl _, List.Pairwise.nil, h, World.grownBy.refl _ _⟩
  · exact sortC_any g cap base ss w h hlen

theorem length_all {ps : List (Co × Value)} {ss : List SC} (h : AllC ps ss) : ss.length ≤ ps.length := by
  obtain ⟨h1, h2, _⟩ := h
  have h3 : (ss.map Subtype.val).Pairwise (fun x y => refOf x ≠ refOf y) := by rw [List.pairwise_map]; exact h2
  have h4 : ∀ x ∈ ss.map Subtype.val, x ∈ ps := fun x hx => by
    obtain ⟨y, hy, rfl⟩ := List.mem_map.1 hx
    exact h1 y hy
  have key : ∀ (l : List (Co × Value)) (ps : List (Co × Value)), l.Pairwise (fun x y => refOf x ≠ refOf y) → (∀ x ∈ l, x ∈ ps) → l.length ≤ ps.length := by
    intro l
    induction l with
    | nil => intro ps _ _; simp
    | cons a t ih =>
      intro ps hp hm
      rw [List.pairwise_cons] at hp
      obtain ⟨s1, s2, rfl⟩ := List.append_of_mem (hm a (by simp))
      have := ih (s1 ++ s2) hp.2 fun x hx => by
        have h5 := hm x (by simp [hx])
        have h6 : x ≠ a := fun e => hp.1 x hx (by rw [e])
        simp at h5 ⊢
        rcases h5 with h5 | h5 | h5
        · exact .inl h5
        · exact absurd h5 h6
        · exact .inr h5
      simp at this ⊢
      omega
  simpa using key _ ps h3 h4

set_option maxHeartbeats 1000000 in
theorem sortedFunc_any (Bm b lo : Nat) (ps : List (Co × Value)) (w : World) (hps : ps.length ≤ 1000) (hBm : Bm < w.heap.size) (hm : w.cell? ⟨Bm, 0, none⟩ = some (.map (some b))) (hP : Pu w lo b ps) :
    Calls Tryz.prog 133 #[.func (.func 151) #[] #[.pointer (some ⟨Bm, 0, none⟩)], .func (.func 135) #[] #[]] w fun e w' =>
      ∃ (v : Value) (ts : List SC), e = .returned v ∧ Hid (AllC ps ts ∧ (ts.Pairwise fun x y => ltOf cfC y x = false) ∧ w'.ownsRow w.heap.size 86 8 v ts.length (ts.flatMap cellsC) ∧ Below w.heap.size w w') := by
  have hc : Calls Tryz.prog 149 #[.func (.func 151) #[] #[.pointer (some ⟨Bm, 0, none⟩)]] w fun e w' => ∃ v, e = .returned v ∧ Hid (∃ ss : List SC, AllC ps ss ∧ w'.ownsRow w.heap.size 86 8 v ss.length (ss.flatMap cellsC) ∧ Below w.heap.size w w') :=
    (collectC Bm b lo ps w hps hBm hm hP).mono fun e w' ⟨v, ss, h1, h2, h3, _, h5⟩ => ⟨v, h1, ss, h2, h3, h5⟩
  have hs : ∀ v w1, Hid (∃ ss : List SC, AllC ps ss ∧ w1.ownsRow w.heap.size 86 8 v ss.length (ss.flatMap cellsC) ∧ Below w.heap.size w w1) → Calls Tryz.prog 150 #[v, .func (.func 135) #[] #[]] w1 fun e w' => e = .returned (.tuple #[]) ∧ Hid (∃ ts : List SC, AllC ps ts ∧ (ts.Pairwise fun x y => ltOf cfC y x = false) ∧ w'.ownsRow w.heap.size 86 8 v ts.length (ts.flatMap cellsC) ∧ Below w.heap.size w w') := fun v w1 h => by
    obtain ⟨ss, h1, h2, h3⟩ := h.out
    refine (sortAny v w.heap.size ss w1 h2 (Nat.le_trans (length_all h1) hps)).mono ?_
    rintro e w' ⟨rfl, ts, q1, q2, q3, q4⟩
    refine ⟨rfl, ts, ⟨fun x hx => h1.1 x (q1.mem_iff.1 hx), ?_, fun x hx => ?_⟩, q2, by rw [q1.length_eq]; exact q3, h3.grown q4 h3.size (fun k e => (h2.lt k e).1)⟩
    · exact (q1.pairwise_iff (fun {a b} (h : refOf a.1 ≠ refOf b.1) => h.symm)).2 h1.2.1
    · obtain ⟨y, hy, e⟩ := h1.2.2 x hx
      exact ⟨y, q1.mem_iff.2 hy, e⟩
  clear hP hm
  go_enter Tryz.func133, Tryz.ntmps133
  go_wp2_with (first
    | (go_at_call 149; (with_reducible refine hc.mono ?_); clear hc; rintro e w1 ⟨v, rfl, HS⟩; have hs' := hs v w1 HS; clear hs)
    | (go_at_call 150; (with_reducible refine hs'.mono ?_); clear hs'; rintro e w2 ⟨rfl, HT⟩))
  go_ret
  obtain ⟨ts, h1, h2, h3, h4⟩ := HT.out
  exact ⟨v, ts, rfl, h1, h2, h3, h4⟩

/-- Coins that rise are the same list where they are the same coins. -/
theorem rise_unique : ∀ (a b : List Co), a.Pairwise (fun x y => 0 < cmpR (y.p, y.q) (x.p, x.q)) → b.Pairwise (fun x y => 0 < cmpR (y.p, y.q) (x.p, x.q)) → (∀ c, c ∈ a ↔ c ∈ b) → a = b
  | [], [], _, _, _ => rfl
  | [], y :: b, _, _, h => by have := (h y).2 (by simp); cases this
  | x :: a, [], _, _, h => by have := (h x).1 (by simp); cases this
  | x :: a, y :: b, h1, h2, h => by
    rw [List.pairwise_cons] at h1 h2
    have e : x = y := by
      rcases List.mem_cons.1 ((h x).1 (by simp)) with e | hx
      · exact e
      · rcases List.mem_cons.1 ((h y).2 (by simp)) with e | hy
        · exact e.symm
        · have i1 := cmpR_pos.1 (h2.1 x hx)
          have i2 := cmpR_pos.1 (h1.1 y hy)
          omega
    subst e
    rw [rise_unique a b h1.2 h2.2 fun c => ?_]
    constructor
    · intro hc
      rcases List.mem_cons.1 ((h c).1 (by simp [hc])) with e | hx
      · subst e
        have := cmpR_pos.1 (h1.1 c hc)
        omega
      · exact hx
    · intro hc
      rcases List.mem_cons.1 ((h c).2 (by simp [hc])) with e | hx
      · subst e
        have := cmpR_pos.1 (h2.1 c hc)
        omega
      · exact hx

theorem pair_of {α : Type} {R : α → α → Prop} (hs : ∀ x y, R x y → R y x) : ∀ {l : List α}, l.Pairwise R → ∀ x ∈ l, ∀ y ∈ l, x ≠ y → R x y
  | a :: l, h, x, hx, y, hy, hne => by
    rw [List.pairwise_cons] at h
    rcases List.mem_cons.1 hx with e1 | h1 <;> rcases List.mem_cons.1 hy with e2 | h2
    · exact absurd (e1.trans e2.symm) hne
    · rw [e1]; exact h.1 y h2
    · rw [e2]; exact hs _ _ (h.1 x h1)
    · exact pair_of hs h.2 x h1 y h2 hne

theorem cells_flat (ts : List SC) {j : Nat} (hj : j < ts.length) : CellsC (ts.flatMap cellsC) j (ts[j]!).1.1 (ts[j]!).1.2 := by
  have g : ∀ i, i < 8 → (ts.flatMap cellsC)[j * 8 + i]? = (cellsC (ts[j]!))[i]? := fun i hi => by
    rw [get_flat ts (j * 8 + i) (by omega)]
    have h1 : (j * 8 + i) / 8 = j := by omega
    have h2 : (j * 8 + i) % 8 = i := by omega
    rw [h1, h2]
  exact ⟨g 0 (by omega), g 1 (by omega), g 2 (by omega), g 3 (by omega), g 4 (by omega), g 5 (by omega), g 6 (by omega), g 7 (by omega)⟩

/-- What the sorted row is: coins of their own. -/
theorem own_of_sorted {w w' : World} {lo B : Nat} {ps : List (Co × Value)} {cs : List Co} {v : Value} {ts : List SC} (hP : Pu w lo B ps) (hlo : lo ≤ w.heap.size) (hri : cs.Pairwise (fun x y => 0 < cmpR (y.p, y.q) (x.p, x.q))) (hmem : ∀ c, c ∈ cs ↔ c ∈ ps.map (·.1))
    (hA : AllC ps ts) (hs : ts.Pairwise fun x y => ltOf cfC y x = false) (hrow : w'.ownsRow w.heap.size 86 8 v ts.length (ts.flatMap cellsC)) (hb : Below w.heap.size w w') :
    ∃ kv, COwn w' lo w'.heap.size v cs.length (fun j => cs.getD j C0) kv := by
  have hts : ts.map (fun x => x.1.1) = cs := by
    refine rise_unique _ _ ?_ hri fun c => ?_
    · rw [List.pairwise_map]
      refine (List.pairwise_and_iff.2 ⟨hs, hA.2.1⟩).imp ?_
      rintro x y ⟨h1, h2⟩
      rw [ltC] at h1
      have h3 : ¬ (x.1.1.p = y.1.1.p ∧ x.1.1.q = y.1.1.q) := fun e => h2 (by unfold refOf; rw [e.1, e.2])
      simp at h1
      exact cmpR_pos.2 (by omega)
    · rw [hmem c]
      constructor
      · intro h
        obtain ⟨x, hx, rfl⟩ := List.mem_map.1 h
        exact List.mem_map.2 ⟨x.1, hA.1 x hx, rfl⟩
      · intro h
        obtain ⟨x, hx, rfl⟩ := List.mem_map.1 h
        obtain ⟨y, hy, rfl⟩ := hA.2.2 x hx
        exact List.mem_map.2 ⟨y, hy, rfl⟩
  have hlen : cs.length = ts.length := by rw [← hts]; simp
  have hf : ∀ j, j < ts.length → cs.getD j C0 = (ts[j]!).1.1 := fun j hj => by
    rw [← hts]
    simp [List.getD, hj]
  have hmm : ∀ j, j < ts.length → ts[j]! ∈ ts := fun j hj => by rw [getElem!_pos ts j hj]; exact List.getElem_mem _
  refine ⟨fun j => (ts[j]!).1.2, ⟨ts.flatMap cellsC, by rw [hlen]; exact Joins.ownsRow_le hrow hlo, fun j hj => ?_⟩, fun b hb2 => (hrow.lt b hb2).2, fun j hj => ?_, fun i j hij hj b hb1 => ?_⟩
  · rw [hlen] at hj
    rw [hf j hj]
    exact cells_flat ts hj
  · rw [hlen] at hj
    have h1 := hP.rows _ (hA.1 _ (hmm j hj))
    have h2 : w'.ownsRow lo 2 1 (ts[j]!).1.2 (ts[j]!).1.1.l.length (ints (ts[j]!).1.1.l) := h1.kept (grown_of_below hb) (by cases Value.ownBlock (ts[j]!).1.2 <;> simp)
    rw [hf j hj]
    exact ⟨h2, fun b hb2 => (h2.lt b hb2).2⟩
  · rw [hlen] at hj
    have hi : i < ts.length := by omega
    have hne : (ts[i]!).1 ≠ (ts[j]!).1 := fun e => by
      have := List.pairwise_iff_getElem.1 hA.2.1 i j hi hj hij
      rw [getElem!_pos ts i hi, getElem!_pos ts j hj] at e
      exact this (by rw [e])
    exact pair_of (R := fun x y : Co × Value => ∀ b, x.2.ownBlock = some b → y.2.ownBlock ≠ some b) (fun x y h b h1 h2 => h b h2 h1) hP.apart _ (hA.1 _ (hmm i hi)) _ (hA.1 _ (hmm j hj)) hne b hb1

set_option maxHeartbeats 1000000 in
theorem coins_any (B lo : Nat) (ps : List (Co × Value)) (cs : List Co) (w : World) (hP : Pu w lo B ps) (hlo : lo ≤ w.heap.size) (hps : ps.length ≤ 1000) (hri : cs.Pairwise (fun x y => 0 < cmpR (y.p, y.q) (x.p, x.q))) (hmem : ∀ c, c ∈ cs ↔ c ∈ ps.map (·.1)) :
    Calls Tryz.prog 117 #[.map (some B)] w fun e w' => ∃ v, e = .returned v ∧ Hid ((∃ kv, COwn w' lo w'.heap.size v cs.length (fun j => cs.getD j C0) kv) ∧ Below w.heap.size w w') := by
  have hv := values_any B w
  have hbx : Below w.heap.size w (w.alloc (.cells #[.map (some B)] 97)) := below_box _
  have hX := heap_alloc_new w (.cells #[.map (some B)] 97)
  have hc : (w.alloc (.cells #[.map (some B)] 97)).cell? ⟨w.heap.size, 0, none⟩ = some (.map (some B)) := by unfold World.cell?; rw [hX]; rfl
  have hs : Calls Tryz.prog 133 #[.func (.func 151) #[] #[.pointer (some ⟨w.heap.size, 0, none⟩)], .func (.func 135) #[] #[]] (w.alloc (.cells #[.map (some B)] 97)) fun e w' => ∃ v, e = .returned v ∧ Hid ((∃ kv, COwn w' lo w'.heap.size v cs.length (fun j => cs.getD j C0) kv) ∧ Below w.heap.size w w') :=
    (sortedFunc_any w.heap.size B lo ps (w.alloc (.cells #[.map (some B)] 97)) hps (by simp) hc (hP.below hbx)).mono fun e w' ⟨v, ts, h1, h2⟩ => by
      obtain ⟨q1, q2, q3, q4⟩ := h2.out
      exact ⟨v, h1, own_of_sorted (hP.below hbx) (Nat.le_trans hlo hbx.size) hri hmem q1 q2 q3 q4, hbx.trans (q4.mono hbx.size)⟩
  clear hP hri hmem hX hc hbx
  go_enter Tryz.func117, Tryz.ntmps117
  go_wp2_with (first
    | (go_at_call 134; (with_reducible refine hv.mono ?_); clear hv; rintro e w1 ⟨rfl, rfl⟩)
    | (go_at_call 133; (with_reducible refine hs.mono ?_); clear hs; rintro e w2 ⟨v, rfl, HS⟩))
  go_ret
  exact ⟨v, rfl, HS.out⟩

end Go.Proofs.YtjgilpkkfpbefaaGreatDoor

namespace Go.Proofs.YtjgilpkkfpbefaaGreatDoor
open Go.RowKit Go.Maps Go.WideMaps

theorem Pu.found {w : World} {lo B : Nat} {ps : List (Co × Value)} {p q : Int} {x : Co × Value} (h : Pu w lo B ps) (hf : findP ps (p, q) = some x) (hp : (Lit.int .i64 p).wf = true) (hq : (Lit.int .i64 q).wf = true) :
    ∃ ua uc, x.2 = .slice ua x.1.l.length uc ∧ (Instr.lookup 97 (.map (some B)) (.agg #[.int .i64 p, .int .i64 q]) true).run Tryz.prog w = .ok (.tuple #[.agg #[.int .i64 x.1.p, .int .i64 x.1.q, .int .i64 x.1.v, .slice ua x.1.l.length uc, .int .i64 x.1.x, .int .i64 x.1.y, .int .i64 x.1.h, .bool x.1.m], .bool true]) w := by
  have h1 := h.look (r := (p, q)) hp hq
  rw [hf] at h1
  obtain ⟨ua, uc, hu⟩ : ∃ ua uc, x.2 = .slice ua x.1.l.length uc := by
    have hrow := h.rows x (find_get hf).1
    rcases hrow.2 with ⟨e1, e2⟩ | ⟨g, cp, cur, e1, _⟩
    · exact ⟨none, 0, by rw [show x.2 = .slice none 0 0 from e1, show x.1.l.length = 0 from e2]⟩
    · exact ⟨some ⟨g, 0, none⟩, cp, e1⟩
  refine ⟨ua, uc, hu, ?_⟩
  rw [← hu]
  exact h1
theorem Pu.lacks {w : World} {lo B : Nat} {ps : List (Co × Value)} {p q : Int} (h : Pu w lo B ps) (hf : findP ps (p, q) = none) (hp : (Lit.int .i64 p).wf = true) (hq : (Lit.int .i64 q).wf = true) :
    (Instr.lookup 97 (.map (some B)) (.agg #[.int .i64 p, .int .i64 q]) true).run Tryz.prog w = .ok (.tuple #[.agg #[.int .i64 0, .int .i64 0, .int .i64 0, .slice none 0 0, .int .i64 0, .int .i64 0, .int .i64 0, .bool false], .bool false]) w := by
  have h1 := h.look (r := (p, q)) hp hq
  rw [hf] at h1
  exact h1

def hasC (cs : List Co) (r : Int × Int) : Bool := cs.any fun c => decide ((c.p, c.q) = r)
theorem has_map {ps : List (Co × Value)} {r : Int × Int} : hasC (ps.map (·.1)) r = (findP ps r).isSome := by
  unfold hasC findP
  induction ps with
  | nil => rfl
  | cons x t ih =>
    rw [List.map_cons, List.any_cons]
    by_cases e : refOf x = r
    · rw [List.find?_cons_of_pos (by simp [e]), decide_eq_true (show (x.1.p, x.1.q) = r from e)]; rfl
    · rw [List.find?_cons_of_neg (by simp [e]), decide_eq_false (show ¬ (x.1.p, x.1.q) = r from e), Bool.false_or]; exact ih
end Go.Proofs.YtjgilpkkfpbefaaGreatDoor

namespace Go.Proofs.YtjgilpkkfpbefaaGreatDoor
open Go.RowKit Go.Maps Go.WideMaps

theorem own_slice3 {w : World} {lo hi n : Nat} {v : Value} {f : Nat → Co} (h : ∃ kv, COwn w lo hi v n f kv) : ∃ a c, v = .slice a n c := by
  obtain ⟨kv, h⟩ := h
  obtain ⟨xs, h1, _⟩ := h.row
  rcases h1.2 with ⟨rfl, rfl⟩ | ⟨g, cap, cur, rfl, _⟩
  · exact ⟨none, 0, rfl⟩
  · exact ⟨_, cap, rfl⟩

end Go.Proofs.YtjgilpkkfpbefaaGreatDoor

namespace Go.Proofs.YtjgilpkkfpbefaaGreatDoor
open Go.RowKit Go.Maps Go.WideMaps

abbrev RiseC (cs : List Co) : Prop := cs.Pairwise (fun x y => 0 < cmpR (y.p, y.q) (x.p, x.q))
def inC (cs : List Co) (rs : List (Int × Int)) : List Co := cs.filter fun c => memB rs (c.p, c.q)
theorem memB_here {gs : List (Int × Int)} {x : Int × Int} : memB gs x = true ↔ x ∈ gs := by
  have := num_zero gs x
  unfold memB
  by_cases h : x ∈ gs
  · simp [h] at this; simp [h, this]
  · simp [h] at this; simp [h, this]
theorem sub_back {α : Type} [DecidableEq α] : ∀ (a b : List α), a.Nodup → (∀ x ∈ a, x ∈ b) → b.length ≤ a.length → ∀ x ∈ b, x ∈ a
  | [], b, _, _, hl, x, hx => by have : b = [] := List.eq_nil_of_length_eq_zero (by simpa using hl); rw [this] at hx; exact hx
  | y :: a, b, hn, hs, hl, x, hx => by
    rw [List.nodup_cons] at hn
    obtain ⟨s1, s2, rfl⟩ := List.append_of_mem (hs y (by simp))
    have h1 : ∀ z ∈ a, z ∈ s1 ++ s2 := fun z hz => by
      have h2 := hs z (by simp [hz])
      have h3 : z ≠ y := fun e => hn.1 (e ▸ hz)
      simp at h2 ⊢
      rcases h2 with h2 | h2 | h2
      · exact .inl h2
      · exact absurd h2 h3
      · exact .inr h2
    have h4 := sub_back a (s1 ++ s2) hn.2 h1 (by simp at hl ⊢; omega)
    simp at hx
    rcases hx with h | h | h
    · exact List.mem_cons_of_mem _ (h4 x (by simp [h]))
    · simp [h]
    · exact List.mem_cons_of_mem _ (h4 x (by simp [h]))
theorem sub_length {α : Type} [DecidableEq α] : ∀ (a b : List α), a.Nodup → (∀ x ∈ a, x ∈ b) → a.length ≤ b.length
  | [], b, _, _ => by simp
  | y :: a, b, hn, hs => by
    rw [List.nodup_cons] at hn
    obtain ⟨s1, s2, rfl⟩ := List.append_of_mem (hs y (by simp))
    have h1 : ∀ z ∈ a, z ∈ s1 ++ s2 := fun z hz => by
      have h2 := hs z (by simp [hz])
      have h3 : z ≠ y := fun e => hn.1 (e ▸ hz)
      simp at h2 ⊢
      rcases h2 with h2 | h2 | h2
      · exact .inl h2
      · exact absurd h2 h3
      · exact .inr h2
    have h4 := sub_length a (s1 ++ s2) hn.2 h1
    simp at h4 ⊢
    omega
def refsC (cs : List Co) : List (Int × Int) := cs.map fun c => (c.p, c.q)
theorem refs_nodup {cs : List Co} (h : RiseC cs) : (refsC cs).Nodup := by
  unfold refsC List.Nodup
  rw [List.pairwise_map]
  exact h.imp fun {a b} k e => by
    have := cmpR_pos.1 k
    simp at e
    omega
theorem hasC_iff {cs : List Co} {r : Int × Int} : hasC cs r = true ↔ r ∈ refsC cs := by
  unfold hasC refsC
  rw [List.any_eq_true, List.mem_map]
  constructor
  · rintro ⟨c, h1, h2⟩; exact ⟨c, h1, by simpa using h2⟩
  · rintro ⟨c, h1, h2⟩; exact ⟨c, h1, by simpa using h2⟩

theorem getC_mem {l : List Co} {j : Nat} (hj : j < l.length) : l.getD j C0 ∈ l := by
  rw [List.getD, List.getElem?_eq_getElem hj]
  exact List.getElem_mem _
theorem refs_facts : ∀ {rs seen : List (Int × Int)}, refsR seen rs = 0 → (∀ r ∈ rs, refB r = true ∧ r ∉ seen) ∧ rs.Nodup
  | [], _, _ => ⟨fun r hr => (by cases hr), List.nodup_nil⟩
  | r :: t, seen, h => by
    unfold refsR at h
    by_cases h1 : refB r = false
    · rw [if_pos h1] at h; cases h
    · rw [if_neg h1] at h
      by_cases h2 : memB seen r = true
      · rw [if_pos h2] at h; cases h
      · rw [if_neg h2] at h
        obtain ⟨i1, i2⟩ := refs_facts h
        have h3 : r ∉ seen := fun e => h2 (memB_here.2 e)
        refine ⟨fun x hx => ?_, List.nodup_cons.2 ⟨fun e => (i1 r e).2 (by simp), i2⟩⟩
        rcases List.mem_cons.1 hx with rfl | hx
        · exact ⟨by simpa using h1, h3⟩
        · exact ⟨(i1 x hx).1, fun e => (i1 x hx).2 (by simp [e])⟩
theorem tx_facts {k f : Int} {rs : List (Int × Int)} {os : List Ou} (h : txR k f rs os = 0) : (∀ r ∈ rs, refB r = true) ∧ rs.Nodup ∧ rs.length ≤ 4 ∧ os.length ≤ 4 := by
  unfold txR at h
  by_cases h1 : inB k 0 2 = false ∨ ¬ (k = 0 ↔ f = 0)
  · rw [if_pos h1] at h; cases h
  rw [if_neg h1] at h
  by_cases h2 : k ≠ 0 ∧ inB f 1 999 = false
  · rw [if_pos h2] at h; cases h
  rw [if_neg h2] at h
  by_cases h3 : inB rs.length 1 4 = false ∨ inB os.length 1 4 = false
  · rw [if_pos h3] at h; cases h
  rw [if_neg h3] at h
  by_cases h4 : refsR [] rs ≠ 0
  · rw [if_pos h4] at h; exact absurd h h4
  obtain ⟨i1, i2⟩ := refs_facts (show refsR [] rs = 0 by simpa using h4)
  have h5 : inB rs.length 1 4 = true := by cases e : inB rs.length 1 4; exact absurd (.inl e) h3; rfl
  have h6 : inB os.length 1 4 = true := by cases e : inB os.length 1 4; exact absurd (.inr e) h3; rfl
  simp [inB] at h5 h6
  exact ⟨fun r hr => (i1 r hr).1, i2, by omega, by omega⟩
theorem ref_wf {r : Int × Int} (h : refB r = true) : (Lit.int .i64 r.1).wf = true ∧ (Lit.int .i64 r.2).wf = true := by
  simp [refB, inB] at h
  exact ⟨WalkArith.wf_i64 (by omega), WalkArith.wf_i64 (by omega)⟩

end Go.Proofs.YtjgilpkkfpbefaaGreatDoor
