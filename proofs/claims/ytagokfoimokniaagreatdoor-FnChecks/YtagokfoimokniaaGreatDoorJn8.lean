/- A purse's coins, sorted by their refs. The purse tells its coins, rising by their refs. The program takes coins out of its purse. The program's TakeCoins keeps its contract. The program's PutCoins keeps its contract. The specification: is there a coin of a transaction? The specification's CoinAt. The specification's CoinAt: where a coin stands; the answer. The specification takes coins out of a list: pieces of rows appended. The specification adds a coin to a list of coins. The specification's TakeCoins. The specification's l4Add keeps its contract. -/
import Derived.Test.YtagokfoimokniaaGreatDoorJn7
import Derived.Test.YtagokfoimokniaaGreatDoorSo
import Derived.Shelf.SlSortCmp.NoneTotal
import Derived.Test.YtagokfoimokniaaGreatDoorJn4
import Derived.Test.YtagokfoimokniaaGreatDoorJn5
namespace Go.Proofs.YtagokfoimokniaaGreatDoor
open Go.RowKit Go.Maps Go.WideMaps Go.Shelf

instance : Inhabited SC := ⟨⟨(C0, .slice none 0 0), none, 0, 0, rfl⟩⟩

theorem grow_of_below {w w' : World} (hb : Below w.heap.size w w') (hd : w.drawn ≤ w'.drawn) : ∃ q os', w' = Sort.grow (w.drewN q) os' := by
  have hheap : w.heap ++ w'.heap.extract w.heap.size w'.heap.size = w'.heap := by
    apply Array.ext_getElem?
    intro k
    by_cases hk : k < w.heap.size
    · rw [Array.getElem?_append_left hk]; exact (hb.block k hk).symm
    · have := hb.size
      rw [Array.getElem?_append_right (by omega), Array.getElem?_extract]
      by_cases h2 : k < w'.heap.size
      · rw [if_pos (by omega)]
        congr 1
        omega
      · rw [if_neg (by omega), Array.getElem?_eq_none (by omega)]
  refine ⟨w'.drawn - w.drawn, w'.heap.extract w.heap.size w'.heap.size, ?_⟩
  have h1 := hb.os
  have h2 := hb.tape
  have h3 := hb.output
  obtain ⟨a1, a2, a3, a4, a5⟩ := w
  obtain ⟨b1, b2, b3, b4, b5⟩ := w'
  simp only at h1 h2 h3 hheap hd
  subst h1 h2 h3
  simp only [Sort.grow, World.drewN, World.mk.injEq, true_and, and_true]
  exact ⟨hheap.symm, by omega⟩

/-- What compareCoins answers. -/
def cfC (x y : SC) : Int := cmpR (refOf x.1) (refOf y.1)
theorem ltC (x y : SC) : ltOf cfC x y = decide (x.1.1.p < y.1.1.p ∨ (x.1.1.p = y.1.1.p ∧ x.1.1.q < y.1.1.q)) := by
  unfold ltOf cfC refOf
  exact decide_eq_decide.2 cmpR_neg
theorem swoC : Sort.SWO (ltOf cfC) where
  irrefl x := by rw [ltC]; simp
  trans x y z h1 h2 := by rw [ltC] at *; simp at *; omega
  ntrans x y z h1 h2 := by rw [ltC] at *; simp at *; omega

set_option maxRecDepth 20000 in
set_option maxHeartbeats 2000000 in
theorem compareCoins_any (x y : SC) (w : World) : Calls Tryz.prog 97 #[.agg (cellsC x).toArray, .agg (cellsC y).toArray] w fun e w' => e = .returned (.int .i64 (cfC x y)) ∧ ∃ q os', w' = Sort.grow (w.drewN q) os' := by
  obtain ⟨⟨xc, xu⟩, xa, xn, xp, hx⟩ := x
  obtain ⟨⟨yc, yu⟩, ya, yn, yp, hy⟩ := y
  simp only at hx hy
  subst hx hy
  show Calls Tryz.prog 97 #[.agg #[.int .i64 xc.p, .int .i64 xc.q, .int .i64 xc.v, .slice xa xn xp, .int .i64 xc.x, .int .i64 xc.y, .int .i64 xc.h, .bool xc.m], .agg #[.int .i64 yc.p, .int .i64 yc.q, .int .i64 yc.v, .slice ya yn yp, .int .i64 yc.x, .int .i64 yc.y, .int .i64 yc.h, .bool yc.m]] w _
  obtain ⟨t0, t1, t2⟩ := blocks2 w (.cells #[.int .i64 xc.p, .int .i64 xc.q, .int .i64 xc.v, .slice xa xn xp, .int .i64 xc.x, .int .i64 xc.y, .int .i64 xc.h, .bool xc.m] 54) (.cells #[.int .i64 yc.p, .int .i64 yc.q, .int .i64 yc.v, .slice ya yn yp, .int .i64 yc.x, .int .i64 yc.y, .int .i64 yc.h, .bool yc.m] 54)
  have hbx : Below w.heap.size w ((w.alloc (.cells #[.int .i64 xc.p, .int .i64 xc.q, .int .i64 xc.v, .slice xa xn xp, .int .i64 xc.x, .int .i64 xc.y, .int .i64 xc.h, .bool xc.m] 54)).alloc (.cells #[.int .i64 yc.p, .int .i64 yc.q, .int .i64 yc.v, .slice ya yn yp, .int .i64 yc.x, .int .i64 yc.y, .int .i64 yc.h, .bool yc.m] 54)) := below_box2 _ _
  have hc := compareRefs_more xc.p xc.q yc.p yc.q ((w.alloc (.cells #[.int .i64 xc.p, .int .i64 xc.q, .int .i64 xc.v, .slice xa xn xp, .int .i64 xc.x, .int .i64 xc.y, .int .i64 xc.h, .bool xc.m] 54)).alloc (.cells #[.int .i64 yc.p, .int .i64 yc.q, .int .i64 yc.v, .slice ya yn yp, .int .i64 yc.x, .int .i64 yc.y, .int .i64 yc.h, .bool yc.m] 54))
  obtain ⟨⟨s0, s1, s2, s3, s4, s5, s6, s7⟩, _⟩ := cells8 t0
  obtain ⟨⟨r0, r1, r2, r3, r4, r5, r6, r7⟩, _⟩ := cells8 t1
  obtain ⟨k, hk⟩ : ∃ k, k = cmpR (xc.p, xc.q) (yc.p, yc.q) := ⟨_, rfl⟩
  rw [← hk] at hc
  have HK : Hid (cfC ⟨(xc, .slice xa xn xp), xa, xn, xp, rfl⟩ ⟨(yc, .slice ya yn yp), ya, yn, yp, rfl⟩ = k) := hk.symm
  have HBX : Hid (Below w.heap.size w ((w.alloc (.cells #[.int .i64 xc.p, .int .i64 xc.q, .int .i64 xc.v, .slice xa xn xp, .int .i64 xc.x, .int .i64 xc.y, .int .i64 xc.h, .bool xc.m] 54)).alloc (.cells #[.int .i64 yc.p, .int .i64 yc.q, .int .i64 yc.v, .slice ya yn yp, .int .i64 yc.x, .int .i64 yc.y, .int .i64 yc.h, .bool yc.m] 54))) := hbx
  clear hk hbx t0 t1 t2
  go_enter Tryz.func97, Tryz.ntmps97
  go_wp2_with (go_at_call 99; (with_reducible refine hc.mono ?_); clear hc; rintro e w' ⟨rfl, hb, hd⟩)
  go_ret
  exact ⟨by rw [HK.out]; rfl, grow_of_below (HBX.out.trans (hb.mono HBX.out.size)) hd⟩

theorem get_flat : ∀ (ts : List SC) (t : Nat), t < ts.length * 8 → (ts.flatMap cellsC)[t]? = (cellsC (ts[t / 8]!))[t % 8]?
  | [], t, h => by simp at h
  | a :: l, t, h => by
    have hl : (cellsC a).length = 8 := rfl
    rw [List.flatMap_cons]
    by_cases h8 : t < 8
    · rw [List.getElem?_append_left (by omega)]
      have h1 : t / 8 = 0 := by omega
      have h2 : t % 8 = t := by omega
      rw [h1, h2]
      rfl
    · rw [List.getElem?_append_right (by omega), hl, get_flat l (t - 8) (by simp at h; omega)]
      have h1 : t / 8 = (t - 8) / 8 + 1 := by omega
      have h2 : t % 8 = (t - 8) % 8 := by omega
      rw [h1, h2]
      rfl
theorem length_flat (ts : List SC) : (ts.flatMap cellsC).length = ts.length * 8 := by
  induction ts with
  | nil => rfl
  | cons a l ih => rw [List.flatMap_cons, List.length_append, ih]; simp [cellsC]; omega
theorem flat_list (ts : List SC) : (Sort.flatK cellsC 8 ts.toArray).toList = ts.flatMap cellsC := by
  apply List.ext_getElem?
  intro t
  by_cases h : t < ts.length * 8
  · rw [get_flat ts t h, Array.getElem?_toList, Array.getElem?_eq_getElem (by simpa using h)]
    have h1 := Sort.get_flatK cellsC 8 ts.toArray t (by simpa using h)
    rw [getElem!_pos (Sort.flatK cellsC 8 ts.toArray) t (by simpa using h)] at h1
    rw [h1]
    have h2 : t % 8 < (cellsC (ts.toArray[t / 8]!)).length := by show t % 8 < 8; omega
    rw [getElem!_pos (cellsC (ts.toArray[t / 8]!)) (t % 8) h2, ← List.getElem?_eq_getElem h2]
    simp
  · rw [List.getElem?_eq_none (by simp; omega), List.getElem?_eq_none (by rw [length_flat]; omega)]

theorem holds_coins {w : World} {g cap base : Nat} {ss : List SC} (h : w.ownsRow base 54 8 (.slice (some ⟨g, 0, none⟩) ss.length cap) ss.length (ss.flatMap cellsC)) : Sort.HoldsK cellsC 8 w g 0 ss.toArray := by
  intro j hj
  have hj' : j < ss.length * 8 := by simpa using hj
  refine ⟨?_, h.frozenAt _⟩
  rw [Nat.zero_add, h.cellAt j hj', ← flat_list, Array.getElem?_toList, getElem!_pos (Sort.flatK cellsC 8 ss.toArray) j hj, Array.getElem?_eq_getElem hj]
  rfl

theorem block_sorted {w : World} {g n : Nat} {os : Array Obj} {cur : Array Value} {e : TypeId} {fr : Nat × Nat} (d : Array Value) (hb : w.heap[g]? = some (.cells cur e fr)) :
    (Sort.grow (Sort.putRow id (Sort.ahead w n) g 0 d) os).heap[g]? = some (.cells (Sort.putCells id 0 d cur) e fr) := by
  have hg : g < w.heap.size := (Array.getElem?_eq_some_iff.1 hb).1
  rw [Sort.heap_grow_old _ _ (by simpa using hg)]
  simp [Sort.putRow, Sort.mapBlock, Sort.ahead, Array.getElem?_modify, hb, Sort.onCells]
theorem grown_sorted {w : World} {g n : Nat} {os : Array Obj} (d : Array Value) : w.grownBy (Sort.grow (Sort.putRow id (Sort.ahead w n) g 0 d) os) (some g) := by
  refine ⟨rfl, rfl, rfl, by simp, fun k hk hne => ?_⟩
  rw [Sort.heap_grow_old _ _ (by simpa using hk)]
  have : g ≠ k := fun e => hne (by rw [e])
  simp [Sort.putRow, Sort.mapBlock, Sort.ahead, Array.getElem?_modify, this]
theorem take_cells (cur d : Array Value) (h : d.size ≤ cur.size) : (Sort.putCells id 0 d cur).toList.take d.size = d.toList := by
  apply List.ext_getElem?
  intro j
  by_cases hj : j < d.size
  · rw [List.getElem?_take_of_lt hj, Array.getElem?_toList]
    simp [Sort.putCells, hj, show j < cur.size by omega]
  · rw [List.getElem?_take_eq_none (by omega), List.getElem?_eq_none (by simp; omega)]

theorem row_sorted {w : World} {g cap base n : Nat} {os : Array Obj} {ss ts : List SC} (hl : ts.length = ss.length) (h : w.ownsRow base 54 8 (.slice (some ⟨g, 0, none⟩) ss.length cap) ss.length (ss.flatMap cellsC)) :
    (sortWorldK cellsC 8 w g 0 n ts.toArray os).ownsRow base 54 8 (.slice (some ⟨g, 0, none⟩) ss.length cap) ss.length (ts.flatMap cellsC) := by
  rcases h.2 with ⟨e1, _⟩ | ⟨g', cap', cur, e1, hbase, hb, h1, h2, h3, h4⟩
  · cases e1
  · cases e1
    refine ⟨by rw [length_flat, hl], .inr ⟨g, cap, _, rfl, hbase, block_sorted _ hb, h1, h2, by simp [Sort.putCells, h3], ?_⟩⟩
    have hs : (Sort.flatK cellsC 8 ts.toArray).size = ss.length * 8 := by simp [hl]
    have := take_cells cur (Sort.flatK cellsC 8 ts.toArray) (by rw [hs, h3]; exact Nat.mul_le_mul_right _ h1)
    rw [hs, flat_list] at this
    exact this

set_option maxHeartbeats 2000000 in
theorem sortC_any (g cap base : Nat) (ss : List SC) (w : World) (h : w.ownsRow base 54 8 (.slice (some ⟨g, 0, none⟩) ss.length cap) ss.length (ss.flatMap cellsC)) (hlen : ss.length ≤ 1000) :
    Calls Tryz.prog 141 #[.slice (some ⟨g, 0, none⟩) ss.length cap, .func (.func 97) #[] #[]] w fun e w' => e = .returned (.tuple #[]) ∧
      ∃ ts : List SC, ts.Perm ss ∧ (ts.Pairwise fun x y => ltOf cfC y x = false) ∧ w'.ownsRow base 54 8 (.slice (some ⟨g, 0, none⟩) ss.length cap) ss.length (ts.flatMap cellsC) ∧ w.grownBy w' (some g) := by
  have eg : ∀ args w, (callFunc 97 args).run Tryz.prog w = .ok (.enter 97 args) w := enters_of Tryz.func97 (by kernel_rfl) rfl
  have hcon := AnyQ.slices_SortFunc Tryz.sortC 8 Tryz.isAgg54 Tryz.sizeOf54 cellsC (fun _ => rfl) (fun x v hv => by
    obtain ⟨⟨xc, xu⟩, xa, xn, xp, hx⟩ := x
    simp only at hx
    subst hx
    simp [cellsC] at hv
    rcases hv with rfl | rfl | rfl | rfl | rfl | rfl | rfl | rfl <;> rfl) cfC swoC 97 #[] g 0 cap ss.toArray w eg (fun _ _ _ _ x y => compareCoins_any x y _) (holds_coins h) (h.lt g rfl).2 (by simp; omega)
  refine Calls.mono (show Calls Tryz.prog 141 #[.slice (some ⟨g, 0, none⟩) ss.length cap, .func (.func 97) #[] #[]] w _ from hcon) ?_
  rintro e w' ⟨rfl, d', n, os, hp, hs, rfl⟩
  have hsz : d'.size = ss.length := by simpa using hp.1
  have hd : d'.toList.toArray = d' := by simp
  refine ⟨rfl, d'.toList, ?_, ?_, ?_, ?_⟩
  · have h3 := hp.2.2
    simp only [List.size_toArray] at h3
    rw [← hsz, Array.extract_size] at h3
    rw [hsz] at h3
    simpa using h3
  · rw [List.pairwise_iff_getElem]
    intro i j hi hj hij
    have hi' : i < d'.size := by simpa using hi
    have hj' : j < d'.size := by simpa using hj
    have := hs i j (Nat.zero_le _) hij (by simpa [hsz] using hj')
    rw [getElem!_pos d' i hi', getElem!_pos d' j hj'] at this
    simpa using this
  · have := row_sorted (n := n) (os := os) (ts := d'.toList) (by simpa using hsz) h
    rwa [hd] at this
  · exact grown_sorted _

end Go.Proofs.YtagokfoimokniaaGreatDoor

namespace Go.Proofs.YtagokfoimokniaaGreatDoor
open Go.RowKit Go.Maps Go.WideMaps Go.Shelf

theorem sortAny (v : Value) (base : Nat) (ss : List SC) (w : World) (h : w.ownsRow base 54 8 v ss.length (ss.flatMap cellsC)) (hlen : ss.length ≤ 1000) :
    Calls Tryz.prog 141 #[v, .func (.func 97) #[] #[]] w fun e w' => e = .returned (.tuple #[]) ∧
      ∃ ts : List SC, ts.Perm ss ∧ (ts.Pairwise fun x y => ltOf cfC y x = false) ∧ w'.ownsRow base 54 8 v ss.length (ts.flatMap cellsC) ∧ w.grownBy w' v.ownBlock := by
  rcases id h.2 with ⟨rfl, h0⟩ | ⟨g, cap, cur, rfl, _⟩
  · have hn := AnyF.slices_SortFunc_none Tryz.sortC none 0 (.func (.func 97) #[] #[]) w
    refine Calls.mono (show Calls Tryz.prog 141 #[.slice none 0 0, .func (.func 97) #[] #[]] w _ from hn) ?_
    rintro e w' ⟨rfl, rfl⟩
    have hs : ss = [] := List.eq_nil_of_length_eq_zero h0
    subst hs
    exact ⟨rfl, [], List.Perm.refl _, List.Pairwise.nil, h, World.grownBy.refl _ _⟩
  · exact sortC_any g cap base ss w h hlen

theorem length_all {ps : List (Co × Value)} {ss : List SC} (h : AllC ps ss) : ss.length ≤ ps.length := by
  obtain ⟨h1, h2, _⟩ := h
  have h3 : (ss.map Subtype.val).Pairwise (fun x y => refOf x ≠ refOf y) := by rw [List.pairwise_map]; exact h2
  have h4 : ∀ x ∈ ss.map Subtype.val, x ∈ ps := fun x hx => by
    obtain ⟨y, hy, rfl⟩ := List.mem_map.1 hx
    exact h1 y hy
  have key : ∀ (l : List (Co × Value)) (ps : List (Co × Value)), l.Pairwise (fun x y => refOf x ≠ refOf y) → (∀ x ∈ l, x ∈ ps) → l.length ≤ ps.length := by
    intro l
    induction l with
    | nil => intro ps _ _; simp
    | cons a t ih =>
      intro ps hp hm
      rw [List.pairwise_cons] at hp
      obtain ⟨s1, s2, rfl⟩ := List.append_of_mem (hm a (by simp))
      have := ih (s1 ++ s2) hp.2 fun x hx => by
        have h5 := hm x (by simp [hx])
        have h6 : x ≠ a := fun e => hp.1 x hx (by rw [e])
        simp at h5 ⊢
        rcases h5 with h5 | h5 | h5
        · exact .inl h5
        · exact absurd h5 h6
        · exact .inr h5
      simp at this ⊢
      omega
  simpa using key _ ps h3 h4

set_option maxHeartbeats 1000000 in
theorem sortedFunc_any (Bm b lo : Nat) (ps : List (Co × Value)) (w : World) (hps : ps.length ≤ 1000) (hBm : Bm < w.heap.size) (hm : w.cell? ⟨Bm, 0, none⟩ = some (.map (some b))) (hP : Pu w lo b ps) :
    Calls Tryz.prog 95 #[.func (.func 142) #[] #[.pointer (some ⟨Bm, 0, none⟩)], .func (.func 97) #[] #[]] w fun e w' =>
      ∃ (v : Value) (ts : List SC), e = .returned v ∧ Hid (AllC ps ts ∧ (ts.Pairwise fun x y => ltOf cfC y x = false) ∧ w'.ownsRow w.heap.size 54 8 v ts.length (ts.flatMap cellsC) ∧ Below w.heap.size w w') := by
  have hc : Calls Tryz.prog 140 #[.func (.func 142) #[] #[.pointer (some ⟨Bm, 0, none⟩)]] w fun e w' => ∃ v, e = .returned v ∧ Hid (∃ ss : List SC, AllC ps ss ∧ w'.ownsRow w.heap.size 54 8 v ss.length (ss.flatMap cellsC) ∧ Below w.heap.size w w') :=
    (collectC Bm b lo ps w hps hBm hm hP).mono fun e w' ⟨v, ss, h1, h2, h3, _, h5⟩ => ⟨v, h1, ss, h2, h3, h5⟩
  have hs : ∀ v w1, Hid (∃ ss : List SC, AllC ps ss ∧ w1.ownsRow w.heap.size 54 8 v ss.length (ss.flatMap cellsC) ∧ Below w.heap.size w w1) → Calls Tryz.prog 141 #[v, .func (.func 97) #[] #[]] w1 fun e w' => e = .returned (.tuple #[]) ∧ Hid (∃ ts : List SC, AllC ps ts ∧ (ts.Pairwise fun x y => ltOf cfC y x = false) ∧ w'.ownsRow w.heap.size 54 8 v ts.length (ts.flatMap cellsC) ∧ Below w.heap.size w w') := fun v w1 h => by
    obtain ⟨ss, h1, h2, h3⟩ := h.out
    refine (sortAny v w.heap.size ss w1 h2 (Nat.le_trans (length_all h1) hps)).mono ?_
    rintro e w' ⟨rfl, ts, q1, q2, q3, q4⟩
    refine ⟨rfl, ts, ⟨fun x hx => h1.1 x (q1.mem_iff.1 hx), ?_, fun x hx => ?_⟩, q2, by rw [q1.length_eq]; exact q3, h3.grown q4 h3.size (fun k e => (h2.lt k e).1)⟩
    · exact (q1.pairwise_iff (fun {a b} (h : refOf a.1 ≠ refOf b.1) => h.symm)).2 h1.2.1
    · obtain ⟨y, hy, e⟩ := h1.2.2 x hx
      exact ⟨y, q1.mem_iff.2 hy, e⟩
  clear hP hm
  go_enter Tryz.func95, Tryz.ntmps95
  go_wp2_with (first
    | (go_at_call 140; (with_reducible refine hc.mono ?_); clear hc; rintro e w1 ⟨v, rfl, HS⟩; have hs' := hs v w1 HS; clear hs)
    | (go_at_call 141; (with_reducible refine hs'.mono ?_); clear hs'; rintro e w2 ⟨rfl, HT⟩))
  go_ret
  obtain ⟨ts, h1, h2, h3, h4⟩ := HT.out
  exact ⟨v, ts, rfl, h1, h2, h3, h4⟩

/-- Coins that rise are the same list where they are the same coins. -/
theorem rise_unique : ∀ (a b : List Co), a.Pairwise (fun x y => 0 < cmpR (y.p, y.q) (x.p, x.q)) → b.Pairwise (fun x y => 0 < cmpR (y.p, y.q) (x.p, x.q)) → (∀ c, c ∈ a ↔ c ∈ b) → a = b
  | [], [], _, _, _ => rfl
  | [], y :: b, _, _, h => by have := (h y).2 (by simp); cases this
  | x :: a, [], _, _, h => by have := (h x).1 (by simp); cases this
  | x :: a, y :: b, h1, h2, h => by
    rw [List.pairwise_cons] at h1 h2
    have e : x = y := by
      rcases List.mem_cons.1 ((h x).1 (by simp)) with e | hx
      · exact e
      · rcases List.mem_cons.1 ((h y).2 (by simp)) with e | hy
        · exact e.symm
        · have i1 := cmpR_pos.1 (h2.1 x hx)
          have i2 := cmpR_pos.1 (h1.1 y hy)
          omega
    subst e
    rw [rise_unique a b h1.2 h2.2 fun c => ?_]
    constructor
    · intro hc
      rcases List.mem_cons.1 ((h c).1 (by simp [hc])) with e | hx
      · subst e
        have := cmpR_pos.1 (h1.1 c hc)
        omega
      · exact hx
    · intro hc
      rcases List.mem_cons.1 ((h c).2 (by simp [hc])) with e | hx
      · subst e
        have := cmpR_pos.1 (h2.1 c hc)
        omega
      · exact hx

theorem pair_of {α : Type} {R : α → α → Prop} (hs : ∀ x y, R x y → R y x) : ∀ {l : List α}, l.Pairwise R → ∀ x ∈ l, ∀ y ∈ l, x ≠ y → R x y
  | a :: l, h, x, hx, y, hy, hne => by
    rw [List.pairwise_cons] at h
    rcases List.mem_cons.1 hx with e1 | h1 <;> rcases List.mem_cons.1 hy with e2 | h2
    · exact absurd (e1.trans e2.symm) hne
    · rw [e1]; exact h.1 y h2
    · rw [e2]; exact hs _ _ (h.1 x h1)
    · exact pair_of hs h.2 x h1 y h2 hne

theorem cells_flat (ts : List SC) {j : Nat} (hj : j < ts.length) : CellsC (ts.flatMap cellsC) j (ts[j]!).1.1 (ts[j]!).1.2 := by
  have g : ∀ i, i < 8 → (ts.flatMap cellsC)[j * 8 + i]? = (cellsC (ts[j]!))[i]? := fun i hi => by
    rw [get_flat ts (j * 8 + i) (by omega)]
    have h1 : (j * 8 + i) / 8 = j := by omega
    have h2 : (j * 8 + i) % 8 = i := by omega
    rw [h1, h2]
  exact ⟨g 0 (by omega), g 1 (by omega), g 2 (by omega), g 3 (by omega), g 4 (by omega), g 5 (by omega), g 6 (by omega), g 7 (by omega)⟩

/-- What the sorted row is: coins of their own. -/
theorem own_of_sorted {w w' : World} {lo B : Nat} {ps : List (Co × Value)} {cs : List Co} {v : Value} {ts : List SC} (hP : Pu w lo B ps) (hlo : lo ≤ w.heap.size) (hri : cs.Pairwise (fun x y => 0 < cmpR (y.p, y.q) (x.p, x.q))) (hmem : ∀ c, c ∈ cs ↔ c ∈ ps.map (·.1))
    (hA : AllC ps ts) (hs : ts.Pairwise fun x y => ltOf cfC y x = false) (hrow : w'.ownsRow w.heap.size 54 8 v ts.length (ts.flatMap cellsC)) (hb : Below w.heap.size w w') :
    ∃ kv, COwn w' lo w'.heap.size v cs.length (fun j => cs.getD j C0) kv := by
  have hts : ts.map (fun x => x.1.1) = cs := by
    refine rise_unique _ _ ?_ hri fun c => ?_
    · rw [List.pairwise_map]
      refine (List.pairwise_and_iff.2 ⟨hs, hA.2.1⟩).imp ?_
      rintro x y ⟨h1, h2⟩
      rw [ltC] at h1
      have h3 : ¬ (x.1.1.p = y.1.1.p ∧ x.1.1.q = y.1.1.q) := fun e => h2 (by unfold refOf; rw [e.1, e.2])
      simp at h1
      exact cmpR_pos.2 (by omega)
    · rw [hmem c]
      constructor
      · intro h
        obtain ⟨x, hx, rfl⟩ := List.mem_map.1 h
        exact List.mem_map.2 ⟨x.1, hA.1 x hx, rfl⟩
      · intro h
        obtain ⟨x, hx, rfl⟩ := List.mem_map.1 h
        obtain ⟨y, hy, rfl⟩ := hA.2.2 x hx
        exact List.mem_map.2 ⟨y, hy, rfl⟩
  have hlen : cs.length = ts.length := by rw [← hts]; simp
  have hf : ∀ j, j < ts.length → cs.getD j C0 = (ts[j]!).1.1 := fun j hj => by
    rw [← hts]
    simp [List.getD, hj]
  have hmm : ∀ j, j < ts.length → ts[j]! ∈ ts := fun j hj => by rw [getElem!_pos ts j hj]; exact List.getElem_mem _
  refine ⟨fun j => (ts[j]!).1.2, ⟨ts.flatMap cellsC, by rw [hlen]; exact Joins.ownsRow_le hrow hlo, fun j hj => ?_⟩, fun b hb2 => (hrow.lt b hb2).2, fun j hj => ?_, fun i j hij hj b hb1 => ?_⟩
  · rw [hlen] at hj
    rw [hf j hj]
    exact cells_flat ts hj
  · rw [hlen] at hj
    have h1 := hP.rows _ (hA.1 _ (hmm j hj))
    have h2 : w'.ownsRow lo 2 1 (ts[j]!).1.2 (ts[j]!).1.1.l.length (ints (ts[j]!).1.1.l) := h1.kept (grown_of_below hb) (by cases Value.ownBlock (ts[j]!).1.2 <;> simp)
    rw [hf j hj]
    exact ⟨h2, fun b hb2 => (h2.lt b hb2).2⟩
  · rw [hlen] at hj
    have hi : i < ts.length := by omega
    have hne : (ts[i]!).1 ≠ (ts[j]!).1 := fun e => by
      have := List.pairwise_iff_getElem.1 hA.2.1 i j hi hj hij
      rw [getElem!_pos ts i hi, getElem!_pos ts j hj] at e
      exact this (by rw [e])
    exact pair_of (R := fun x y : Co × Value => ∀ b, x.2.ownBlock = some b → y.2.ownBlock ≠ some b) (fun x y h b h1 h2 => h b h2 h1) hP.apart _ (hA.1 _ (hmm i hi)) _ (hA.1 _ (hmm j hj)) hne b hb1

set_option maxHeartbeats 1000000 in
theorem coins_any (B lo : Nat) (ps : List (Co × Value)) (cs : List Co) (w : World) (hP : Pu w lo B ps) (hlo : lo ≤ w.heap.size) (hps : ps.length ≤ 1000) (hri : cs.Pairwise (fun x y => 0 < cmpR (y.p, y.q) (x.p, x.q))) (hmem : ∀ c, c ∈ cs ↔ c ∈ ps.map (·.1)) :
    Calls Tryz.prog 42 #[.map (some B)] w fun e w' => ∃ v, e = .returned v ∧ Hid ((∃ kv, COwn w' lo w'.heap.size v cs.length (fun j => cs.getD j C0) kv) ∧ Below w.heap.size w w') := by
  have hv := values_any B w
  have hbx : Below w.heap.size w (w.alloc (.cells #[.map (some B)] 75)) := below_box _
  have hX := heap_alloc_new w (.cells #[.map (some B)] 75)
  have hc : (w.alloc (.cells #[.map (some B)] 75)).cell? ⟨w.heap.size, 0, none⟩ = some (.map (some B)) := by unfold World.cell?; rw [hX]; rfl
  have hs : Calls Tryz.prog 95 #[.func (.func 142) #[] #[.pointer (some ⟨w.heap.size, 0, none⟩)], .func (.func 97) #[] #[]] (w.alloc (.cells #[.map (some B)] 75)) fun e w' => ∃ v, e = .returned v ∧ Hid ((∃ kv, COwn w' lo w'.heap.size v cs.length (fun j => cs.getD j C0) kv) ∧ Below w.heap.size w w') :=
    (sortedFunc_any w.heap.size B lo ps (w.alloc (.cells #[.map (some B)] 75)) hps (by simp) hc (hP.below hbx)).mono fun e w' ⟨v, ts, h1, h2⟩ => by
      obtain ⟨q1, q2, q3, q4⟩ := h2.out
      exact ⟨v, h1, own_of_sorted (hP.below hbx) (Nat.le_trans hlo hbx.size) hri hmem q1 q2 q3 q4, hbx.trans (q4.mono hbx.size)⟩
  clear hP hri hmem hX hc hbx
  go_enter Tryz.func42, Tryz.ntmps42
  go_wp2_with (first
    | (go_at_call 96; (with_reducible refine hv.mono ?_); clear hv; rintro e w1 ⟨rfl, rfl⟩)
    | (go_at_call 95; (with_reducible refine hs.mono ?_); clear hs; rintro e w2 ⟨v, rfl, HS⟩))
  go_ret
  exact ⟨v, rfl, HS.out⟩

end Go.Proofs.YtagokfoimokniaaGreatDoor

namespace Go.Proofs.YtagokfoimokniaaGreatDoor
open Go.RowKit Go.Maps Go.WideMaps

theorem Pu.found {w : World} {lo B : Nat} {ps : List (Co × Value)} {p q : Int} {x : Co × Value} (h : Pu w lo B ps) (hf : findP ps (p, q) = some x) (hp : (Lit.int .i64 p).wf = true) (hq : (Lit.int .i64 q).wf = true) :
    ∃ ua uc, x.2 = .slice ua x.1.l.length uc ∧ (Instr.lookup 75 (.map (some B)) (.agg #[.int .i64 p, .int .i64 q]) true).run Tryz.prog w = .ok (.tuple #[.agg #[.int .i64 x.1.p, .int .i64 x.1.q, .int .i64 x.1.v, .slice ua x.1.l.length uc, .int .i64 x.1.x, .int .i64 x.1.y, .int .i64 x.1.h, .bool x.1.m], .bool true]) w := by
  have h1 := h.look (r := (p, q)) hp hq
  rw [hf] at h1
  obtain ⟨ua, uc, hu⟩ : ∃ ua uc, x.2 = .slice ua x.1.l.length uc := by
    have hrow := h.rows x (find_get hf).1
    rcases hrow.2 with ⟨e1, e2⟩ | ⟨g, cp, cur, e1, _⟩
    · exact ⟨none, 0, by rw [show x.2 = .slice none 0 0 from e1, show x.1.l.length = 0 from e2]⟩
    · exact ⟨some ⟨g, 0, none⟩, cp, e1⟩
  refine ⟨ua, uc, hu, ?_⟩
  rw [← hu]
  exact h1
theorem Pu.lacks {w : World} {lo B : Nat} {ps : List (Co × Value)} {p q : Int} (h : Pu w lo B ps) (hf : findP ps (p, q) = none) (hp : (Lit.int .i64 p).wf = true) (hq : (Lit.int .i64 q).wf = true) :
    (Instr.lookup 75 (.map (some B)) (.agg #[.int .i64 p, .int .i64 q]) true).run Tryz.prog w = .ok (.tuple #[.agg #[.int .i64 0, .int .i64 0, .int .i64 0, .slice none 0 0, .int .i64 0, .int .i64 0, .int .i64 0, .bool false], .bool false]) w := by
  have h1 := h.look (r := (p, q)) hp hq
  rw [hf] at h1
  exact h1

/-- A delete in a plain region, out of its own run. -/
theorem wpList_delete_run {P : Program} {w : World} {ops : Array Oper} {rest : List Oper} {o : Oper} {a : Act} {Q : Exit → Act → World → Prop} (hgd : o.guard = none) (s x : Operand) (t k : TypeId)
    (hop : o.op = .call { callee := .builtin .delete, args := #[s, x], argTypes := #[t, k] }) {v u v' : Value} {w' : World} (hs : a.eval s = v) (hx : a.eval x = u) (hrun : (Builtin.delete_ #[t, k] o.type #[v, u]).run P w = .ok v' w') (h : wpList P ops Q rest (a.put o.dst v') w') :
    wpList P ops Q (o :: rest) a w :=
  wpList_plain hgd fun _ hK => by
    unfold Oper.wp
    simp [execOp, hop, resolve, invoke, builtin, hs, hx, hrun, Result.andThen]
    exact hK _ _ h

set_option maxRecDepth 20000 in
set_option maxHeartbeats 2000000 in
theorem take_any (B lo : Nat) (p q : Int) (ps : List (Co × Value)) (x : Co × Value) (w : World) (hP : Pu w lo B ps) (hf : findP ps (p, q) = some x) (hp : (Lit.int .i64 p).wf = true) (hq : (Lit.int .i64 q).wf = true) :
    Calls Tryz.prog 93 #[.map (some B), .agg #[.int .i64 p, .int .i64 q]] w fun e w' => e = .returned (.bool true) ∧ Hid (Pu w' lo B (dropP ps (p, q))) ∧ Hid (Chg w w' B (B + 1)) := by
  have hbx : Below w.heap.size w (w.alloc (.cells #[.int .i64 p, .int .i64 q] 47)) := below_box _
  have hX := heap_alloc_new w (.cells #[.int .i64 p, .int .i64 q] 47)
  obtain ⟨s0, s1⟩ := cells2 hX
  have h1 := hP.below hbx
  obtain ⟨ua, uc, hu, hl⟩ := h1.found hf hp hq
  obtain ⟨u0, u1⟩ : ((w.alloc (.cells #[.int .i64 p, .int .i64 q] 47)).alloc (.cells #[.int .i64 x.1.p, .int .i64 x.1.q, .int .i64 x.1.v, .slice ua x.1.l.length uc, .int .i64 x.1.x, .int .i64 x.1.y, .int .i64 x.1.h, .bool x.1.m] 54)).cell? ⟨w.heap.size, 0, none⟩ = some (.int .i64 p) ∧ ((w.alloc (.cells #[.int .i64 p, .int .i64 q] 47)).alloc (.cells #[.int .i64 x.1.p, .int .i64 x.1.q, .int .i64 x.1.v, .slice ua x.1.l.length uc, .int .i64 x.1.x, .int .i64 x.1.y, .int .i64 x.1.h, .bool x.1.m] 54)).cell? ⟨w.heap.size, 1, none⟩ = some (.int .i64 q) := cells2 ((keepb hX (below_box _)).out)
  have hbx2 : Below w.heap.size w ((w.alloc (.cells #[.int .i64 p, .int .i64 q] 47)).alloc (.cells #[.int .i64 x.1.p, .int .i64 x.1.q, .int .i64 x.1.v, .slice ua x.1.l.length uc, .int .i64 x.1.x, .int .i64 x.1.y, .int .i64 x.1.h, .bool x.1.m] 54)) := below_box2 _ _
  have h2 := hP.below hbx2
  obtain ⟨w', hrun, hPu, hg⟩ := h2.drop hf hp hq 0
  have hrun' : ∀ ty, (Builtin.delete_ #[75, 47] ty #[.map (some B), .agg #[.int .i64 p, .int .i64 q]]).run Tryz.prog ((w.alloc (.cells #[.int .i64 p, .int .i64 q] 47)).alloc (.cells #[.int .i64 x.1.p, .int .i64 x.1.q, .int .i64 x.1.v, .slice ua x.1.l.length uc, .int .i64 x.1.x, .int .i64 x.1.y, .int .i64 x.1.h, .bool x.1.m] 54)) = .ok (.tuple #[]) w' := fun ty => hrun
  have HPU : Hid (Pu w' lo B (dropP ps (p, q))) := hPu
  have HCH : Hid (Chg w w' B (B + 1)) := (Chg.of_below hbx2 _ _).trans (Chg.of_grown hg.grown fun k e => by cases e; omega)
  clear hP h1 h2 hf hp hq hu hrun hPu hg hbx hbx2 hX
  go_enter Tryz.func93, Tryz.ntmps93
  go_wp2_with (first | (at_builtin; go_must (refine wpList_delete_run (by rfl) _ _ _ _ (by rfl) (by rfl) (by rfl) (hrun' _) ?_); clear hrun'))
  go_ret
  exact ⟨rfl, HPU.out, HCH.out⟩

/-- Coins without that of a ref; coins without those of some refs. -/
def dropC (cs : List Co) (r : Int × Int) : List Co := cs.filter fun c => decide ((c.p, c.q) ≠ r)
def hasC (cs : List Co) (r : Int × Int) : Bool := cs.any fun c => decide ((c.p, c.q) = r)
theorem drop_map (ps : List (Co × Value)) (r : Int × Int) : (dropP ps r).map (·.1) = dropC (ps.map (·.1)) r := by
  unfold dropP dropC
  rw [List.filter_map]
  rfl
theorem has_map {ps : List (Co × Value)} {r : Int × Int} : hasC (ps.map (·.1)) r = (findP ps r).isSome := by
  unfold hasC findP
  induction ps with
  | nil => rfl
  | cons x t ih =>
    rw [List.map_cons, List.any_cons]
    by_cases e : refOf x = r
    · rw [List.find?_cons_of_pos (by simp [e]), decide_eq_true (show (x.1.p, x.1.q) = r from e)]; rfl
    · rw [List.find?_cons_of_neg (by simp [e]), decide_eq_false (show ¬ (x.1.p, x.1.q) = r from e), Bool.false_or]; exact ih
end Go.Proofs.YtagokfoimokniaaGreatDoor

namespace Go.Proofs.YtagokfoimokniaaGreatDoor
open Go.RowKit Go.Maps Go.WideMaps

/-- A code alone, in the result's block. -/
theorem out_code {w W : World} {R : Nat} {cd : Int} (hR : w.heap.size ≤ R) (hb : Below w.heap.size w W) : OutCs w ((W.setCell ⟨R, 0, none⟩ (.int .i64 cd)).setCell ⟨R, 1, none⟩ (.slice none 0 0)) (.returned (.agg #[.int .i64 cd, .slice none 0 0])) cd [] :=
  ⟨_, _, rfl, COwn.zero _, (hb.setCell (p := ⟨R, 0, none⟩) hR _).setCell (p := ⟨R, 1, none⟩) hR _⟩
/-- Coins of their own, in the result's block. -/
theorem out_coins {w W : World} {R lo : Nat} {cs : List Co} {va : Option Addr} {vc : Nat} (hR : w.heap.size ≤ R) (hlo : R < lo) (hb : Below w.heap.size w W) (hO : ∃ kv, COwn W lo W.heap.size (.slice va cs.length vc) cs.length (fun j => cs.getD j C0) kv) :
    OutCs w ((W.setCell ⟨R, 0, none⟩ (.int .i64 0)).setCell ⟨R, 1, none⟩ (.slice va cs.length vc)) (.returned (.agg #[.int .i64 0, .slice va cs.length vc])) 0 cs := by
  obtain ⟨kv, hO⟩ := hO
  have nv : (Value.slice va cs.length vc).ownBlock ≠ some R := fun e => by
    obtain ⟨xs, h1, _⟩ := hO.row
    have := (h1.lt _ e).1
    omega
  have nk : ∀ j, j < cs.length → (kv j).ownBlock ≠ some R := fun j hj e => by have := ((hO.keys j hj).1.lt _ e).1; omega
  exact ⟨_, kv, rfl, ((hO.set2 nv nk 0 (.int .i64 0)).set2 nv nk 1 (.slice va cs.length vc)).lower (by omega) (by simp), (hb.setCell (p := ⟨R, 0, none⟩) hR _).setCell (p := ⟨R, 1, none⟩) hR _⟩
theorem own_slice3 {w : World} {lo hi n : Nat} {v : Value} {f : Nat → Co} (h : ∃ kv, COwn w lo hi v n f kv) : ∃ a c, v = .slice a n c := by
  obtain ⟨kv, h⟩ := h
  obtain ⟨xs, h1, _⟩ := h.row
  rcases h1.2 with ⟨rfl, rfl⟩ | ⟨g, cap, cur, rfl, _⟩
  · exact ⟨none, 0, rfl⟩
  · exact ⟨_, cap, rfl⟩

end Go.Proofs.YtagokfoimokniaaGreatDoor

namespace Go.Proofs.YtagokfoimokniaaGreatDoor
open Go.RowKit Go.Maps Go.WideMaps

/-- A coin put into its place; coins put, one after another. -/
def addC : List Co → Co → List Co
  | [], x => [x]
  | a :: l, x => if cmpR (a.p, a.q) (x.p, x.q) < 0 then a :: addC l x else x :: a :: l
def addCs (cs xs : List Co) : List Co := xs.foldl addC cs
theorem addC_mem {x : Co} : ∀ {cs : List Co} {c : Co}, c ∈ addC cs x ↔ c = x ∨ c ∈ cs
  | [], c => by simp [addC]
  | a :: l, c => by
    unfold addC
    by_cases e : cmpR (a.p, a.q) (x.p, x.q) < 0
    · rw [if_pos e, List.mem_cons, addC_mem, List.mem_cons]
      constructor <;> (rintro (h | h | h) <;> simp [h])
    · rw [if_neg e, List.mem_cons]
theorem addC_rise {x : Co} : ∀ {cs : List Co}, cs.Pairwise (fun x y => 0 < cmpR (y.p, y.q) (x.p, x.q)) → (∀ c ∈ cs, ¬ (c.p = x.p ∧ c.q = x.q)) → (addC cs x).Pairwise (fun x y => 0 < cmpR (y.p, y.q) (x.p, x.q))
  | [], _, _ => List.pairwise_singleton _ _
  | a :: l, h, hn => by
    rw [List.pairwise_cons] at h
    unfold addC
    by_cases e : cmpR (a.p, a.q) (x.p, x.q) < 0
    · rw [if_pos e, List.pairwise_cons]
      refine ⟨fun y hy => ?_, addC_rise h.2 fun c hc => hn c (by simp [hc])⟩
      rcases addC_mem.1 hy with rfl | hy
      · have := cmpR_neg.1 e
        exact cmpR_pos.2 (by omega)
      · exact h.1 y hy
    · rw [if_neg e, List.pairwise_cons]
      have h1 : ¬ (a.p < x.p ∨ (a.p = x.p ∧ a.q < x.q)) := fun q => e (cmpR_neg.2 q)
      have h2 := hn a (by simp)
      refine ⟨fun y hy => ?_, List.pairwise_cons.2 h⟩
      rcases List.mem_cons.1 hy with rfl | hy
      · exact cmpR_pos.2 (by omega)
      · have := cmpR_pos.1 (h.1 y hy)
        exact cmpR_pos.2 (by omega)
theorem addCs_mem : ∀ {xs cs : List Co} {c : Co}, c ∈ addCs cs xs ↔ c ∈ cs ++ xs
  | [], cs, c => by simp [addCs]
  | x :: xs, cs, c => by
    show c ∈ addCs (addC cs x) xs ↔ _
    rw [addCs_mem, List.mem_append, addC_mem, List.mem_append, List.mem_cons]
    constructor
    · rintro ((h | h) | h) <;> simp [h]
    · rintro (h | h | h) <;> simp [h]
theorem addCs_rise : ∀ {xs cs : List Co}, cs.Pairwise (fun x y => 0 < cmpR (y.p, y.q) (x.p, x.q)) → (cs ++ xs).Pairwise (fun x y => ¬ (x.p = y.p ∧ x.q = y.q)) → (addCs cs xs).Pairwise (fun x y => 0 < cmpR (y.p, y.q) (x.p, x.q))
  | [], cs, h, _ => h
  | x :: xs, cs, h, hn => by
    show (addCs (addC cs x) xs).Pairwise _
    rw [List.pairwise_append, List.pairwise_cons] at hn
    refine addCs_rise (addC_rise h fun c hc => hn.2.2 c hc x (by simp)) ?_
    rw [List.pairwise_append]
    refine ⟨?_, hn.2.1.2, fun a ha b hb => ?_⟩
    · exact (addC_rise h fun c hc => hn.2.2 c hc x (by simp)).imp fun {a b} q => by have := cmpR_pos.1 q; omega
    · rcases addC_mem.1 ha with rfl | ha
      · exact hn.2.1.1 b hb
      · exact hn.2.2 a ha b (by simp [hb])

def hasT (cs : List Co) (t : Int) : Bool := cs.any fun c => decide (c.p = t)
theorem hasT_map (ps : List (Co × Value)) (t : Int) : hasT (ps.map (·.1)) t = txIn ps t := by
  unfold hasT txIn
  rw [List.any_map]
  rfl
def putR (cs : List Co) (t : Int) (os : List Ou) (h : Int) (m : Bool) : Int × List Co :=
  if coinsR cs ≠ 0 then (coinsR cs, []) else if putsR cs.length (hasT cs t) t os h ≠ 0 then (putsR cs.length (hasT cs t) t os h, []) else (0, addCs cs (newCs t h m os os.length))
theorem new_apart {cs : List Co} {t h : Int} {m : Bool} {os : List Ou} (hri : cs.Pairwise (fun x y => 0 < cmpR (y.p, y.q) (x.p, x.q))) (hno : hasT cs t = false) : (cs ++ newCs t h m os os.length).Pairwise (fun x y => ¬ (x.p = y.p ∧ x.q = y.q)) := by
  rw [List.pairwise_append]
  refine ⟨hri.imp fun {a b} q => by have := cmpR_pos.1 q; omega, ?_, fun a ha b hb => ?_⟩
  · unfold newCs
    rw [List.pairwise_map]
    refine List.pairwise_lt_range.imp ?_
    intro i j hij e
    have : (i : Int) = (j : Int) := e.2
    omega
  · unfold newCs at hb
    obtain ⟨j, _, rfl⟩ := List.mem_map.1 hb
    unfold hasT at hno
    rw [List.any_eq_false] at hno
    have := hno a ha
    intro e
    have e1 : a.p = t := e.1
    exact absurd e1 (by simpa using this)
theorem puts_taken {n : Nat} {ti : Bool} {t h : Int} {os : List Ou} (e : putsR n ti t os h = 0) : ti = false ∧ n + os.length ≤ 40 := by
  unfold putsR at e
  by_cases h1 : putFR t os h ≠ 0
  · rw [if_pos h1] at e; exact absurd e h1
  · rw [if_neg h1] at e
    by_cases h2 : ti = true
    · rw [if_pos h2] at e; cases e
    · rw [if_neg h2] at e
      by_cases h3 : 40 < n + os.length
      · rw [if_pos h3] at e; cases e
      · exact ⟨by simpa using h2, by omega⟩

end Go.Proofs.YtagokfoimokniaaGreatDoor

namespace Go.Proofs.YtagokfoimokniaaGreatDoor
open Go.RowKit Go.Maps Go.WideMaps

theorem hasT_next {cs : List Co} {n j : Nat} {o : Co} {t : Int} (hn : cs.length = n) (hlt : j < n) (ho : o = cs.getD j C0) (h : hasT (cs.take j) t = false) (hne : o.p ≠ t) : hasT (cs.take (j + 1)) t = false := by
  have e : cs.getD j C0 = cs[j]'(by omega) := by simp [List.getD, List.getElem?_eq_getElem (show j < cs.length by omega)]
  rw [List.take_add_one, List.getElem?_eq_getElem (by omega), ← e, ← ho]
  unfold hasT at h ⊢
  rw [List.any_append, h]
  simp [hne]
theorem hasT_here {cs : List Co} {n j : Nat} {o : Co} {t : Int} (hn : cs.length = n) (hlt : j < n) (ho : o = cs.getD j C0) (he : o.p = t) : hasT cs t = true := by
  unfold hasT
  rw [List.any_eq_true]
  refine ⟨o, ?_, by simpa using he⟩
  rw [ho, List.getD, List.getElem?_eq_getElem (by omega)]
  exact List.getElem_mem _

set_option maxHeartbeats 1000000 in
theorem l4Of_any (n c : Nat) (a : Option Addr) (cs : List Co) (t : Int) (w : World) (hn : n ≤ 1048576) (hC : CAt w a n cs) :
    Calls Tryz.prog 145 #[.slice a n c, .int .i64 t] w fun e w' => e = .returned (.bool (hasT cs t)) ∧ w' = w := by
  have HC : Hid (CAt w a n cs) := hC
  have HN : Hid (cs.length = n) := hC.1
  clear hC
  go_enter Tryz.func145, Tryz.ntmps145
  go_wp2
  go_loop [5] (fun i => ∃ j : Nat, j ≤ n ∧ i = .int .i64 j ∧ Hid (hasT (cs.take j) t = false)) (fun i => n - (intOf i).toNat)
  case atStart => exact ⟨0, Nat.zero_le _, rfl, rfl⟩
  case round =>
    obtain ⟨j, hj, rfl, HH⟩ := hrel
    by_cases hlt : j < n
    · rcases HC.out.2 with h0 | ⟨b, off, e0, l0, d0⟩
      · omega
      subst e0
      obtain ⟨o, ho⟩ : ∃ o, o = cs.getD j C0 := ⟨_, rfl⟩
      obtain ⟨ka, kc, p0, _, _⟩ := d0 j hlt
      rw [← ho] at p0
      obtain ⟨x0, _⟩ := p0
      have HO : Hid (o = cs.getD j C0) := ho
      have hki : (j : Int) < (n : Int) := by omega
      clear d0 ho
      by_cases he : o.p = t
      · have HX : Hid (hasT cs t = true) := hasT_here HN.out hlt HO.out he
        go_wp2
        go_ret
        exact ⟨by rw [HX.out]; rfl, rfl⟩
      · have HX : Hid (hasT (cs.take (j + 1)) t = false) := hasT_next HN.out hlt HO.out HH.out he
        go_wp2
        go_round
        case rel => exact ⟨j + 1, by omega, by go_num, HX.out⟩
        case measure => simp [intOf]; omega
    · have HX : Hid (hasT cs t = false) := by have := HH.out; rwa [List.take_of_length_le (by rw [HN.out]; omega)] at this
      go_wp2
      go_ret
      exact ⟨by rw [HX.out]; rfl, rfl⟩

end Go.Proofs.YtagokfoimokniaaGreatDoor

namespace Go.Proofs.YtagokfoimokniaaGreatDoor
open Go.RowKit Go.Maps Go.WideMaps

/-- Behind the copy of a coin's keys. -/
theorem copy_mid {wr w2 : World} {lo j g gc : Nat} {v : Value} {f : Nat → Co} {kv : Nat → Value} {op oq ov : Int} {ol : List Int} {ox oy oh : Int} {om : Bool} {kb ko kc : Nat} (h : COwn wr lo wr.heap.size v j f kv) (hf : f j = (⟨op, oq, ov, ol, ox, oy, oh, om⟩ : Co)) (hj : j ≤ 1000) (hlo : lo ≤ wr.heap.size)
    (hb : Below (wr.alloc (.cells #[.int .i64 op, .int .i64 oq, .int .i64 ov, .slice (some ⟨kb, ko, none⟩) ol.length kc, .int .i64 ox, .int .i64 oy, .int .i64 oh, .bool om] 54)).heap.size (wr.alloc (.cells #[.int .i64 op, .int .i64 oq, .int .i64 ov, .slice (some ⟨kb, ko, none⟩) ol.length kc, .int .i64 ox, .int .i64 oy, .int .i64 oh, .bool om] 54)) w2) (hrow : w2.ownsRow ((wr.alloc (.cells #[.int .i64 op, .int .i64 oq, .int .i64 ov, .slice (some ⟨kb, ko, none⟩) ol.length kc, .int .i64 ox, .int .i64 oy, .int .i64 oh, .bool om] 54)).heap.size + 1 + 1) 2 1 (.slice (some ⟨g, 0, none⟩) ol.length gc) ol.length (ints ol)) :
    ∃ g5 cap w5, (Builtin.append_ #[28, 28] 28 #[v, .slice (some ⟨w2.heap.size, 0, none⟩) 1 1]).run Tryz.prog ((((w2.setCell ⟨wr.heap.size, 3, none⟩ (.slice (some ⟨g, 0, none⟩) ol.length gc)).setCell ⟨wr.heap.size, 4, none⟩ (.int .i64 ox)).setCell ⟨wr.heap.size, 5, none⟩ (.int .i64 oy)).alloc (.cells #[.int .i64 op, .int .i64 oq, .int .i64 ov, .slice (some ⟨g, 0, none⟩) ol.length gc, .int .i64 ox, .int .i64 oy, .int .i64 oh, .bool om] 54)) = .ok (.slice (some ⟨g5, 0, none⟩) (j + 1) cap) w5 ∧
      Hid ((∃ kv', COwn w5 lo w5.heap.size (.slice (some ⟨g5, 0, none⟩) (j + 1) cap) (j + 1) f kv') ∧ Below lo wr w5) := by
  have hsz : (wr.alloc (.cells #[.int .i64 op, .int .i64 oq, .int .i64 ov, .slice (some ⟨kb, ko, none⟩) ol.length kc, .int .i64 ox, .int .i64 oy, .int .i64 oh, .bool om] 54)).heap.size = wr.heap.size + 1 := by simp
  have hb1 : Below wr.heap.size wr w2 := (below_box _).trans (hb.mono (by omega))
  have h2 : COwn w2 lo wr.heap.size v j f kv := h.below hb1
  have nv : v.ownBlock ≠ some wr.heap.size := fun e => by have := h.top _ e; omega
  have nk : ∀ i, i < j → (kv i).ownBlock ≠ some wr.heap.size := fun i hi e => by have := (h.keys i hi).2 _ e; omega
  have h3 := ((h2.set2 nv nk 3 (.slice (some ⟨g, 0, none⟩) ol.length gc)).set2 nv nk 4 (.int .i64 ox)).set2 nv nk 5 (.int .i64 oy)
  have h4 : COwn ((((w2.setCell ⟨wr.heap.size, 3, none⟩ (.slice (some ⟨g, 0, none⟩) ol.length gc)).setCell ⟨wr.heap.size, 4, none⟩ (.int .i64 ox)).setCell ⟨wr.heap.size, 5, none⟩ (.int .i64 oy)).alloc (.cells #[.int .i64 op, .int .i64 oq, .int .i64 ov, .slice (some ⟨g, 0, none⟩) ol.length gc, .int .i64 ox, .int .i64 oy, .int .i64 oh, .bool om] 54)) lo wr.heap.size v j f kv := h3.below (below_box _)
  have hs2 : wr.heap.size ≤ w2.heap.size := hb1.size
  have hsz4 : ((((w2.setCell ⟨wr.heap.size, 3, none⟩ (.slice (some ⟨g, 0, none⟩) ol.length gc)).setCell ⟨wr.heap.size, 4, none⟩ (.int .i64 ox)).setCell ⟨wr.heap.size, 5, none⟩ (.int .i64 oy)).alloc (.cells #[.int .i64 op, .int .i64 oq, .int .i64 ov, .slice (some ⟨g, 0, none⟩) ol.length gc, .int .i64 ox, .int .i64 oy, .int .i64 oh, .bool om] 54)).heap.size = w2.heap.size + 1 := by simp
  have hX : ((((w2.setCell ⟨wr.heap.size, 3, none⟩ (.slice (some ⟨g, 0, none⟩) ol.length gc)).setCell ⟨wr.heap.size, 4, none⟩ (.int .i64 ox)).setCell ⟨wr.heap.size, 5, none⟩ (.int .i64 oy)).alloc (.cells #[.int .i64 op, .int .i64 oq, .int .i64 ov, .slice (some ⟨g, 0, none⟩) ol.length gc, .int .i64 ox, .int .i64 oy, .int .i64 oh, .bool om] 54)).heap[w2.heap.size]? = some (.cells #[.int .i64 op, .int .i64 oq, .int .i64 ov, .slice (some ⟨g, 0, none⟩) ol.length gc, .int .i64 ox, .int .i64 oy, .int .i64 oh, .bool om] 54 (0, 0)) := by
    have := heap_alloc_new (((w2.setCell ⟨wr.heap.size, 3, none⟩ (.slice (some ⟨g, 0, none⟩) ol.length gc)).setCell ⟨wr.heap.size, 4, none⟩ (.int .i64 ox)).setCell ⟨wr.heap.size, 5, none⟩ (.int .i64 oy)) (.cells #[.int .i64 op, .int .i64 oq, .int .i64 ov, .slice (some ⟨g, 0, none⟩) ol.length gc, .int .i64 ox, .int .i64 oy, .int .i64 oh, .bool om] 54)
    simpa using this
  have st : ∀ (W : World) (i : Nat) (z : Value), W.ownsRow (wr.heap.size + 1) 2 1 (.slice (some ⟨g, 0, none⟩) ol.length gc) ol.length (ints ol) → (W.setCell ⟨wr.heap.size, i, none⟩ z).ownsRow (wr.heap.size + 1) 2 1 (.slice (some ⟨g, 0, none⟩) ol.length gc) ol.length (ints ol) := fun W i z hW => ownsRow_setCell_below hW (a := ⟨wr.heap.size, i, none⟩) (show wr.heap.size < _ by omega) z
  have hr4 : ((((w2.setCell ⟨wr.heap.size, 3, none⟩ (.slice (some ⟨g, 0, none⟩) ol.length gc)).setCell ⟨wr.heap.size, 4, none⟩ (.int .i64 ox)).setCell ⟨wr.heap.size, 5, none⟩ (.int .i64 oy)).alloc (.cells #[.int .i64 op, .int .i64 oq, .int .i64 ov, .slice (some ⟨g, 0, none⟩) ol.length gc, .int .i64 ox, .int .i64 oy, .int .i64 oh, .bool om] 54)).ownsRow (wr.heap.size + 1) 2 1 (.slice (some ⟨g, 0, none⟩) ol.length gc) ol.length (ints ol) := (st _ _ _ (st _ _ _ (st _ _ _ (Joins.ownsRow_le hrow (by omega))))).alloc _
  have hgl := (hr4.lt g rfl).1
  obtain ⟨g5, cap, w5, hrun, HC⟩ := coin_added (o := (⟨op, oq, ov, ol, ox, oy, oh, om⟩ : Co)) (h4.mono (by omega)) hX rfl (Joins.ownsRow_le hr4 (by omega)) (fun i hi b hb e => by
    have h6 := (h.keys i hi).2 b hb
    have h7 : g = b := (by simpa [Value.ownBlock] using e)
    omega) hj (by omega) hf
  refine ⟨g5, cap, w5, hrun, ⟨_, HC.out.1⟩, ?_⟩
  have c1 : Below wr.heap.size wr ((((w2.setCell ⟨wr.heap.size, 3, none⟩ (.slice (some ⟨g, 0, none⟩) ol.length gc)).setCell ⟨wr.heap.size, 4, none⟩ (.int .i64 ox)).setCell ⟨wr.heap.size, 5, none⟩ (.int .i64 oy)).alloc (.cells #[.int .i64 op, .int .i64 oq, .int .i64 ov, .slice (some ⟨g, 0, none⟩) ol.length gc, .int .i64 ox, .int .i64 oy, .int .i64 oh, .bool om] 54)) := (((hb1.setCell (p := ⟨wr.heap.size, 3, none⟩) (Nat.le_refl _) _).setCell (p := ⟨wr.heap.size, 4, none⟩) (Nat.le_refl _) _).setCell (p := ⟨wr.heap.size, 5, none⟩) (Nat.le_refl _) _).trans ((below_box _).mono (by simpa using hs2))
  obtain ⟨xs, hv1, _⟩ := h.row
  exact (c1.mono hlo).grown HC.out.2 (by omega) (fun k hk => (hv1.lt k hk).1)

set_option maxRecDepth 20000 in
set_option maxHeartbeats 2000000 in
theorem l4Copy_any (n c : Nat) (a : Option Addr) (cs : List Co) (w : World) (hn : n ≤ 100) (hk : ∀ j, j < n → coinR (cs.getD j C0) = 0) (hC : CAt w a n cs) :
    Calls Tryz.prog 119 #[.slice a n c] w fun e w' => ∃ v kv, e = .returned v ∧ COwn w' w.heap.size w'.heap.size v n (fun j => cs.getD j C0) kv ∧ Below w.heap.size w w' := by
  have HC : Hid (CAt w a n cs) := hC
  have HKL : Hid (∀ j, j < n → coinR (cs.getD j C0) = 0) := hk
  have HE : Hid ((w.alloc (.cells #[] 54)).heap[w.heap.size]? = some (.cells #[] 54 (0, 0))) := heap_alloc_new _ _
  clear hC hk
  go_enter Tryz.func119, Tryz.ntmps119
  go_wp2
  go_loopw [3, 4] (fun v i wr => ∃ j : Nat, j ≤ n ∧ i = .int .i64 j ∧ Hid (∃ kv, COwn wr w.heap.size wr.heap.size v j (fun j => cs.getD j C0) kv) ∧ Below w.heap.size w wr) (fun _ i _ => n - (intOf i).toNat)
  case atStart =>
    refine ⟨0, Nat.zero_le _, rfl, ⟨fun _ => .slice none 0 0, ⟨[], own_empty HE.out (Nat.le_refl _), fun j hj => (by omega)⟩, fun b hb => ?_, fun j hj => (by omega), fun i j _ hj => (by omega)⟩, below_box _⟩
    cases hb
    exact lt_of_block HE.out
  case round =>
    obtain ⟨j, hj, rfl, HO, hbel⟩ := hrel
    by_cases hlt : j < n
    · rcases HC.out.2 with h0 | ⟨b, off, e0, l0, d0⟩
      · omega
      subst e0
      obtain ⟨o, ho⟩ : ∃ o, o = cs.getD j C0 := ⟨_, rfl⟩
      obtain ⟨ka, kc, p0, p4, p5⟩ := d0 j hlt
      have hcr := HKL.out j hlt
      rw [← ho] at p0 p4 p5 hcr
      obtain ⟨_, _, g3, g4⟩ := coin_more hcr
      obtain ⟨op, oq, ov, ol, ox, oy, oh, om⟩ := o
      have HS : Hid (cs.getD j C0 = (⟨op, oq, ov, ol, ox, oy, oh, om⟩ : Co)) := ho.symm
      simp only at p0 p4 p5 g3 g4
      rcases p5.2 with h0 | ⟨kb, ko, ek, hkl, _⟩
      · omega
      subst ek
      obtain ⟨x0, x1, x2, x3, x4, x5, x6, x7⟩ := p0.below hbel l0
      simp only at x0 x1 x2 x3 x4 x5 x6 x7
      have hbx : Below wr.heap.size wr (wr.alloc (.cells #[.int .i64 op, .int .i64 oq, .int .i64 ov, .slice (some ⟨kb, ko, none⟩) ol.length kc, .int .i64 ox, .int .i64 oy, .int .i64 oh, .bool om] 54)) := below_box _
      have hcp := l2Copy_any kb ko ol.length kc ol ox oy (wr.alloc (.cells #[.int .i64 op, .int .i64 oq, .int .i64 ov, .slice (some ⟨kb, ko, none⟩) ol.length kc, .int .i64 ox, .int .i64 oy, .int .i64 oh, .bool om] 54)) (by omega) ((p5.below hbel (Nat.le_refl _)).below hbx (Nat.le_refl _))
      have HX : Hid ((wr.alloc (.cells #[.int .i64 op, .int .i64 oq, .int .i64 ov, .slice (some ⟨kb, ko, none⟩) ol.length kc, .int .i64 ox, .int .i64 oy, .int .i64 oh, .bool om] 54)).heap[wr.heap.size]? = some (.cells #[.int .i64 op, .int .i64 oq, .int .i64 ov, .slice (some ⟨kb, ko, none⟩) ol.length kc, .int .i64 ox, .int .i64 oy, .int .i64 oh, .bool om] 54 (0, 0))) := heap_alloc_new _ _
      clear ho d0 p0 p4 p5 hcr g3 g4 hbx
      have hki : (j : Int) < (n : Int) := by omega
      go_wp2_with (first
        | (go_at_call 149; (with_reducible refine hcp.mono ?_); clear hcp; rintro e w2 ⟨g, gc, rfl, hrow, hb2⟩; obtain ⟨kv, hO⟩ := HO.out; obtain ⟨g5, cap, w5, hrun, HC5⟩ := copy_mid hO HS.out (by omega) hbel.size hb2 hrow; obtain ⟨⟨s0, s1, s2, s3, s4, s5, s6, s7⟩, f0, f1, f2, f3, f4, f5, f6, f7⟩ := cells8 (keepb HX.out hb2).out; clear hrow hb2 hO)
        | (at_builtin; go_must (refine wpList_append_runC (by rfl) _ _ _ (by rfl) (by rfl) (by rfl) hrun ?_); clear hrun))
      go_roundw
      case rel => exact ⟨j + 1, by omega, by go_num, HC5.out.1, hbel.trans HC5.out.2⟩
      case measure => simp [intOf]; omega
    · obtain rfl : j = n := by omega
      go_wp2
      go_ret
      obtain ⟨kv, hO⟩ := HO.out
      exact ⟨_, kv, rfl, hO, hbel⟩

end Go.Proofs.YtagokfoimokniaaGreatDoor

namespace Go.Proofs.YtagokfoimokniaaGreatDoor
open Go.RowKit Go.Maps Go.WideMaps

theorem own_slice {w : World} {lo hi n : Nat} {v : Value} {f : Nat → Co} {kv : Nat → Value} (h : COwn w lo hi v n f kv) : ∃ a c, v = .slice a n c := by
  obtain ⟨xs, h1, _⟩ := h.row
  rcases h1.2 with ⟨rfl, rfl⟩ | ⟨g, cap, cur, rfl, _⟩
  · exact ⟨none, 0, rfl⟩
  · exact ⟨_, cap, rfl⟩

end Go.Proofs.YtagokfoimokniaaGreatDoor

namespace Go.Proofs.YtagokfoimokniaaGreatDoor
open Go.RowKit Go.Maps Go.WideMaps

/-- An append in a region, out of its own run. -/
theorem step_append_runD {P : Program} {w : World} {ops : Array Oper} {o : Oper} {a : Act} {K : Act → World → Prop} {Q : Exit → Act → World → Prop} {E : Prop} (hgd : o.guard = none) (s x : Operand) (t : TypeId)
    (hop : o.op = .call { callee := .builtin .append, args := #[s, x], argTypes := #[t, t] }) {v u v' : Value} {w' : World} (hs : a.eval s = v) (hx : a.eval x = u) (hrun : (Builtin.append_ #[t, t] o.type #[v, u]).run P w = .ok v' w') (h : K (a.put o.dst v') w') :
    if Region.wanted o (yielded ops a.tmps) = true then Oper.wp P o a w K Q else E := by
  rw [if_pos (by simp [Region.wanted, hgd])]
  unfold Oper.wp
  simp [execOp, hop, resolve, invoke, builtin, hs, hx, hrun, Result.andThen]
  exact h

theorem one_row {w : World} {lo hi n : Nat} {v : Value} {f : Nat → Co} {kv : Nat → Value} {xs : List Value} (h : COwn w lo hi v n f kv) (hl : xs.length = n * 8) (hc : ∀ j, j < n → CellsC xs j (f j) (kv j)) : ∀ u ∈ xs, u.oneCell' = true := by
  intro u hu
  obtain ⟨t, ht, e⟩ := List.getElem_of_mem hu
  have e2 : xs[t]? = some u := by rw [List.getElem?_eq_getElem ht, e]
  obtain ⟨a0, a1, a2, a3, a4, a5, a6, a7⟩ := hc (t / 8) (by omega)
  have hk : (kv (t / 8)).oneCell' = true := by
    rcases (h.keys (t / 8) (by omega)).1.2 with ⟨e1, _⟩ | ⟨g, c, cur, e1, _⟩ <;> rw [e1] <;> rfl
  have hd : t = t / 8 * 8 + t % 8 := by omega
  have h8 : t % 8 = 0 ∨ t % 8 = 1 ∨ t % 8 = 2 ∨ t % 8 = 3 ∨ t % 8 = 4 ∨ t % 8 = 5 ∨ t % 8 = 6 ∨ t % 8 = 7 := by omega
  rw [hd] at e2
  rcases h8 with h8 | h8 | h8 | h8 | h8 | h8 | h8 | h8 <;> rw [h8] at e2
  · rw [Nat.add_zero, a0] at e2; cases e2; rfl
  · rw [a1] at e2; cases e2; rfl
  · rw [a2] at e2; cases e2; rfl
  · rw [a3] at e2; cases e2; exact hk
  · rw [a4] at e2; cases e2; rfl
  · rw [a5] at e2; cases e2; rfl
  · rw [a6] at e2; cases e2; rfl
  · rw [a7] at e2; cases e2; rfl

/-- A part of a row of coins is appended to another. -/
theorem part_added {W : World} {lo lo' k g n cap off m o8 : Nat} {v : Value} {ys xs : List Value} (hv : W.ownsRow lo 54 8 v k ys) (hx : W.ownsRow lo' 54 8 (.slice (some ⟨g, 0, none⟩) n cap) n xs) (h1 : ∀ u ∈ xs, u.oneCell' = true) (hom : off + m ≤ n) (hb : k + m ≤ 1000) (hlo : lo ≤ W.heap.size) (ho8 : o8 = off * 8 ∨ m = 0) :
    ∃ v' w', (∀ c, (Builtin.append_ #[28, 28] 28 #[v, .slice (some ⟨g, o8, none⟩) m c]).run Tryz.prog W = .ok v' w') ∧ w'.ownsRow lo 54 8 v' (k + m) (ys ++ (xs.drop (off * 8)).take (m * 8)) ∧ W.grownBy w' v.ownBlock ∧ (v' = .slice none 0 0 ↔ v = .slice none 0 0 ∧ m = 0) := by
  obtain ⟨i0, hi, hz0, hz1, hz2⟩ := info_parts Tryz.infoCoin
  have hl := hx.1
  have hnl : ((xs.drop (off * 8)).take (m * 8)).length = m * 8 := by rw [List.length_take, List.length_drop, hl]; omega
  have hnew : ∀ j u, ((xs.drop (off * 8)).take (m * 8))[j]? = some u → W.cell? ((⟨g, o8, none⟩ : Addr).add j) = some u := fun j u hj => by
    have hjm : j < m * 8 := by
      have := (List.getElem?_eq_some_iff.1 hj).1
      rw [hnl] at this
      exact this
    rw [List.getElem?_take_of_lt hjm, List.getElem?_drop] at hj
    have ho : o8 = off * 8 := by rcases ho8 with h | h <;> omega
    have ea : (⟨g, o8, none⟩ : Addr).add j = ⟨g, off * 8 + j, none⟩ := by simp [Addr.add, ho]
    rw [ea, hx.cellAt (off * 8 + j) (by omega)]
    exact hj
  have hone : ∀ u ∈ (xs.drop (off * 8)).take (m * 8), u.oneCell' = true := fun u hu => h1 u (List.mem_of_mem_drop (List.mem_of_mem_take hu))
  obtain ⟨v', w', hrun, hown', hgrow, hnil⟩ := run_append_own (P := Tryz.prog) W lo 28 28 54 i0 (.agg #[.int .i64 0, .int .i64 0, .int .i64 0, .slice none 0 0, .int .i64 0, .int .i64 0, .int .i64 0, .bool false]) 8 80 Tryz.underlying28 hi hz0 hz1 hz2 rfl (by decide) v k ys hv ⟨g, o8, none⟩ m 0 _ hnl hnew hone (by unfold maxLen; omega) (by omega) hlo
  exact ⟨v', w', fun c => hrun, hown', hgrow, hnil⟩

theorem rows_keep {W w' : World} {lo k d : Nat} {v z : Value} {ys zs : List Value} (hg : W.grownBy w' v.ownBlock) (hv : W.ownsRow lo 54 8 v k ys) (hz : W.ownsRow lo 2 1 z d zs) : w'.ownsRow lo 2 1 z d zs :=
  hz.kept hg (by
    cases e : z.ownBlock with
    | none => exact .inl rfl
    | some b => exact .inr fun e2 => rows_apart (by decide) hv hz b e2.symm e)

end Go.Proofs.YtagokfoimokniaaGreatDoor

namespace Go.Proofs.YtagokfoimokniaaGreatDoor
open Go.RowKit Go.Maps Go.WideMaps

theorem cmpR_negP {a b c d : Int} : cmpR (a, b) (c, d) < 0 ↔ 0 < cmpR (c, d) (a, b) := by rw [cmpR_neg, cmpR_pos]
theorem addC_split {x : Co} : ∀ {ts : List Co} {k : Nat}, k ≤ ts.length → (∀ t, t < k → 0 < cmpR (x.p, x.q) ((ts.getD t C0).p, (ts.getD t C0).q)) → (k < ts.length → ¬ 0 < cmpR (x.p, x.q) ((ts.getD k C0).p, (ts.getD k C0).q)) → addC ts x = ts.take k ++ x :: ts.drop k
  | [], k, hk, _, _ => by simp at hk; subst hk; rfl
  | a :: l, 0, _, _, h2 => by
    have this : ¬ 0 < cmpR (x.p, x.q) (a.p, a.q) := h2 (by simp)
    unfold addC
    rw [if_neg (fun e => this (cmpR_negP.1 e))]
    rfl
  | a :: l, k + 1, hk, h1, h2 => by
    have h0 : 0 < cmpR (x.p, x.q) (a.p, a.q) := h1 0 (by omega)
    unfold addC
    rw [if_pos (cmpR_negP.2 h0), addC_split (k := k) (by simpa using hk) (fun t ht => h1 (t + 1) (by omega)) (fun h => h2 (by simpa using h))]
    rfl
theorem put_get {ts : List Co} {x : Co} {n k j : Nat} (hn : ts.length = n) (hk : k ≤ n) : (ts.take k ++ x :: ts.drop k).getD j C0 = if j < k then ts.getD j C0 else if j = k then x else ts.getD (j - 1) C0 := by
  have hl : (ts.take k).length = k := by rw [List.length_take]; omega
  simp only [List.getD]
  by_cases h1 : j < k
  · rw [if_pos h1, List.getElem?_append_left (by omega), List.getElem?_take_of_lt h1]
  · rw [if_neg h1, List.getElem?_append_right (by omega), hl]
    by_cases h2 : j = k
    · subst h2; rw [if_pos rfl]; simp
    · rw [if_neg h2]
      obtain ⟨d, hd⟩ : ∃ d, j - k = d + 1 := ⟨j - k - 1, by omega⟩
      rw [hd, List.getElem?_cons_succ, List.getElem?_drop]
      congr 2
      omega

/-- Whose keys they are: the new coin's or an older one's. -/
def FromK (kv' kv : Nat → Value) (ku : Value) (n : Nat) : Prop := ∀ i, i < n + 1 → kv' i = ku ∨ ∃ t, t < n ∧ kv' i = kv t

set_option maxHeartbeats 2000000 in
/-- A coin is put into a list of coins: the three appends, and what they leave. -/
theorem coin_put {W : World} {lo X g n cap k o8 : Nat} {ts : List Co} {kv : Nat → Value} {x : Co} {ku : Value} (hl : ts.length = n) (h : COwn W lo X (.slice (some ⟨g, 0, none⟩) n cap) n (fun j => ts.getD j C0) kv) (hX : W.heap[X]? = some (.cells #[] 54 (0, 0))) (hlo : lo ≤ X) (hk : k ≤ n) (hn : n ≤ 500)
    (hku : W.ownsRow lo 2 1 ku x.l.length (ints x.l)) (hku1 : ku.oneCell' = true) (hap : ∀ i, i < n → ∀ b, (kv i).ownBlock = some b → ku.ownBlock ≠ some b) (ho8 : o8 = k * 8 ∨ n = k) :
    ∃ g1 c1 w3 g2 c2 w5 g3 c3 w6, (∀ c, (Builtin.append_ #[28, 28] 28 #[.slice (some ⟨X, 0, none⟩) 0 0, .slice (some ⟨g, 0, none⟩) k c]).run Tryz.prog W = .ok (.slice (some ⟨g1, 0, none⟩) k c1) w3) ∧
      ((Builtin.append_ #[28, 28] 28 #[.slice (some ⟨g1, 0, none⟩) k c1, .slice (some ⟨w3.heap.size, 0, none⟩) 1 1]).run Tryz.prog (w3.alloc (.cells #[.int .i64 x.p, .int .i64 x.q, .int .i64 x.v, ku, .int .i64 x.x, .int .i64 x.y, .int .i64 x.h, .bool x.m] 54)).drew = .ok (.slice (some ⟨g2, 0, none⟩) (k + 1) c2) w5) ∧
      (∀ c m, m = n - k → (Builtin.append_ #[28, 28] 28 #[.slice (some ⟨g2, 0, none⟩) (k + 1) c2, .slice (some ⟨g, o8, none⟩) m c]).run Tryz.prog w5 = .ok (.slice (some ⟨g3, 0, none⟩) (n + 1) c3) w6) ∧
      W.grownBy w3 (some X) ∧ Hid ((∃ kv', COwn w6 lo w6.heap.size (.slice (some ⟨g3, 0, none⟩) (n + 1) c3) (n + 1) (fun j => (ts.take k ++ x :: ts.drop k).getD j C0) kv' ∧ FromK kv' kv ku n) ∧ Below X W w6) := by
  obtain ⟨xs, hrow, hc⟩ := h.row
  have hone := one_row h hrow.1 hc
  have hXl := lt_of_block hX
  have hgX : g < X := h.top g rfl
  have hE := own_empty (base := X) (size := 8) hX (Nat.le_refl _)
  -- the first append
  obtain ⟨v1, w3, hr1, ho1, hg1, hn1⟩ := part_added (off := 0) (m := k) (o8 := 0) hE hrow hone (by omega) (by omega) (by omega) (by omega)
  have e1 : v1 ≠ .slice none 0 0 := fun e => by have := (hn1.1 e).1; cases this
  rw [Nat.zero_add, Nat.zero_mul, List.drop_zero, List.nil_append] at ho1
  obtain ⟨g1, c1, rfl⟩ : ∃ g1 c1, v1 = .slice (some ⟨g1, 0, none⟩) k c1 := by
    rcases ho1.2 with ⟨e, _⟩ | ⟨g1, c1, cur, e, _⟩
    · exact absurd e e1
    · exact ⟨g1, c1, e⟩
  have hg1X : X ≤ g1 := (ho1.lt g1 rfl).1
  have hrow3 : w3.ownsRow lo 54 8 (.slice (some ⟨g, 0, none⟩) n cap) n xs := hrow.kept hg1 (.inr (by
    intro e
    have e2 : some g = some X := e
    have := Option.some.inj e2
    omega))
  have hs3 := hg1.size
  have hElo := Joins.ownsRow_le hE hlo
  have b3 : Below X W w3 := (Below.refl X W).grown hg1 (by omega) (fun b e => by
    have e2 : some X = some b := e
    cases e2
    exact Nat.le_refl _)
  -- the coin in its block
  have hbx : Below w3.heap.size w3 (w3.alloc (.cells #[.int .i64 x.p, .int .i64 x.q, .int .i64 x.v, ku, .int .i64 x.x, .int .i64 x.y, .int .i64 x.h, .bool x.m] 54)).drew := (below_box _).trans ((Below.refl _ _).drew)
  have hs4 : (w3.alloc (.cells #[.int .i64 x.p, .int .i64 x.q, .int .i64 x.v, ku, .int .i64 x.x, .int .i64 x.y, .int .i64 x.h, .bool x.m] 54)).drew.heap.size = w3.heap.size + 1 := by simp
  have hX4 : (w3.alloc (.cells #[.int .i64 x.p, .int .i64 x.q, .int .i64 x.v, ku, .int .i64 x.x, .int .i64 x.y, .int .i64 x.h, .bool x.m] 54)).drew.heap[w3.heap.size]? = some (.cells #[.int .i64 x.p, .int .i64 x.q, .int .i64 x.v, ku, .int .i64 x.x, .int .i64 x.y, .int .i64 x.h, .bool x.m] 54 (0, 0)) := heap_alloc_new w3 (.cells #[.int .i64 x.p, .int .i64 x.q, .int .i64 x.v, ku, .int .i64 x.x, .int .i64 x.y, .int .i64 x.h, .bool x.m] 54)
  have ho4 : (w3.alloc (.cells #[.int .i64 x.p, .int .i64 x.q, .int .i64 x.v, ku, .int .i64 x.x, .int .i64 x.y, .int .i64 x.h, .bool x.m] 54)).drew.ownsRow X 54 8 (.slice (some ⟨g1, 0, none⟩) k c1) k (xs.take (k * 8)) := ho1.kept (grown_of_below hbx) (by cases Value.ownBlock (.slice (some ⟨g1, 0, none⟩) k c1) <;> simp)
  have hrow4 : (w3.alloc (.cells #[.int .i64 x.p, .int .i64 x.q, .int .i64 x.v, ku, .int .i64 x.x, .int .i64 x.y, .int .i64 x.h, .bool x.m] 54)).drew.ownsRow lo 54 8 (.slice (some ⟨g, 0, none⟩) n cap) n xs := hrow3.kept (grown_of_below hbx) (by cases Value.ownBlock (.slice (some ⟨g, 0, none⟩) n cap) <;> simp)
  -- the second append
  obtain ⟨i0, hi, hz0, hz1, hz2⟩ := info_parts Tryz.infoCoin
  obtain ⟨v2, w5, hr2, ho5, hg5, hn5⟩ := run_append_own (P := Tryz.prog) (w3.alloc (.cells #[.int .i64 x.p, .int .i64 x.q, .int .i64 x.v, ku, .int .i64 x.x, .int .i64 x.y, .int .i64 x.h, .bool x.m] 54)).drew X 28 28 54 i0 (.agg #[.int .i64 0, .int .i64 0, .int .i64 0, .slice none 0 0, .int .i64 0, .int .i64 0, .int .i64 0, .bool false]) 8 80 Tryz.underlying28 hi hz0 hz1 hz2 rfl (by decide) _ k _ ho4 ⟨w3.heap.size, 0, none⟩ 1 1 ([.int .i64 x.p, .int .i64 x.q, .int .i64 x.v, ku, .int .i64 x.x, .int .i64 x.y, .int .i64 x.h, .bool x.m] : List Value) rfl (World.news_of_block hX4) (by
    intro z hz
    simp only [List.mem_cons, List.not_mem_nil, or_false] at hz
    rcases hz with rfl | rfl | rfl | rfl | rfl | rfl | rfl | rfl <;> first | rfl | exact hku1) (by unfold maxLen; omega) (by omega) (by omega)
  obtain ⟨g2, c2, rfl⟩ := ownsRow_succ ho5
  have hs5 := hg5.size
  have hrow5 : w5.ownsRow lo 54 8 (.slice (some ⟨g, 0, none⟩) n cap) n xs := hrow4.kept hg5 (.inr (by
    intro e
    have e2 : some g = some g1 := e
    have := Option.some.inj e2
    omega))
  -- the third append
  obtain ⟨v3, w6, hr3, ho6, hg6, hn6⟩ := part_added (off := k) (m := n - k) (o8 := o8) ho5 hrow5 hone (by omega) (by omega) (by omega) (by omega)
  have e3 : v3 ≠ .slice none 0 0 := fun e => by have := (hn6.1 e).1; cases this
  have hkn : k + 1 + (n - k) = n + 1 := by omega
  rw [hkn] at ho6
  obtain ⟨g3, c3, rfl⟩ : ∃ g3 c3, v3 = .slice (some ⟨g3, 0, none⟩) (n + 1) c3 := by
    rcases ho6.2 with ⟨e, _⟩ | ⟨g3, c3, cur, e, _⟩
    · exact absurd e e3
    · exact ⟨g3, c3, e⟩
  have kp : ∀ (z : Value) (d : Nat) (zs : List Value), W.ownsRow lo 2 1 z d zs → w6.ownsRow lo 2 1 z d zs := fun z d zs hz =>
    rows_keep hg6 (Joins.ownsRow_le ho5 hlo) (rows_keep hg5 (Joins.ownsRow_le ho4 hlo) ((rows_keep hg1 hElo hz).kept (grown_of_below hbx) (by cases Value.ownBlock z <;> simp)))
  refine ⟨g1, c1, w3, g2, c2, w5, g3, c3, w6, hr1, hr2, fun c m hm => ?_, hg1, ⟨⟨fun j => if j < k then kv j else if j = k then ku else kv (j - 1), ⟨⟨_, Joins.ownsRow_le ho6 hlo, fun j hj => ?_⟩, fun b hb => (ho6.lt b hb).2, fun j hj => ?_, fun i j hij hj b hb => ?_⟩, fun i hi => ?_⟩, ?_⟩⟩
  · subst hm
    exact hr3 c
  · have hxl := hrow.1
    have hlt : (xs.take (k * 8)).length = k * 8 := by rw [List.length_take]; omega
    show CellsC _ j ((ts.take k ++ x :: ts.drop k).getD j C0) (if j < k then kv j else if j = k then ku else kv (j - 1))
    rw [put_get hl hk]
    by_cases e : j < k
    · rw [if_pos e, if_pos e]
      obtain ⟨a0, a1, a2, a3, a4, a5, a6, a7⟩ := hc j (by omega)
      have gg : ∀ i, i < 8 → (xs.take (k * 8) ++ ([.int .i64 x.p, .int .i64 x.q, .int .i64 x.v, ku, .int .i64 x.x, .int .i64 x.y, .int .i64 x.h, .bool x.m] : List Value) ++ (xs.drop (k * 8)).take ((n - k) * 8))[j * 8 + i]? = xs[j * 8 + i]? := fun i hi => by
        rw [List.append_assoc, List.getElem?_append_left (by omega), List.getElem?_take_of_lt (by omega)]
      exact ⟨(gg 0 (by omega)).trans a0, (gg 1 (by omega)).trans a1, (gg 2 (by omega)).trans a2, (gg 3 (by omega)).trans a3, (gg 4 (by omega)).trans a4, (gg 5 (by omega)).trans a5, (gg 6 (by omega)).trans a6, (gg 7 (by omega)).trans a7⟩
    · rw [if_neg e, if_neg e]
      by_cases e2 : j = k
      · subst e2
        rw [if_pos rfl, if_pos rfl]
        have gg : ∀ i, i < 8 → (xs.take (j * 8) ++ ([.int .i64 x.p, .int .i64 x.q, .int .i64 x.v, ku, .int .i64 x.x, .int .i64 x.y, .int .i64 x.h, .bool x.m] : List Value) ++ (xs.drop (j * 8)).take ((n - j) * 8))[j * 8 + i]? = ([.int .i64 x.p, .int .i64 x.q, .int .i64 x.v, ku, .int .i64 x.x, .int .i64 x.y, .int .i64 x.h, .bool x.m] : List Value)[i]? := fun i hi => by
          rw [List.append_assoc, List.getElem?_append_right (by omega), hlt, Nat.add_sub_cancel_left, List.getElem?_append_left (by simpa using hi)]
        exact ⟨gg 0 (by omega), gg 1 (by omega), gg 2 (by omega), gg 3 (by omega), gg 4 (by omega), gg 5 (by omega), gg 6 (by omega), gg 7 (by omega)⟩
      · rw [if_neg e2, if_neg e2]
        obtain ⟨a0, a1, a2, a3, a4, a5, a6, a7⟩ := hc (j - 1) (by omega)
        have gg : ∀ i, i < 8 → (xs.take (k * 8) ++ ([.int .i64 x.p, .int .i64 x.q, .int .i64 x.v, ku, .int .i64 x.x, .int .i64 x.y, .int .i64 x.h, .bool x.m] : List Value) ++ (xs.drop (k * 8)).take ((n - k) * 8))[j * 8 + i]? = xs[(j - 1) * 8 + i]? := fun i hi => by
          have hl2 : (xs.take (k * 8) ++ ([.int .i64 x.p, .int .i64 x.q, .int .i64 x.v, ku, .int .i64 x.x, .int .i64 x.y, .int .i64 x.h, .bool x.m] : List Value)).length = k * 8 + 8 := by rw [List.length_append, hlt]; rfl
          rw [List.getElem?_append_right (by omega), hl2, List.getElem?_take_of_lt (by omega), List.getElem?_drop]
          rw [show k * 8 + (j * 8 + i - (k * 8 + 8)) = (j - 1) * 8 + i by omega]
        exact ⟨(gg 0 (by omega)).trans a0, (gg 1 (by omega)).trans a1, (gg 2 (by omega)).trans a2, (gg 3 (by omega)).trans a3, (gg 4 (by omega)).trans a4, (gg 5 (by omega)).trans a5, (gg 6 (by omega)).trans a6, (gg 7 (by omega)).trans a7⟩
  · show w6.ownsRow lo 2 1 (if j < k then kv j else if j = k then ku else kv (j - 1)) ((ts.take k ++ x :: ts.drop k).getD j C0).l.length (ints ((ts.take k ++ x :: ts.drop k).getD j C0).l) ∧ _
    rw [put_get hl hk]
    by_cases e : j < k
    · rw [if_pos e, if_pos e]
      have := kp _ _ _ (h.keys j (by omega)).1
      exact ⟨this, fun b hb => (this.lt b hb).2⟩
    · rw [if_neg e, if_neg e]
      by_cases e2 : j = k
      · rw [if_pos e2, if_pos e2]
        have := kp _ _ _ hku
        exact ⟨this, fun b hb => (this.lt b hb).2⟩
      · rw [if_neg e2, if_neg e2]
        have := kp _ _ _ (h.keys (j - 1) (by omega)).1
        exact ⟨this, fun b hb => (this.lt b hb).2⟩
  · show (if j < k then kv j else if j = k then ku else kv (j - 1)).ownBlock ≠ some b
    change (if i < k then kv i else if i = k then ku else kv (i - 1)).ownBlock = some b at hb
    by_cases ei : i < k
    · rw [if_pos ei] at hb
      by_cases ej : j < k
      · rw [if_pos ej]; exact h.apart i j hij (by omega) b hb
      · rw [if_neg ej]
        by_cases ej2 : j = k
        · rw [if_pos ej2]; exact hap i (by omega) b hb
        · rw [if_neg ej2]; exact h.apart i (j - 1) (by omega) (by omega) b hb
    · rw [if_neg ei] at hb
      rw [if_neg (by omega), if_neg (by omega)]
      by_cases ei2 : i = k
      · rw [if_pos ei2] at hb
        exact fun e => hap (j - 1) (by omega) b e hb
      · rw [if_neg ei2] at hb
        exact h.apart (i - 1) (j - 1) (by omega) (by omega) b hb
  · show (if i < k then kv i else if i = k then ku else kv (i - 1)) = ku ∨ ∃ t, t < n ∧ (if i < k then kv i else if i = k then ku else kv (i - 1)) = kv t
    by_cases e : i < k
    · rw [if_pos e]; exact .inr ⟨i, by omega, rfl⟩
    · rw [if_neg e]
      by_cases e2 : i = k
      · rw [if_pos e2]; exact .inl rfl
      · rw [if_neg e2]; exact .inr ⟨i - 1, by omega, rfl⟩
  · have b4 := b3.trans (hbx.mono (by omega))
    have b5 := b4.trans ((Below.refl X _).grown hg5 (by omega) (fun b e => (ho4.lt b e).1))
    exact b5.trans ((Below.refl X w5).grown hg6 (by omega) (fun b e => (ho5.lt b e).1))

end Go.Proofs.YtagokfoimokniaaGreatDoor

namespace Go.Proofs.YtagokfoimokniaaGreatDoor
open Go.RowKit Go.Maps Go.WideMaps

theorem get_mem {ts : List Co} {m j : Nat} (hl : ts.length = m) (hj : j < m) : ts.getD j C0 ∈ ts := by
  rw [List.getD, List.getElem?_eq_getElem (by omega)]; exact List.getElem_mem _
theorem own_at2 {w : World} {lo hi n : Nat} {a : Option Addr} {c : Nat} {cs : List Co} {kv : Nat → Value} (h : COwn w lo hi (.slice a n c) n (fun j => cs.getD j C0) kv) (hn : cs.length = n) (hl : ∀ j, j < n → (cs.getD j C0).l.length ≤ 1048576) : CAt w a n cs := by
  obtain ⟨a', c', e, h2⟩ := h.at hn (fun j _ => rfl) hl
  cases e
  exact h2

end Go.Proofs.YtagokfoimokniaaGreatDoor

namespace Go.Proofs.YtagokfoimokniaaGreatDoor
open Go.RowKit Go.Maps Go.WideMaps

/-- What l4Add comes to: so many coins of the call's own. -/
def AddO (w w' : World) (e : Ending) (lo n : Nat) (rs : List Co) : Prop :=
  ∃ g uc, e = .returned (.slice (some ⟨g, 0, none⟩) n uc) ∧ (∃ kv, COwn w' lo w'.heap.size (.slice (some ⟨g, 0, none⟩) n uc) n (fun j => rs.getD j C0) kv) ∧ Below lo w w'

def AddB (w w' : World) (e : Ending) (lo n : Nat) (rs : List Co) (kv : Nat → Value) (ku : Value) : Prop :=
  ∃ g uc, e = .returned (.slice (some ⟨g, 0, none⟩) (n + 1) uc) ∧ (∃ kv', COwn w' lo w'.heap.size (.slice (some ⟨g, 0, none⟩) (n + 1) uc) (n + 1) (fun j => rs.getD j C0) kv' ∧ FromK kv' kv ku n) ∧ Below w.heap.size w w'

set_option maxRecDepth 20000 in
set_option maxHeartbeats 8000000 in
theorem l4AddB_any (g n uc lo kc : Nat) (ka : Option Addr) (ts : List Co) (kv : Nat → Value) (xp xq xv : Int) (xl : List Int) (xx xy xh : Int) (xm : Bool) (w : World) (hl : ts.length = n) (hn : n ≤ 100) (hk : ∀ j, j < n → (ts.getD j C0).l.length ≤ 1048576) (hlo : lo ≤ w.heap.size)
    (hO : COwn w lo w.heap.size (.slice (some ⟨g, 0, none⟩) n uc) n (fun j => ts.getD j C0) kv) (hku : w.ownsRow lo 2 1 (.slice ka xl.length kc) xl.length (ints xl)) (hap : ∀ i, i < n → ∀ b, (kv i).ownBlock = some b → Value.ownBlock (.slice ka xl.length kc) ≠ some b) :
    Calls Tryz.prog 165 #[.slice (some ⟨g, 0, none⟩) n uc, .agg #[.int .i64 xp, .int .i64 xq, .int .i64 xv, .slice ka xl.length kc, .int .i64 xx, .int .i64 xy, .int .i64 xh, .bool xm]] w fun e w' => AddB w w' e lo n (addC ts (⟨xp, xq, xv, xl, xx, xy, xh, xm⟩ : Co)) kv (.slice ka xl.length kc) := by
  have HC : Hid (CAt w (some ⟨g, 0, none⟩) n ts) := own_at2 hO hl hk
  have HL : Hid (ts.length = n) := hl
  have HLO : Hid (lo ≤ w.heap.size) := hlo
  have HAP : Hid (∀ i, i < n → ∀ b, (kv i).ownBlock = some b → Value.ownBlock (.slice ka xl.length kc) ≠ some b) := hap
  have T1 : Hid ((w.alloc (.cells #[.int .i64 xp, .int .i64 xq, .int .i64 xv, .slice ka xl.length kc, .int .i64 xx, .int .i64 xy, .int .i64 xh, .bool xm] 54)).heap[w.heap.size]? = some (.cells #[.int .i64 xp, .int .i64 xq, .int .i64 xv, .slice ka xl.length kc, .int .i64 xx, .int .i64 xy, .int .i64 xh, .bool xm] 54 (0, 0))) := heap_alloc_new _ _
  have HO1 : Hid (COwn (w.alloc (.cells #[.int .i64 xp, .int .i64 xq, .int .i64 xv, .slice ka xl.length kc, .int .i64 xx, .int .i64 xy, .int .i64 xh, .bool xm] 54)) lo w.heap.size (.slice (some ⟨g, 0, none⟩) n uc) n (fun j => ts.getD j C0) kv) := hO.below (below_box _)
  have HKU1 : Hid ((w.alloc (.cells #[.int .i64 xp, .int .i64 xq, .int .i64 xv, .slice ka xl.length kc, .int .i64 xx, .int .i64 xy, .int .i64 xh, .bool xm] 54)).ownsRow lo 2 1 (.slice ka xl.length kc) xl.length (ints xl)) := hku.alloc _
  obtain ⟨hq1, hq2⟩ : n ≤ uc ∧ uc ≤ maxLen := by
    obtain ⟨xs, q, _⟩ := hO.row
    rcases q.2 with ⟨e, _⟩ | ⟨g', cap, cur, e, _, _, q1, q2, _⟩
    · cases e
    · cases e; exact ⟨q1, q2⟩
  unfold maxLen at hq2
  have hs1 : (w.alloc (.cells #[.int .i64 xp, .int .i64 xq, .int .i64 xv, .slice ka xl.length kc, .int .i64 xx, .int .i64 xy, .int .i64 xh, .bool xm] 54)).heap.size = w.heap.size + 1 := by simp
  clear hl hk hO hku hap
  go_enter Tryz.func165, Tryz.ntmps165
  go_wp2
  go_loopw [5] (fun i wr => ∃ j : Nat, j ≤ n ∧ i = .int .i64 j ∧ Below (w.alloc (.cells #[.int .i64 xp, .int .i64 xq, .int .i64 xv, .slice ka xl.length kc, .int .i64 xx, .int .i64 xy, .int .i64 xh, .bool xm] 54)).heap.size (w.alloc (.cells #[.int .i64 xp, .int .i64 xq, .int .i64 xv, .slice ka xl.length kc, .int .i64 xx, .int .i64 xy, .int .i64 xh, .bool xm] 54)) wr ∧ Hid (∀ t, t < j → 0 < cmpR (xp, xq) ((ts.getD t C0).p, (ts.getD t C0).q))) (fun i _ => n - (intOf i).toNat)
  case atStart => exact ⟨0, Nat.zero_le _, rfl, Below.refl _ _, fun t ht => by omega⟩
  case round =>
    obtain ⟨j, hj, rfl, hbel, HI⟩ := hrel
    by_cases hlt : j < n
    · rcases HC.out.2 with h0 | ⟨b, off, e0, l0, d0⟩
      · omega
      cases e0
      obtain ⟨o, ho⟩ : ∃ o, o = ts.getD j C0 := ⟨_, rfl⟩
      obtain ⟨oa, oc, p0, _, _⟩ := d0 j hlt
      rw [← ho] at p0
      have HS : Hid (o = ts.getD j C0) := ho
      obtain ⟨op, oq, ov, ol, ox, oy, oh, om⟩ := o
      have hbw : Below w.heap.size w wr := (below_box _).trans (hbel.mono (by omega))
      obtain ⟨x0, x1, _⟩ := p0.below hbw l0
      simp only [Nat.zero_add] at x0 x1
      obtain ⟨⟨b0, b1, _⟩, _⟩ := cells8 (keepb T1.out hbel).out
      obtain ⟨kb, hkb⟩ : ∃ k, k = decide (0 < cmpR (xp, xq) (op, oq)) := ⟨_, rfl⟩
      have HKB : Hid (kb = decide (0 < cmpR (xp, xq) (op, oq))) := hkb
      have hah : Calls Tryz.prog 64 #[.agg #[.int .i64 op, .int .i64 oq], .agg #[.int .i64 xp, .int .i64 xq]] wr.drew fun e w' => e = .returned (.bool kb) ∧ Below wr.heap.size wr w' := by
        rw [HKB.out]; exact (l4Ahead_any op oq xp xq wr.drew).mono fun e w' h => ⟨h.1, (Below.refl _ _).drew.trans h.2⟩
      have hki : (j : Int) < (n : Int) := by omega
      have hd : decide (j < n) = true := decide_eq_true hlt
      have hgl : g < wr.heap.size := Nat.lt_of_lt_of_le l0 hbw.size
      have hbl : w.heap.size < wr.heap.size := lt_of_block (keepb T1.out hbel).out
      have HBW0 : Hid (Below w.heap.size w wr) := hbw
      clear d0 ho p0 hkb hbw
      go_wp2
      go_region_held3 (fun w' => w'.cell? ⟨g, j * 8, none⟩ = some (.int .i64 op) ∧ w'.cell? ⟨g, j * 8 + 1, none⟩ = some (.int .i64 oq) ∧ w'.cell? ⟨w.heap.size, 0, none⟩ = some (.int .i64 xp) ∧ w'.cell? ⟨w.heap.size, 1, none⟩ = some (.int .i64 xq)) (go_keep)
        (first | (go_at_call 64; refine hah.mono ?_; rintro e w4 ⟨rfl, hb4⟩; have z0 := (hb4.cell (p := ⟨g, j * 8, none⟩) hgl).trans x0; have z1 := (hb4.cell (p := ⟨g, j * 8 + 1, none⟩) hgl).trans x1; have z2 := (hb4.cell (p := ⟨w.heap.size, 0, none⟩) hbl).trans b0; have z3 := (hb4.cell (p := ⟨w.heap.size, 1, none⟩) hbl).trans b1))
      cases kb
      · have HBt : Hid (Below (w.alloc (.cells #[.int .i64 xp, .int .i64 xq, .int .i64 xv, .slice ka xl.length kc, .int .i64 xx, .int .i64 xy, .int .i64 xh, .bool xm] 54)).heap.size (w.alloc (.cells #[.int .i64 xp, .int .i64 xq, .int .i64 xv, .slice ka xl.length kc, .int .i64 xx, .int .i64 xy, .int .i64 xh, .bool xm] 54)) w4) := hbel.trans (hb4.mono hbel.size)
        have HST : Hid (j < ts.length → ¬ 0 < cmpR (xp, xq) ((ts.getD j C0).p, (ts.getD j C0).q)) := fun _ => by
          rw [← HS.out]
          exact of_decide_eq_false HKB.out.symm
        have HSP : Hid (addC ts (⟨xp, xq, xv, xl, xx, xy, xh, xm⟩ : Co) = ts.take j ++ (⟨xp, xq, xv, xl, xx, xy, xh, xm⟩ : Co) :: ts.drop j) := addC_split (by rw [HL.out]; omega) HI.out HST.out
        clear x0 x1 b0 b1 z0 z1 z2 z3 hb4 hbel hah
        have hsW : w.heap.size < w4.heap.size := Nat.lt_of_lt_of_le (by simp) HBt.out.size
        have hloW : lo ≤ w4.heap.size := by omega
        have HOW : Hid (COwn (w4.alloc (.cells #[] 54)) lo w4.heap.size (.slice (some ⟨g, 0, none⟩) n uc) n (fun j => ts.getD j C0) kv) := ((HO1.out.below HBt.out).below (below_box _)).mono (by omega)
        have HKW : Hid ((w4.alloc (.cells #[] 54)).ownsRow lo 2 1 (.slice ka xl.length kc) xl.length (ints xl)) := (HKU1.out.kept (grown_of_below HBt.out) (by cases Value.ownBlock (.slice ka xl.length kc) <;> simp)).alloc _
        have HBX : Hid ((w4.alloc (.cells #[] 54)).heap[w.heap.size]? = some (.cells #[.int .i64 xp, .int .i64 xq, .int .i64 xv, .slice ka xl.length kc, .int .i64 xx, .int .i64 xy, .int .i64 xh, .bool xm] 54 (0, 0))) := (keepb (keepb T1.out HBt.out).out (below_box _)).out
        have HBW : Hid (Below w.heap.size w (w4.alloc (.cells #[] 54))) := (((below_box _).trans (HBt.out.mono (by simp))).trans ((below_box _).mono (by omega)))
        have hkc : (j : Int) ≤ (uc : Int) := by omega
        have hkn : (j : Int) ≤ (n : Int) := by omega
        have hk0 : (0 : Int) ≤ (j : Int) := by omega
        by_cases hucj : uc = j
        · obtain ⟨g1, c1, w3, g2, c2, w5, g3, c3, w6, hr1, hr2, hr3, hg3, HPUT⟩ := coin_put (x := (⟨xp, xq, xv, xl, xx, xy, xh, xm⟩ : Co)) (k := j) (o8 := 0) HL.out HOW.out (heap_alloc_new w4 (.cells #[] 54)) hloW (by omega) (by omega) HKW.out rfl HAP.out (.inr (by omega))
          have HB3 : Hid (w3.heap[w.heap.size]? = some (.cells #[.int .i64 xp, .int .i64 xq, .int .i64 xv, .slice ka xl.length kc, .int .i64 xx, .int .i64 xy, .int .i64 xh, .bool xm] 54 (0, 0))) := (hg3.block w.heap.size (by simp; omega) (by intro e; have := Option.some.inj e; omega)).trans HBX.out
          obtain ⟨⟨y0, y1, y2, y3, y4, y5, y6, y7⟩, _⟩ := cells8 HB3.out
          have HFIN : Hid (AddB w w6 (.returned (.slice (some ⟨g3, 0, none⟩) (n + 1) c3)) lo n (addC ts (⟨xp, xq, xv, xl, xx, xy, xh, xm⟩ : Co)) kv (.slice ka xl.length kc)) := ⟨g3, c3, rfl, by rw [HSP.out]; exact HPUT.out.1, HBW.out.trans (HPUT.out.2.mono (by omega))⟩
          clear hg3 HPUT HB3
          go_wp2_with (first | (at_builtin; go_must (refine wpList_append_runC (by rfl) _ _ _ (by rfl) (by rfl) (by rfl) (hr1 _) ?_); clear hr1))
          go_region_law (first
            | (have hra := hr2; clear hr2; refine step_append_runD (by rfl) _ _ _ (by rfl) (by rfl) (by rfl) hra ?_; clear hra)
            | (refine step_append_runD (by rfl) _ _ _ (by rfl) (by rfl) (by rfl) (hr3 _ _ (by omega)) ?_))
          all_goals
            go_wp2
            go_ret
            exact HFIN.out
        · obtain ⟨g1, c1, w3, g2, c2, w5, g3, c3, w6, hr1, hr2, hr3, hg3, HPUT⟩ := coin_put (x := (⟨xp, xq, xv, xl, xx, xy, xh, xm⟩ : Co)) (k := j) (o8 := j * 8) HL.out HOW.out (heap_alloc_new w4 (.cells #[] 54)) hloW (by omega) (by omega) HKW.out rfl HAP.out (.inl rfl)
          have HB3 : Hid (w3.heap[w.heap.size]? = some (.cells #[.int .i64 xp, .int .i64 xq, .int .i64 xv, .slice ka xl.length kc, .int .i64 xx, .int .i64 xy, .int .i64 xh, .bool xm] 54 (0, 0))) := (hg3.block w.heap.size (by simp; omega) (by intro e; have := Option.some.inj e; omega)).trans HBX.out
          obtain ⟨⟨y0, y1, y2, y3, y4, y5, y6, y7⟩, _⟩ := cells8 HB3.out
          have HFIN : Hid (AddB w w6 (.returned (.slice (some ⟨g3, 0, none⟩) (n + 1) c3)) lo n (addC ts (⟨xp, xq, xv, xl, xx, xy, xh, xm⟩ : Co)) kv (.slice ka xl.length kc)) := ⟨g3, c3, rfl, by rw [HSP.out]; exact HPUT.out.1, HBW.out.trans (HPUT.out.2.mono (by omega))⟩
          clear hg3 HPUT HB3
          go_wp2_with (first | (at_builtin; go_must (refine wpList_append_runC (by rfl) _ _ _ (by rfl) (by rfl) (by rfl) (hr1 _) ?_); clear hr1))
          go_region_law (first
            | (have hra := hr2; clear hr2; refine step_append_runD (by rfl) _ _ _ (by rfl) (by rfl) (by rfl) hra ?_; clear hra)
            | (refine step_append_runD (by rfl) _ _ _ (by rfl) (by rfl) (by rfl) (hr3 _ _ (by omega)) ?_))
          all_goals
            go_wp2
            go_ret
            exact HFIN.out
      · have HIN : Hid (∀ t, t < j + 1 → 0 < cmpR (xp, xq) ((ts.getD t C0).p, (ts.getD t C0).q)) := fun t ht => by
          rcases Nat.lt_or_ge t j with h1 | h1
          · exact HI.out t h1
          · obtain rfl : t = j := by omega
            rw [← HS.out]
            exact of_decide_eq_true HKB.out.symm
        go_wp2
        go_roundw
        case rel => exact ⟨j + 1, by omega, by go_num, hbel.trans (hb4.mono hbel.size), HIN⟩
        case measure => simp [intOf]; omega
    · have hki : ¬ (j : Int) < (n : Int) := by omega
      have hd : decide (j < n) = false := decide_eq_false hlt
      have HST : Hid (j < ts.length → ¬ 0 < cmpR (xp, xq) ((ts.getD j C0).p, (ts.getD j C0).q)) := fun h => by rw [HL.out] at h; omega
      have HSP : Hid (addC ts (⟨xp, xq, xv, xl, xx, xy, xh, xm⟩ : Co) = ts.take j ++ (⟨xp, xq, xv, xl, xx, xy, xh, xm⟩ : Co) :: ts.drop j) := addC_split (by rw [HL.out]; omega) HI.out HST.out
      clear HST
      go_wp2
      go_quiet (fail)
      obtain ⟨wt, hwt⟩ : ∃ W, W = wr.drewN nq := ⟨_, rfl⟩
      have HBt : Hid (Below (w.alloc (.cells #[.int .i64 xp, .int .i64 xq, .int .i64 xv, .slice ka xl.length kc, .int .i64 xx, .int .i64 xy, .int .i64 xh, .bool xm] 54)).heap.size (w.alloc (.cells #[.int .i64 xp, .int .i64 xq, .int .i64 xv, .slice ka xl.length kc, .int .i64 xx, .int .i64 xy, .int .i64 xh, .bool xm] 54)) wt) := by rw [hwt]; exact hbel.trans (Joins.below_draws _ _ _)
      rw [← hwt]
      clear hbel hwt
      have hsW : w.heap.size < wt.heap.size := Nat.lt_of_lt_of_le (by simp) HBt.out.size
      have hloW : lo ≤ wt.heap.size := by omega
      have HOW : Hid (COwn (wt.alloc (.cells #[] 54)) lo wt.heap.size (.slice (some ⟨g, 0, none⟩) n uc) n (fun j => ts.getD j C0) kv) := ((HO1.out.below HBt.out).below (below_box _)).mono (by omega)
      have HKW : Hid ((wt.alloc (.cells #[] 54)).ownsRow lo 2 1 (.slice ka xl.length kc) xl.length (ints xl)) := (HKU1.out.kept (grown_of_below HBt.out) (by cases Value.ownBlock (.slice ka xl.length kc) <;> simp)).alloc _
      have HBX : Hid ((wt.alloc (.cells #[] 54)).heap[w.heap.size]? = some (.cells #[.int .i64 xp, .int .i64 xq, .int .i64 xv, .slice ka xl.length kc, .int .i64 xx, .int .i64 xy, .int .i64 xh, .bool xm] 54 (0, 0))) := (keepb (keepb T1.out HBt.out).out (below_box _)).out
      have HBW : Hid (Below w.heap.size w (wt.alloc (.cells #[] 54))) := (((below_box _).trans (HBt.out.mono (by simp))).trans ((below_box _).mono (by omega)))
      have hkc : (j : Int) ≤ (uc : Int) := by omega
      have hkn : (j : Int) ≤ (n : Int) := by omega
      have hk0 : (0 : Int) ≤ (j : Int) := by omega
      by_cases hucj : uc = j
      · obtain ⟨g1, c1, w3, g2, c2, w5, g3, c3, w6, hr1, hr2, hr3, hg3, HPUT⟩ := coin_put (x := (⟨xp, xq, xv, xl, xx, xy, xh, xm⟩ : Co)) (k := j) (o8 := 0) HL.out HOW.out (heap_alloc_new wt (.cells #[] 54)) hloW (by omega) (by omega) HKW.out rfl HAP.out (.inr (by omega))
        have HB3 : Hid (w3.heap[w.heap.size]? = some (.cells #[.int .i64 xp, .int .i64 xq, .int .i64 xv, .slice ka xl.length kc, .int .i64 xx, .int .i64 xy, .int .i64 xh, .bool xm] 54 (0, 0))) := (hg3.block w.heap.size (by simp; omega) (by intro e; have := Option.some.inj e; omega)).trans HBX.out
        obtain ⟨⟨y0, y1, y2, y3, y4, y5, y6, y7⟩, _⟩ := cells8 HB3.out
        have HFIN : Hid (AddB w w6 (.returned (.slice (some ⟨g3, 0, none⟩) (n + 1) c3)) lo n (addC ts (⟨xp, xq, xv, xl, xx, xy, xh, xm⟩ : Co)) kv (.slice ka xl.length kc)) := ⟨g3, c3, rfl, by rw [HSP.out]; exact HPUT.out.1, HBW.out.trans (HPUT.out.2.mono (by omega))⟩
        clear hg3 HPUT HB3
        go_wp2_with (first | (at_builtin; go_must (refine wpList_append_runC (by rfl) _ _ _ (by rfl) (by rfl) (by rfl) (hr1 _) ?_); clear hr1))
        go_region_law (first
          | (have hra := hr2; clear hr2; refine step_append_runD (by rfl) _ _ _ (by rfl) (by rfl) (by rfl) hra ?_; clear hra)
          | (refine step_append_runD (by rfl) _ _ _ (by rfl) (by rfl) (by rfl) (hr3 _ _ (by omega)) ?_))
        all_goals
          go_wp2
          go_ret
          exact HFIN.out
      · obtain ⟨g1, c1, w3, g2, c2, w5, g3, c3, w6, hr1, hr2, hr3, hg3, HPUT⟩ := coin_put (x := (⟨xp, xq, xv, xl, xx, xy, xh, xm⟩ : Co)) (k := j) (o8 := j * 8) HL.out HOW.out (heap_alloc_new wt (.cells #[] 54)) hloW (by omega) (by omega) HKW.out rfl HAP.out (.inl rfl)
        have HB3 : Hid (w3.heap[w.heap.size]? = some (.cells #[.int .i64 xp, .int .i64 xq, .int .i64 xv, .slice ka xl.length kc, .int .i64 xx, .int .i64 xy, .int .i64 xh, .bool xm] 54 (0, 0))) := (hg3.block w.heap.size (by simp; omega) (by intro e; have := Option.some.inj e; omega)).trans HBX.out
        obtain ⟨⟨y0, y1, y2, y3, y4, y5, y6, y7⟩, _⟩ := cells8 HB3.out
        have HFIN : Hid (AddB w w6 (.returned (.slice (some ⟨g3, 0, none⟩) (n + 1) c3)) lo n (addC ts (⟨xp, xq, xv, xl, xx, xy, xh, xm⟩ : Co)) kv (.slice ka xl.length kc)) := ⟨g3, c3, rfl, by rw [HSP.out]; exact HPUT.out.1, HBW.out.trans (HPUT.out.2.mono (by omega))⟩
        clear hg3 HPUT HB3
        go_wp2_with (first | (at_builtin; go_must (refine wpList_append_runC (by rfl) _ _ _ (by rfl) (by rfl) (by rfl) (hr1 _) ?_); clear hr1))
        go_region_law (first
          | (have hra := hr2; clear hr2; refine step_append_runD (by rfl) _ _ _ (by rfl) (by rfl) (by rfl) hra ?_; clear hra)
          | (refine step_append_runD (by rfl) _ _ _ (by rfl) (by rfl) (by rfl) (hr3 _ _ (by omega)) ?_))
        all_goals
          go_wp2
          go_ret
          exact HFIN.out

theorem l4Add_any (g n uc lo kc : Nat) (ka : Option Addr) (ts : List Co) (kv : Nat → Value) (xp xq xv : Int) (xl : List Int) (xx xy xh : Int) (xm : Bool) (w : World) (hl : ts.length = n) (hn : n ≤ 100) (hk : ∀ j, j < n → (ts.getD j C0).l.length ≤ 1048576) (hlo : lo ≤ w.heap.size)
    (hO : COwn w lo w.heap.size (.slice (some ⟨g, 0, none⟩) n uc) n (fun j => ts.getD j C0) kv) (hku : w.ownsRow lo 2 1 (.slice ka xl.length kc) xl.length (ints xl)) (hap : ∀ i, i < n → ∀ b, (kv i).ownBlock = some b → Value.ownBlock (.slice ka xl.length kc) ≠ some b) :
    Calls Tryz.prog 165 #[.slice (some ⟨g, 0, none⟩) n uc, .agg #[.int .i64 xp, .int .i64 xq, .int .i64 xv, .slice ka xl.length kc, .int .i64 xx, .int .i64 xy, .int .i64 xh, .bool xm]] w fun e w' => AddO w w' e lo (n + 1) (addC ts (⟨xp, xq, xv, xl, xx, xy, xh, xm⟩ : Co)) :=
  (l4AddB_any g n uc lo kc ka ts kv xp xq xv xl xx xy xh xm w hl hn hk hlo hO hku hap).mono fun _ _ ⟨g, c, h1, ⟨kv', h2, _⟩, h3⟩ => ⟨g, c, h1, ⟨kv', h2⟩, h3.mono hlo⟩

end Go.Proofs.YtagokfoimokniaaGreatDoor
