/- A purse's coins, sorted by their refs. The purse tells its coins, rising by their refs. The program takes coins out of its purse. The program's TakeCoins keeps its contract. The program's PutCoins keeps its contract. Two rules held against each other: the specification's way and the program's. Two rules held against each other, boxed: the specification's way. What SameRules answers: the specification's and the program's. The specification's SameTxs. Two transactions that differ in their kind. Two transactions that differ in their member. Two transactions that differ in how many refs or outs they have. A transaction is taken back: what it comes to, without a world. The specification's CoinAt. -/
import Derived.Test.YtdfijlcjmllplaaJn3
import Derived.Test.YtdfijlcjmllplaaSo
import Derived.Shelf.SlSortCmp.NoneTotal
import Derived.Test.YtdfijlcjmllplaaJn4
import Derived.Test.YtdfijlcjmllplaaJn1
import Derived.Test.YtdfijlcjmllplaaJn2
namespace Go.Proofs.Ytdfijlcjmllplaa
open Go.RowKit Go.Maps Go.WideMaps Go.Shelf

instance : Inhabited SC := ⟨⟨(C0, .slice none 0 0), none, 0, 0, rfl⟩⟩

theorem grow_of_below {w w' : World} (hb : Below w.heap.size w w') (hd : w.drawn ≤ w'.drawn) : ∃ q os', w' = Sort.grow (w.drewN q) os' := by
  have hheap : w.heap ++ w'.heap.extract w.heap.size w'.heap.size = w'.heap := by
    apply Array.ext_getElem?
    intro k
    by_cases hk : k < w.heap.size
    · rw [Array.getElem?_append_left hk]; exact (hb.block k hk).symm
    · have := hb.size
      rw [Array.getElem?_append_right (by omega), Array.getElem?_extract]
      by_cases h2 : k < w'.heap.size
      · rw [if_pos (by omega)]
        congr 1
        omega
      · rw [if_neg (by omega), Array.getElem?_eq_none (by omega)]
  refine ⟨w'.drawn - w.drawn, w'.heap.extract w.heap.size w'.heap.size, ?_⟩
  have h1 := hb.os
  have h2 := hb.tape
  have h3 := hb.output
  obtain ⟨a1, a2, a3, a4, a5⟩ := w
  obtain ⟨b1, b2, b3, b4, b5⟩ := w'
  simp only at h1 h2 h3 hheap hd
  subst h1 h2 h3
  simp only [Sort.grow, World.drewN, World.mk.injEq, true_and, and_true]
  exact ⟨hheap.symm, by omega⟩

/-- What compareCoins answers. -/
def cfC (x y : SC) : Int := cmpR (refOf x.1) (refOf y.1)
theorem ltC (x y : SC) : ltOf cfC x y = decide (x.1.1.p < y.1.1.p ∨ (x.1.1.p = y.1.1.p ∧ x.1.1.q < y.1.1.q)) := by
  unfold ltOf cfC refOf
  exact decide_eq_decide.2 cmpR_neg
theorem swoC : Sort.SWO (ltOf cfC) where
  irrefl x := by rw [ltC]; simp
  trans x y z h1 h2 := by rw [ltC] at *; simp at *; omega
  ntrans x y z h1 h2 := by rw [ltC] at *; simp at *; omega

set_option maxRecDepth 20000 in
set_option maxHeartbeats 2000000 in
theorem compareCoins_any (x y : SC) (w : World) : Calls Try.prog 47 #[.agg (cellsC x).toArray, .agg (cellsC y).toArray] w fun e w' => e = .returned (.int .i64 (cfC x y)) ∧ ∃ q os', w' = Sort.grow (w.drewN q) os' := by
  obtain ⟨⟨xc, xu⟩, xa, xn, xp, hx⟩ := x
  obtain ⟨⟨yc, yu⟩, ya, yn, yp, hy⟩ := y
  simp only at hx hy
  subst hx hy
  show Calls Try.prog 47 #[.agg #[.int .i64 xc.p, .int .i64 xc.q, .int .i64 xc.v, .slice xa xn xp, .int .i64 xc.x, .int .i64 xc.y, .int .i64 xc.h, .bool xc.m], .agg #[.int .i64 yc.p, .int .i64 yc.q, .int .i64 yc.v, .slice ya yn yp, .int .i64 yc.x, .int .i64 yc.y, .int .i64 yc.h, .bool yc.m]] w _
  obtain ⟨t0, t1, t2⟩ := blocks2 w (.cells #[.int .i64 xc.p, .int .i64 xc.q, .int .i64 xc.v, .slice xa xn xp, .int .i64 xc.x, .int .i64 xc.y, .int .i64 xc.h, .bool xc.m] 41) (.cells #[.int .i64 yc.p, .int .i64 yc.q, .int .i64 yc.v, .slice ya yn yp, .int .i64 yc.x, .int .i64 yc.y, .int .i64 yc.h, .bool yc.m] 41)
  have hbx : Below w.heap.size w ((w.alloc (.cells #[.int .i64 xc.p, .int .i64 xc.q, .int .i64 xc.v, .slice xa xn xp, .int .i64 xc.x, .int .i64 xc.y, .int .i64 xc.h, .bool xc.m] 41)).alloc (.cells #[.int .i64 yc.p, .int .i64 yc.q, .int .i64 yc.v, .slice ya yn yp, .int .i64 yc.x, .int .i64 yc.y, .int .i64 yc.h, .bool yc.m] 41)) := below_box2 _ _
  have hc := compareRefs_more xc.p xc.q yc.p yc.q ((w.alloc (.cells #[.int .i64 xc.p, .int .i64 xc.q, .int .i64 xc.v, .slice xa xn xp, .int .i64 xc.x, .int .i64 xc.y, .int .i64 xc.h, .bool xc.m] 41)).alloc (.cells #[.int .i64 yc.p, .int .i64 yc.q, .int .i64 yc.v, .slice ya yn yp, .int .i64 yc.x, .int .i64 yc.y, .int .i64 yc.h, .bool yc.m] 41))
  obtain ⟨⟨s0, s1, s2, s3, s4, s5, s6, s7⟩, _⟩ := cells8 t0
  obtain ⟨⟨r0, r1, r2, r3, r4, r5, r6, r7⟩, _⟩ := cells8 t1
  obtain ⟨k, hk⟩ : ∃ k, k = cmpR (xc.p, xc.q) (yc.p, yc.q) := ⟨_, rfl⟩
  rw [← hk] at hc
  have HK : Hid (cfC ⟨(xc, .slice xa xn xp), xa, xn, xp, rfl⟩ ⟨(yc, .slice ya yn yp), ya, yn, yp, rfl⟩ = k) := hk.symm
  have HBX : Hid (Below w.heap.size w ((w.alloc (.cells #[.int .i64 xc.p, .int .i64 xc.q, .int .i64 xc.v, .slice xa xn xp, .int .i64 xc.x, .int .i64 xc.y, .int .i64 xc.h, .bool xc.m] 41)).alloc (.cells #[.int .i64 yc.p, .int .i64 yc.q, .int .i64 yc.v, .slice ya yn yp, .int .i64 yc.x, .int .i64 yc.y, .int .i64 yc.h, .bool yc.m] 41))) := hbx
  clear hk hbx t0 t1 t2
  go_enter Try.func47, Try.ntmps47
  go_wp2_with (go_at_call 34; (with_reducible refine hc.mono ?_); clear hc; rintro e w' ⟨rfl, hb, hd⟩)
  go_ret
  exact ⟨by rw [HK.out]; rfl, grow_of_below (HBX.out.trans (hb.mono HBX.out.size)) hd⟩

theorem get_flat : ∀ (ts : List SC) (t : Nat), t < ts.length * 8 → (ts.flatMap cellsC)[t]? = (cellsC (ts[t / 8]!))[t % 8]?
  | [], t, h => by simp at h
  | a :: l, t, h => by
    have hl : (cellsC a).length = 8 := rfl
    rw [List.flatMap_cons]
    by_cases h8 : t < 8
    · rw [List.getElem?_append_left (by omega)]
      have h1 : t / 8 = 0 := by omega
      have h2 : t % 8 = t := by omega
      rw [h1, h2]
      rfl
    · rw [List.getElem?_append_right (by omega), hl, get_flat l (t - 8) (by simp at h; omega)]
      have h1 : t / 8 = (t - 8) / 8 + 1 := by omega
      have h2 : t % 8 = (t - 8) % 8 := by omega
      rw [h1, h2]
      rfl
theorem length_flat (ts : List SC) : (ts.flatMap cellsC).length = ts.length * 8 := by
  induction ts with
  | nil => rfl
  | cons a l ih => rw [List.flatMap_cons, List.length_append, ih]; simp [cellsC]; omega
theorem flat_list (ts : List SC) : (Sort.flatK cellsC 8 ts.toArray).toList = ts.flatMap cellsC := by
  apply List.ext_getElem?
  intro t
  by_cases h : t < ts.length * 8
  · rw [get_flat ts t h, Array.getElem?_toList, Array.getElem?_eq_getElem (by simpa using h)]
    have h1 := Sort.get_flatK cellsC 8 ts.toArray t (by simpa using h)
    rw [getElem!_pos (Sort.flatK cellsC 8 ts.toArray) t (by simpa using h)] at h1
    rw [h1]
    have h2 : t % 8 < (cellsC (ts.toArray[t / 8]!)).length := by show t % 8 < 8; omega
    rw [getElem!_pos (cellsC (ts.toArray[t / 8]!)) (t % 8) h2, ← List.getElem?_eq_getElem h2]
    simp
  · rw [List.getElem?_eq_none (by simp; omega), List.getElem?_eq_none (by rw [length_flat]; omega)]

theorem holds_coins {w : World} {g cap base : Nat} {ss : List SC} (h : w.ownsRow base 41 8 (.slice (some ⟨g, 0, none⟩) ss.length cap) ss.length (ss.flatMap cellsC)) : Sort.HoldsK cellsC 8 w g 0 ss.toArray := by
  intro j hj
  have hj' : j < ss.length * 8 := by simpa using hj
  refine ⟨?_, h.frozenAt _⟩
  rw [Nat.zero_add, h.cellAt j hj', ← flat_list, Array.getElem?_toList, getElem!_pos (Sort.flatK cellsC 8 ss.toArray) j hj, Array.getElem?_eq_getElem hj]
  rfl

theorem block_sorted {w : World} {g n : Nat} {os : Array Obj} {cur : Array Value} {e : TypeId} {fr : Nat × Nat} (d : Array Value) (hb : w.heap[g]? = some (.cells cur e fr)) :
    (Sort.grow (Sort.putRow id (Sort.ahead w n) g 0 d) os).heap[g]? = some (.cells (Sort.putCells id 0 d cur) e fr) := by
  have hg : g < w.heap.size := (Array.getElem?_eq_some_iff.1 hb).1
  rw [Sort.heap_grow_old _ _ (by simpa using hg)]
  simp [Sort.putRow, Sort.mapBlock, Sort.ahead, Array.getElem?_modify, hb, Sort.onCells]
theorem grown_sorted {w : World} {g n : Nat} {os : Array Obj} (d : Array Value) : w.grownBy (Sort.grow (Sort.putRow id (Sort.ahead w n) g 0 d) os) (some g) := by
  refine ⟨rfl, rfl, rfl, by simp, fun k hk hne => ?_⟩
  rw [Sort.heap_grow_old _ _ (by simpa using hk)]
  have : g ≠ k := fun e => hne (by rw [e])
  simp [Sort.putRow, Sort.mapBlock, Sort.ahead, Array.getElem?_modify, this]
theorem take_cells (cur d : Array Value) (h : d.size ≤ cur.size) : (Sort.putCells id 0 d cur).toList.take d.size = d.toList := by
  apply List.ext_getElem?
  intro j
  by_cases hj : j < d.size
  · rw [List.getElem?_take_of_lt hj, Array.getElem?_toList]
    simp [Sort.putCells, hj, show j < cur.size by omega]
  · rw [List.getElem?_take_eq_none (by omega), List.getElem?_eq_none (by simp; omega)]

theorem row_sorted {w : World} {g cap base n : Nat} {os : Array Obj} {ss ts : List SC} (hl : ts.length = ss.length) (h : w.ownsRow base 41 8 (.slice (some ⟨g, 0, none⟩) ss.length cap) ss.length (ss.flatMap cellsC)) :
    (sortWorldK cellsC 8 w g 0 n ts.toArray os).ownsRow base 41 8 (.slice (some ⟨g, 0, none⟩) ss.length cap) ss.length (ts.flatMap cellsC) := by
  rcases h.2 with ⟨e1, _⟩ | ⟨g', cap', cur, e1, hbase, hb, h1, h2, h3, h4⟩
  · cases e1
  · cases e1
    refine ⟨by rw [length_flat, hl], .inr ⟨g, cap, _, rfl, hbase, block_sorted _ hb, h1, h2, by simp [Sort.putCells, h3], ?_⟩⟩
    have hs : (Sort.flatK cellsC 8 ts.toArray).size = ss.length * 8 := by simp [hl]
    have := take_cells cur (Sort.flatK cellsC 8 ts.toArray) (by rw [hs, h3]; exact Nat.mul_le_mul_right _ h1)
    rw [hs, flat_list] at this
    exact this

set_option maxHeartbeats 2000000 in
theorem sortC_any (g cap base : Nat) (ss : List SC) (w : World) (h : w.ownsRow base 41 8 (.slice (some ⟨g, 0, none⟩) ss.length cap) ss.length (ss.flatMap cellsC)) (hlen : ss.length ≤ 1000) :
    Calls Try.prog 66 #[.slice (some ⟨g, 0, none⟩) ss.length cap, .func (.func 47) #[] #[]] w fun e w' => e = .returned (.tuple #[]) ∧
      ∃ ts : List SC, ts.Perm ss ∧ (ts.Pairwise fun x y => ltOf cfC y x = false) ∧ w'.ownsRow base 41 8 (.slice (some ⟨g, 0, none⟩) ss.length cap) ss.length (ts.flatMap cellsC) ∧ w.grownBy w' (some g) := by
  have eg : ∀ args w, (callFunc 47 args).run Try.prog w = .ok (.enter 47 args) w := enters_of Try.func47 (by kernel_rfl) rfl
  have hcon := AnyQ.slices_SortFunc Try.sortC 8 Try.isAgg41 Try.sizeOf41 cellsC (fun _ => rfl) (fun x v hv => by
    obtain ⟨⟨xc, xu⟩, xa, xn, xp, hx⟩ := x
    simp only at hx
    subst hx
    simp [cellsC] at hv
    rcases hv with rfl | rfl | rfl | rfl | rfl | rfl | rfl | rfl <;> rfl) cfC swoC 47 #[] g 0 cap ss.toArray w eg (fun _ _ _ _ x y => compareCoins_any x y _) (holds_coins h) (h.lt g rfl).2 (by simp; omega)
  refine Calls.mono (show Calls Try.prog 66 #[.slice (some ⟨g, 0, none⟩) ss.length cap, .func (.func 47) #[] #[]] w _ from hcon) ?_
  rintro e w' ⟨rfl, d', n, os, hp, hs, rfl⟩
  have hsz : d'.size = ss.length := by simpa using hp.1
  have hd : d'.toList.toArray = d' := by simp
  refine ⟨rfl, d'.toList, ?_, ?_, ?_, ?_⟩
  · have h3 := hp.2.2
    simp only [List.size_toArray] at h3
    rw [← hsz, Array.extract_size] at h3
    rw [hsz] at h3
    simpa using h3
  · rw [List.pairwise_iff_getElem]
    intro i j hi hj hij
    have hi' : i < d'.size := by simpa using hi
    have hj' : j < d'.size := by simpa using hj
    have := hs i j (Nat.zero_le _) hij (by simpa [hsz] using hj')
    rw [getElem!_pos d' i hi', getElem!_pos d' j hj'] at this
    simpa using this
  · have := row_sorted (n := n) (os := os) (ts := d'.toList) (by simpa using hsz) h
    rwa [hd] at this
  · exact grown_sorted _

end Go.Proofs.Ytdfijlcjmllplaa

namespace Go.Proofs.Ytdfijlcjmllplaa
open Go.RowKit Go.Maps Go.WideMaps Go.Shelf

theorem sortAny (v : Value) (base : Nat) (ss : List SC) (w : World) (h : w.ownsRow base 41 8 v ss.length (ss.flatMap cellsC)) (hlen : ss.length ≤ 1000) :
    Calls Try.prog 66 #[v, .func (.func 47) #[] #[]] w fun e w' => e = .returned (.tuple #[]) ∧
      ∃ ts : List SC, ts.Perm ss ∧ (ts.Pairwise fun x y => ltOf cfC y x = false) ∧ w'.ownsRow base 41 8 v ss.length (ts.flatMap cellsC) ∧ w.grownBy w' v.ownBlock := by
  rcases id h.2 with ⟨rfl, h0⟩ | ⟨g, cap, cur, rfl, _⟩
  · have hn := AnyF.slices_SortFunc_none Try.sortC none 0 (.func (.func 47) #[] #[]) w
    refine Calls.mono (show Calls Try.prog 66 #[.slice none 0 0, .func (.func 47) #[] #[]] w _ from hn) ?_
    rintro e w' ⟨rfl, rfl⟩
    have hs : ss = [] := List.eq_nil_of_length_eq_zero h0
    subst hs
    exact ⟨rfl, [], List.Perm.refl _, List.Pairwise.nil, h, World.grownBy.refl _ _⟩
  · exact sortC_any g cap base ss w h hlen

theorem length_all {ps : List (Co × Value)} {ss : List SC} (h : AllC ps ss) : ss.length ≤ ps.length := by
  obtain ⟨h1, h2, _⟩ := h
  have h3 : (ss.map Subtype.val).Pairwise (fun x y => refOf x ≠ refOf y) := by rw [List.pairwise_map]; exact h2
  have h4 : ∀ x ∈ ss.map Subtype.val, x ∈ ps := fun x hx => by
    obtain ⟨y, hy, rfl⟩ := List.mem_map.1 hx
    exact h1 y hy
  have key : ∀ (l : List (Co × Value)) (ps : List (Co × Value)), l.Pairwise (fun x y => refOf x ≠ refOf y) → (∀ x ∈ l, x ∈ ps) → l.length ≤ ps.length := by
    intro l
    induction l with
    | nil => intro ps _ _; simp
    | cons a t ih =>
      intro ps hp hm
      rw [List.pairwise_cons] at hp
      obtain ⟨s1, s2, rfl⟩ := List.append_of_mem (hm a (by simp))
      have := ih (s1 ++ s2) hp.2 fun x hx => by
        have h5 := hm x (by simp [hx])
        have h6 : x ≠ a := fun e => hp.1 x hx (by rw [e])
        simp at h5 ⊢
        rcases h5 with h5 | h5 | h5
        · exact .inl h5
        · exact absurd h5 h6
        · exact .inr h5
      simp at this ⊢
      omega
  simpa using key _ ps h3 h4

set_option maxHeartbeats 1000000 in
theorem sortedFunc_any (Bm b lo : Nat) (ps : List (Co × Value)) (w : World) (hps : ps.length ≤ 1000) (hBm : Bm < w.heap.size) (hm : w.cell? ⟨Bm, 0, none⟩ = some (.map (some b))) (hP : Pu w lo b ps) :
    Calls Try.prog 45 #[.func (.func 67) #[] #[.pointer (some ⟨Bm, 0, none⟩)], .func (.func 47) #[] #[]] w fun e w' =>
      ∃ (v : Value) (ts : List SC), e = .returned v ∧ Hid (AllC ps ts ∧ (ts.Pairwise fun x y => ltOf cfC y x = false) ∧ w'.ownsRow w.heap.size 41 8 v ts.length (ts.flatMap cellsC) ∧ Below w.heap.size w w') := by
  have hc : Calls Try.prog 65 #[.func (.func 67) #[] #[.pointer (some ⟨Bm, 0, none⟩)]] w fun e w' => ∃ v, e = .returned v ∧ Hid (∃ ss : List SC, AllC ps ss ∧ w'.ownsRow w.heap.size 41 8 v ss.length (ss.flatMap cellsC) ∧ Below w.heap.size w w') :=
    (collectC Bm b lo ps w hps hBm hm hP).mono fun e w' ⟨v, ss, h1, h2, h3, _, h5⟩ => ⟨v, h1, ss, h2, h3, h5⟩
  have hs : ∀ v w1, Hid (∃ ss : List SC, AllC ps ss ∧ w1.ownsRow w.heap.size 41 8 v ss.length (ss.flatMap cellsC) ∧ Below w.heap.size w w1) → Calls Try.prog 66 #[v, .func (.func 47) #[] #[]] w1 fun e w' => e = .returned (.tuple #[]) ∧ Hid (∃ ts : List SC, AllC ps ts ∧ (ts.Pairwise fun x y => ltOf cfC y x = false) ∧ w'.ownsRow w.heap.size 41 8 v ts.length (ts.flatMap cellsC) ∧ Below w.heap.size w w') := fun v w1 h => by
    obtain ⟨ss, h1, h2, h3⟩ := h.out
    refine (sortAny v w.heap.size ss w1 h2 (Nat.le_trans (length_all h1) hps)).mono ?_
    rintro e w' ⟨rfl, ts, q1, q2, q3, q4⟩
    refine ⟨rfl, ts, ⟨fun x hx => h1.1 x (q1.mem_iff.1 hx), ?_, fun x hx => ?_⟩, q2, by rw [q1.length_eq]; exact q3, h3.grown q4 h3.size (fun k e => (h2.lt k e).1)⟩
    · exact (q1.pairwise_iff (fun {a b} (h : refOf a.1 ≠ refOf b.1) => h.symm)).2 h1.2.1
    · obtain ⟨y, hy, e⟩ := h1.2.2 x hx
      exact ⟨y, q1.mem_iff.2 hy, e⟩
  clear hP hm
  go_enter Try.func45, Try.ntmps45
  go_wp2_with (first
    | (go_at_call 65; (with_reducible refine hc.mono ?_); clear hc; rintro e w1 ⟨v, rfl, HS⟩; have hs' := hs v w1 HS; clear hs)
    | (go_at_call 66; (with_reducible refine hs'.mono ?_); clear hs'; rintro e w2 ⟨rfl, HT⟩))
  go_ret
  obtain ⟨ts, h1, h2, h3, h4⟩ := HT.out
  exact ⟨v, ts, rfl, h1, h2, h3, h4⟩

/-- Coins that rise are the same list where they are the same coins. -/
theorem rise_unique : ∀ (a b : List Co), a.Pairwise (fun x y => 0 < cmpR (y.p, y.q) (x.p, x.q)) → b.Pairwise (fun x y => 0 < cmpR (y.p, y.q) (x.p, x.q)) → (∀ c, c ∈ a ↔ c ∈ b) → a = b
  | [], [], _, _, _ => rfl
  | [], y :: b, _, _, h => by have := (h y).2 (by simp); cases this
  | x :: a, [], _, _, h => by have := (h x).1 (by simp); cases this
  | x :: a, y :: b, h1, h2, h => by
    rw [List.pairwise_cons] at h1 h2
    have e : x = y := by
      rcases List.mem_cons.1 ((h x).1 (by simp)) with e | hx
      · exact e
      · rcases List.mem_cons.1 ((h y).2 (by simp)) with e | hy
        · exact e.symm
        · have i1 := cmpR_pos.1 (h2.1 x hx)
          have i2 := cmpR_pos.1 (h1.1 y hy)
          omega
    subst e
    rw [rise_unique a b h1.2 h2.2 fun c => ?_]
    constructor
    · intro hc
      rcases List.mem_cons.1 ((h c).1 (by simp [hc])) with e | hx
      · subst e
        have := cmpR_pos.1 (h1.1 c hc)
        omega
      · exact hx
    · intro hc
      rcases List.mem_cons.1 ((h c).2 (by simp [hc])) with e | hx
      · subst e
        have := cmpR_pos.1 (h2.1 c hc)
        omega
      · exact hx

theorem pair_of {α : Type} {R : α → α → Prop} (hs : ∀ x y, R x y → R y x) : ∀ {l : List α}, l.Pairwise R → ∀ x ∈ l, ∀ y ∈ l, x ≠ y → R x y
  | a :: l, h, x, hx, y, hy, hne => by
    rw [List.pairwise_cons] at h
    rcases List.mem_cons.1 hx with e1 | h1 <;> rcases List.mem_cons.1 hy with e2 | h2
    · exact absurd (e1.trans e2.symm) hne
    · rw [e1]; exact h.1 y h2
    · rw [e2]; exact hs _ _ (h.1 x h1)
    · exact pair_of hs h.2 x h1 y h2 hne

theorem cells_flat (ts : List SC) {j : Nat} (hj : j < ts.length) : CellsC (ts.flatMap cellsC) j (ts[j]!).1.1 (ts[j]!).1.2 := by
  have g : ∀ i, i < 8 → (ts.flatMap cellsC)[j * 8 + i]? = (cellsC (ts[j]!))[i]? := fun i hi => by
    rw [get_flat ts (j * 8 + i) (by omega)]
    have h1 : (j * 8 + i) / 8 = j := by omega
    have h2 : (j * 8 + i) % 8 = i := by omega
    rw [h1, h2]
  exact ⟨g 0 (by omega), g 1 (by omega), g 2 (by omega), g 3 (by omega), g 4 (by omega), g 5 (by omega), g 6 (by omega), g 7 (by omega)⟩

/-- What the sorted row is: coins of their own. -/
theorem own_of_sorted {w w' : World} {lo B : Nat} {ps : List (Co × Value)} {cs : List Co} {v : Value} {ts : List SC} (hP : Pu w lo B ps) (hlo : lo ≤ w.heap.size) (hri : cs.Pairwise (fun x y => 0 < cmpR (y.p, y.q) (x.p, x.q))) (hmem : ∀ c, c ∈ cs ↔ c ∈ ps.map (·.1))
    (hA : AllC ps ts) (hs : ts.Pairwise fun x y => ltOf cfC y x = false) (hrow : w'.ownsRow w.heap.size 41 8 v ts.length (ts.flatMap cellsC)) (hb : Below w.heap.size w w') :
    ∃ kv, COwn w' lo w'.heap.size v cs.length (fun j => cs.getD j C0) kv := by
  have hts : ts.map (fun x => x.1.1) = cs := by
    refine rise_unique _ _ ?_ hri fun c => ?_
    · rw [List.pairwise_map]
      refine (List.pairwise_and_iff.2 ⟨hs, hA.2.1⟩).imp ?_
      rintro x y ⟨h1, h2⟩
      rw [ltC] at h1
      have h3 : ¬ (x.1.1.p = y.1.1.p ∧ x.1.1.q = y.1.1.q) := fun e => h2 (by unfold refOf; rw [e.1, e.2])
      simp at h1
      exact cmpR_pos.2 (by omega)
    · rw [hmem c]
      constructor
      · intro h
        obtain ⟨x, hx, rfl⟩ := List.mem_map.1 h
        exact List.mem_map.2 ⟨x.1, hA.1 x hx, rfl⟩
      · intro h
        obtain ⟨x, hx, rfl⟩ := List.mem_map.1 h
        obtain ⟨y, hy, rfl⟩ := hA.2.2 x hx
        exact List.mem_map.2 ⟨y, hy, rfl⟩
  have hlen : cs.length = ts.length := by rw [← hts]; simp
  have hf : ∀ j, j < ts.length → cs.getD j C0 = (ts[j]!).1.1 := fun j hj => by
    rw [← hts]
    simp [List.getD, hj]
  have hmm : ∀ j, j < ts.length → ts[j]! ∈ ts := fun j hj => by rw [getElem!_pos ts j hj]; exact List.getElem_mem _
  refine ⟨fun j => (ts[j]!).1.2, ⟨ts.flatMap cellsC, by rw [hlen]; exact Joins.ownsRow_le hrow hlo, fun j hj => ?_⟩, fun b hb2 => (hrow.lt b hb2).2, fun j hj => ?_, fun i j hij hj b hb1 => ?_⟩
  · rw [hlen] at hj
    rw [hf j hj]
    exact cells_flat ts hj
  · rw [hlen] at hj
    have h1 := hP.rows _ (hA.1 _ (hmm j hj))
    have h2 : w'.ownsRow lo 2 1 (ts[j]!).1.2 (ts[j]!).1.1.l.length (ints (ts[j]!).1.1.l) := h1.kept (grown_of_below hb) (by cases Value.ownBlock (ts[j]!).1.2 <;> simp)
    rw [hf j hj]
    exact ⟨h2, fun b hb2 => (h2.lt b hb2).2⟩
  · rw [hlen] at hj
    have hi : i < ts.length := by omega
    have hne : (ts[i]!).1 ≠ (ts[j]!).1 := fun e => by
      have := List.pairwise_iff_getElem.1 hA.2.1 i j hi hj hij
      rw [getElem!_pos ts i hi, getElem!_pos ts j hj] at e
      exact this (by rw [e])
    exact pair_of (R := fun x y : Co × Value => ∀ b, x.2.ownBlock = some b → y.2.ownBlock ≠ some b) (fun x y h b h1 h2 => h b h2 h1) hP.apart _ (hA.1 _ (hmm i hi)) _ (hA.1 _ (hmm j hj)) hne b hb1

set_option maxHeartbeats 1000000 in
theorem coins_any (B lo : Nat) (ps : List (Co × Value)) (cs : List Co) (w : World) (hP : Pu w lo B ps) (hlo : lo ≤ w.heap.size) (hps : ps.length ≤ 1000) (hri : cs.Pairwise (fun x y => 0 < cmpR (y.p, y.q) (x.p, x.q))) (hmem : ∀ c, c ∈ cs ↔ c ∈ ps.map (·.1)) :
    Calls Try.prog 24 #[.map (some B)] w fun e w' => ∃ v, e = .returned v ∧ Hid ((∃ kv, COwn w' lo w'.heap.size v cs.length (fun j => cs.getD j C0) kv) ∧ Below w.heap.size w w') := by
  have hv := values_any B w
  have hbx : Below w.heap.size w (w.alloc (.cells #[.map (some B)] 58)) := below_box _
  have hX := heap_alloc_new w (.cells #[.map (some B)] 58)
  have hc : (w.alloc (.cells #[.map (some B)] 58)).cell? ⟨w.heap.size, 0, none⟩ = some (.map (some B)) := by unfold World.cell?; rw [hX]; rfl
  have hs : Calls Try.prog 45 #[.func (.func 67) #[] #[.pointer (some ⟨w.heap.size, 0, none⟩)], .func (.func 47) #[] #[]] (w.alloc (.cells #[.map (some B)] 58)) fun e w' => ∃ v, e = .returned v ∧ Hid ((∃ kv, COwn w' lo w'.heap.size v cs.length (fun j => cs.getD j C0) kv) ∧ Below w.heap.size w w') :=
    (sortedFunc_any w.heap.size B lo ps (w.alloc (.cells #[.map (some B)] 58)) hps (by simp) hc (hP.below hbx)).mono fun e w' ⟨v, ts, h1, h2⟩ => by
      obtain ⟨q1, q2, q3, q4⟩ := h2.out
      exact ⟨v, h1, own_of_sorted (hP.below hbx) (Nat.le_trans hlo hbx.size) hri hmem q1 q2 q3 q4, hbx.trans (q4.mono hbx.size)⟩
  clear hP hri hmem hX hc hbx
  go_enter Try.func24, Try.ntmps24
  go_wp2_with (first
    | (go_at_call 46; (with_reducible refine hv.mono ?_); clear hv; rintro e w1 ⟨rfl, rfl⟩)
    | (go_at_call 45; (with_reducible refine hs.mono ?_); clear hs; rintro e w2 ⟨v, rfl, HS⟩))
  go_ret
  exact ⟨v, rfl, HS.out⟩

end Go.Proofs.Ytdfijlcjmllplaa

namespace Go.Proofs.Ytdfijlcjmllplaa
open Go.RowKit Go.Maps Go.WideMaps

theorem Pu.found {w : World} {lo B : Nat} {ps : List (Co × Value)} {p q : Int} {x : Co × Value} (h : Pu w lo B ps) (hf : findP ps (p, q) = some x) (hp : (Lit.int .i64 p).wf = true) (hq : (Lit.int .i64 q).wf = true) :
    ∃ ua uc, x.2 = .slice ua x.1.l.length uc ∧ (Instr.lookup 58 (.map (some B)) (.agg #[.int .i64 p, .int .i64 q]) true).run Try.prog w = .ok (.tuple #[.agg #[.int .i64 x.1.p, .int .i64 x.1.q, .int .i64 x.1.v, .slice ua x.1.l.length uc, .int .i64 x.1.x, .int .i64 x.1.y, .int .i64 x.1.h, .bool x.1.m], .bool true]) w := by
  have h1 := h.look (r := (p, q)) hp hq
  rw [hf] at h1
  obtain ⟨ua, uc, hu⟩ : ∃ ua uc, x.2 = .slice ua x.1.l.length uc := by
    have hrow := h.rows x (find_get hf).1
    rcases hrow.2 with ⟨e1, e2⟩ | ⟨g, cp, cur, e1, _⟩
    · exact ⟨none, 0, by rw [show x.2 = .slice none 0 0 from e1, show x.1.l.length = 0 from e2]⟩
    · exact ⟨some ⟨g, 0, none⟩, cp, e1⟩
  refine ⟨ua, uc, hu, ?_⟩
  rw [← hu]
  exact h1
theorem Pu.lacks {w : World} {lo B : Nat} {ps : List (Co × Value)} {p q : Int} (h : Pu w lo B ps) (hf : findP ps (p, q) = none) (hp : (Lit.int .i64 p).wf = true) (hq : (Lit.int .i64 q).wf = true) :
    (Instr.lookup 58 (.map (some B)) (.agg #[.int .i64 p, .int .i64 q]) true).run Try.prog w = .ok (.tuple #[.agg #[.int .i64 0, .int .i64 0, .int .i64 0, .slice none 0 0, .int .i64 0, .int .i64 0, .int .i64 0, .bool false], .bool false]) w := by
  have h1 := h.look (r := (p, q)) hp hq
  rw [hf] at h1
  exact h1

/-- A delete in a plain region, out of its own run. -/
theorem wpList_delete_run {P : Program} {w : World} {ops : Array Oper} {rest : List Oper} {o : Oper} {a : Act} {Q : Exit → Act → World → Prop} (hgd : o.guard = none) (s x : Operand) (t k : TypeId)
    (hop : o.op = .call { callee := .builtin .delete, args := #[s, x], argTypes := #[t, k] }) {v u v' : Value} {w' : World} (hs : a.eval s = v) (hx : a.eval x = u) (hrun : (Builtin.delete_ #[t, k] o.type #[v, u]).run P w = .ok v' w') (h : wpList P ops Q rest (a.put o.dst v') w') :
    wpList P ops Q (o :: rest) a w :=
  wpList_plain hgd fun _ hK => by
    unfold Oper.wp
    simp [execOp, hop, resolve, invoke, builtin, hs, hx, hrun, Result.andThen]
    exact hK _ _ h

set_option maxRecDepth 20000 in
set_option maxHeartbeats 2000000 in
theorem take_any (B lo : Nat) (p q : Int) (ps : List (Co × Value)) (x : Co × Value) (w : World) (hP : Pu w lo B ps) (hf : findP ps (p, q) = some x) (hp : (Lit.int .i64 p).wf = true) (hq : (Lit.int .i64 q).wf = true) :
    Calls Try.prog 31 #[.map (some B), .agg #[.int .i64 p, .int .i64 q]] w fun e w' => e = .returned (.bool true) ∧ Hid (Pu w' lo B (dropP ps (p, q))) ∧ Hid (Chg w w' B (B + 1)) := by
  have hbx : Below w.heap.size w (w.alloc (.cells #[.int .i64 p, .int .i64 q] 38)) := below_box _
  have hX := heap_alloc_new w (.cells #[.int .i64 p, .int .i64 q] 38)
  obtain ⟨s0, s1⟩ := cells2 hX
  have h1 := hP.below hbx
  obtain ⟨ua, uc, hu, hl⟩ := h1.found hf hp hq
  obtain ⟨u0, u1⟩ : ((w.alloc (.cells #[.int .i64 p, .int .i64 q] 38)).alloc (.cells #[.int .i64 x.1.p, .int .i64 x.1.q, .int .i64 x.1.v, .slice ua x.1.l.length uc, .int .i64 x.1.x, .int .i64 x.1.y, .int .i64 x.1.h, .bool x.1.m] 41)).cell? ⟨w.heap.size, 0, none⟩ = some (.int .i64 p) ∧ ((w.alloc (.cells #[.int .i64 p, .int .i64 q] 38)).alloc (.cells #[.int .i64 x.1.p, .int .i64 x.1.q, .int .i64 x.1.v, .slice ua x.1.l.length uc, .int .i64 x.1.x, .int .i64 x.1.y, .int .i64 x.1.h, .bool x.1.m] 41)).cell? ⟨w.heap.size, 1, none⟩ = some (.int .i64 q) := cells2 ((keepb hX (below_box _)).out)
  have hbx2 : Below w.heap.size w ((w.alloc (.cells #[.int .i64 p, .int .i64 q] 38)).alloc (.cells #[.int .i64 x.1.p, .int .i64 x.1.q, .int .i64 x.1.v, .slice ua x.1.l.length uc, .int .i64 x.1.x, .int .i64 x.1.y, .int .i64 x.1.h, .bool x.1.m] 41)) := below_box2 _ _
  have h2 := hP.below hbx2
  obtain ⟨w', hrun, hPu, hg⟩ := h2.drop hf hp hq 0
  have hrun' : ∀ ty, (Builtin.delete_ #[58, 38] ty #[.map (some B), .agg #[.int .i64 p, .int .i64 q]]).run Try.prog ((w.alloc (.cells #[.int .i64 p, .int .i64 q] 38)).alloc (.cells #[.int .i64 x.1.p, .int .i64 x.1.q, .int .i64 x.1.v, .slice ua x.1.l.length uc, .int .i64 x.1.x, .int .i64 x.1.y, .int .i64 x.1.h, .bool x.1.m] 41)) = .ok (.tuple #[]) w' := fun ty => hrun
  have HPU : Hid (Pu w' lo B (dropP ps (p, q))) := hPu
  have HCH : Hid (Chg w w' B (B + 1)) := (Chg.of_below hbx2 _ _).trans (Chg.of_grown hg.grown fun k e => by cases e; omega)
  clear hP h1 h2 hf hp hq hu hrun hPu hg hbx hbx2 hX
  go_enter Try.func31, Try.ntmps31
  go_wp2_with (first | (at_builtin; go_must (refine wpList_delete_run (by rfl) _ _ _ _ (by rfl) (by rfl) (by rfl) (hrun' _) ?_); clear hrun'))
  go_ret
  exact ⟨rfl, HPU.out, HCH.out⟩

set_option maxRecDepth 20000 in
set_option maxHeartbeats 2000000 in
theorem take_none (B lo : Nat) (p q : Int) (ps : List (Co × Value)) (w : World) (hP : Pu w lo B ps) (hf : findP ps (p, q) = none) (hp : (Lit.int .i64 p).wf = true) (hq : (Lit.int .i64 q).wf = true) :
    Calls Try.prog 31 #[.map (some B), .agg #[.int .i64 p, .int .i64 q]] w fun e w' => e = .returned (.bool false) ∧ Below w.heap.size w w' := by
  have hbx : Below w.heap.size w (w.alloc (.cells #[.int .i64 p, .int .i64 q] 38)) := below_box _
  obtain ⟨s0, s1⟩ := cells2 (heap_alloc_new w (.cells #[.int .i64 p, .int .i64 q] 38))
  have hl := (hP.below hbx).lacks hf hp hq
  have HB : Hid (Below w.heap.size w ((w.alloc (.cells #[.int .i64 p, .int .i64 q] 38)).alloc (.cells #[.int .i64 0, .int .i64 0, .int .i64 0, .slice none 0 0, .int .i64 0, .int .i64 0, .int .i64 0, .bool false] 41))) := below_box2 _ _
  clear hP hf hp hq hbx
  go_enter Try.func31, Try.ntmps31
  go_wp2
  go_ret
  exact ⟨rfl, HB.out⟩

/-- Coins without that of a ref; coins without those of some refs. -/
def dropC (cs : List Co) (r : Int × Int) : List Co := cs.filter fun c => decide ((c.p, c.q) ≠ r)
def hasC (cs : List Co) (r : Int × Int) : Bool := cs.any fun c => decide ((c.p, c.q) = r)
def goT : List Co → List (Int × Int) → Int × List Co
  | cs, [] => (0, cs)
  | cs, r :: rs => if hasC cs r = true then goT (dropC cs r) rs else (4, [])
def takeR (cs : List Co) (rs : List (Int × Int)) : Int × List Co := if coinsR cs ≠ 0 then (coinsR cs, []) else if 4 < rs.length then (2, []) else goT cs rs

theorem drop_map (ps : List (Co × Value)) (r : Int × Int) : (dropP ps r).map (·.1) = dropC (ps.map (·.1)) r := by
  unfold dropP dropC
  rw [List.filter_map]
  rfl
theorem has_map {ps : List (Co × Value)} {r : Int × Int} : hasC (ps.map (·.1)) r = (findP ps r).isSome := by
  unfold hasC findP
  induction ps with
  | nil => rfl
  | cons x t ih =>
    rw [List.map_cons, List.any_cons]
    by_cases e : refOf x = r
    · rw [List.find?_cons_of_pos (by simp [e]), decide_eq_true (show (x.1.p, x.1.q) = r from e)]; rfl
    · rw [List.find?_cons_of_neg (by simp [e]), decide_eq_false (show ¬ (x.1.p, x.1.q) = r from e), Bool.false_or]; exact ih
theorem rise_drop {cs : List Co} (r : Int × Int) (h : cs.Pairwise (fun x y => 0 < cmpR (y.p, y.q) (x.p, x.q))) : (dropC cs r).Pairwise (fun x y => 0 < cmpR (y.p, y.q) (x.p, x.q)) := h.filter _
theorem next_ref {rs : List (Int × Int)} {n j : Nat} {o : Int × Int} (hn : rs.length = n) (hlt : j < n) (ho : o = rs.getD j G0) : rs.drop j = o :: rs.drop (j + 1) := by
  rw [List.drop_eq_getElem_cons (by omega), ho]
  simp [List.getD, List.getElem?_eq_getElem (show j < rs.length by omega)]

end Go.Proofs.Ytdfijlcjmllplaa

namespace Go.Proofs.Ytdfijlcjmllplaa
open Go.RowKit Go.Maps Go.WideMaps

/-- A code alone, in the result's block. -/
theorem out_code {w W : World} {R : Nat} {cd : Int} (hR : w.heap.size ≤ R) (hb : Below w.heap.size w W) : OutCs w ((W.setCell ⟨R, 0, none⟩ (.int .i64 cd)).setCell ⟨R, 1, none⟩ (.slice none 0 0)) (.returned (.agg #[.int .i64 cd, .slice none 0 0])) cd [] :=
  ⟨_, _, rfl, COwn.zero _, (hb.setCell (p := ⟨R, 0, none⟩) hR _).setCell (p := ⟨R, 1, none⟩) hR _⟩
/-- Coins of their own, in the result's block. -/
theorem out_coins {w W : World} {R lo : Nat} {cs : List Co} {va : Option Addr} {vc : Nat} (hR : w.heap.size ≤ R) (hlo : R < lo) (hb : Below w.heap.size w W) (hO : ∃ kv, COwn W lo W.heap.size (.slice va cs.length vc) cs.length (fun j => cs.getD j C0) kv) :
    OutCs w ((W.setCell ⟨R, 0, none⟩ (.int .i64 0)).setCell ⟨R, 1, none⟩ (.slice va cs.length vc)) (.returned (.agg #[.int .i64 0, .slice va cs.length vc])) 0 cs := by
  obtain ⟨kv, hO⟩ := hO
  have nv : (Value.slice va cs.length vc).ownBlock ≠ some R := fun e => by
    obtain ⟨xs, h1, _⟩ := hO.row
    have := (h1.lt _ e).1
    omega
  have nk : ∀ j, j < cs.length → (kv j).ownBlock ≠ some R := fun j hj e => by have := ((hO.keys j hj).1.lt _ e).1; omega
  exact ⟨_, kv, rfl, ((hO.set2 nv nk 0 (.int .i64 0)).set2 nv nk 1 (.slice va cs.length vc)).lower (by omega) (by simp), (hb.setCell (p := ⟨R, 0, none⟩) hR _).setCell (p := ⟨R, 1, none⟩) hR _⟩
theorem own_slice3 {w : World} {lo hi n : Nat} {v : Value} {f : Nat → Co} (h : ∃ kv, COwn w lo hi v n f kv) : ∃ a c, v = .slice a n c := by
  obtain ⟨kv, h⟩ := h
  obtain ⟨xs, h1, _⟩ := h.row
  rcases h1.2 with ⟨rfl, rfl⟩ | ⟨g, cap, cur, rfl, _⟩
  · exact ⟨none, 0, rfl⟩
  · exact ⟨_, cap, rfl⟩

/-- What is left to take, in the midst. -/
structure Mid (wr : World) (lo B : Nat) (cs : List Co) (rs : List (Int × Int)) (j : Nat) (ps : List (Co × Value)) : Prop where
  pu : Pu wr lo B ps
  rise : (ps.map (·.1)).Pairwise (fun x y => 0 < cmpR (y.p, y.q) (x.p, x.q))
  goes : goT cs rs = goT (ps.map (·.1)) (rs.drop j)
  few : ps.length ≤ 40

set_option maxRecDepth 20000 in
set_option maxHeartbeats 4000000 in
theorem iTakeCoins_any (n c n2 c2 : Nat) (a a2 : Option Addr) (cs : List Co) (rs : List (Int × Int)) (w : World) (hn : n ≤ 1048576) (hk : ∀ j, j < n → (cs.getD j C0).l.length ≤ 1048576) (hn2 : n2 ≤ 1048576) (hw : ∀ j, j < n2 → (Lit.int .i64 (rs.getD j G0).1).wf = true ∧ (Lit.int .i64 (rs.getD j G0).2).wf = true) (hC : CAt w a n cs) (hG : GAt w a2 n2 rs) :
    Calls Try.prog 9 #[.slice a n c, .slice a2 n2 c2] w fun e w' => OutCs w w' e (takeR cs rs).1 (takeR cs rs).2 := by
  have hbx : Below w.heap.size w (w.alloc (.cells #[.int .i64 0, .slice none 0 0] 29)) := below_box _
  have hF := fillPurse_any n c a cs (w.alloc (.cells #[.int .i64 0, .slice none 0 0] 29)) hn hk (hC.below hbx (Nat.le_refl _))
  have HBX : Hid (Below w.heap.size w (w.alloc (.cells #[.int .i64 0, .slice none 0 0] 29))) := hbx
  have T1 : Hid ((w.alloc (.cells #[.int .i64 0, .slice none 0 0] 29)).heap[w.heap.size]? = some (.cells #[.int .i64 0, .slice none 0 0] 29 (0, 0))) := heap_alloc_new _ _
  have HSZ : Hid ((w.alloc (.cells #[.int .i64 0, .slice none 0 0] 29)).heap.size = w.heap.size + 1) := by show (w.alloc (.cells #[.int .i64 0, .slice none 0 0] 29)).heap.size = _; simp
  have HG : Hid (GAt w a2 n2 rs) := hG
  have HN : Hid (rs.length = n2) := hG.1
  have HW : Hid (∀ j, j < n2 → (Lit.int .i64 (rs.getD j G0).1).wf = true ∧ (Lit.int .i64 (rs.getD j G0).2).wf = true) := hw
  clear hbx hC hk hG hw
  by_cases h0 : coinsR cs = 0
  · have hF' : Calls Try.prog 22 #[.slice a n c] (w.alloc (.cells #[.int .i64 0, .slice none 0 0] 29)) fun e w' => Below (w.alloc (.cells #[.int .i64 0, .slice none 0 0] 29)).heap.size (w.alloc (.cells #[.int .i64 0, .slice none 0 0] 29)) w' ∧ ∃ B, e = .returned (.tuple #[.map (some B), .int .i64 0]) ∧ Hid (∃ ps, Pu w' (w.heap.size + 1) B ps ∧ ps.map (·.1) = cs) := hF.mono fun e w' h => by
      rcases h.2 with h1 | ⟨_, B, ps, h1, h2, h3⟩
      · exact absurd h0 h1.1
      · rw [HSZ.out] at h2
        exact ⟨h.1, B, h1, ps, h2, h3⟩
    clear hF
    by_cases h4 : 4 < n2
    · have hr : takeR cs rs = (2, []) := by unfold takeR; rw [if_neg (by simp [h0]), if_pos (by rw [HN.out]; exact h4)]
      rw [hr]
      have h4i : (4 : Int) < (n2 : Int) := by omega
      clear hr h0 h4
      go_enter Try.func9, Try.ntmps9
      go_wp2_with (first
        | (go_at_call 22; (with_reducible refine hF'.mono ?_); clear hF'; rintro e w2 ⟨hb2, B, rfl, HPU⟩; have HT1 := keepb T1.out hb2; have HB2 : Hid (Below w.heap.size w w2) := HBX.out.trans (hb2.mono HBX.out.size); obtain ⟨y0, y1⟩ := cells2 HT1.out; have f0 := Joins.unfrozen_of_block HT1.out 0; have f1 := Joins.unfrozen_of_block HT1.out 1; have HW2 : Hid (Below (w.alloc (.cells #[.int .i64 0, .slice none 0 0] 29)).heap.size (w.alloc (.cells #[.int .i64 0, .slice none 0 0] 29)) w2) := hb2; have hsz2 := hb2.size; clear hb2))
      obtain ⟨_, j1⟩ := two_set HT1.out (.int .i64 2) (.slice none 0 0)
      exact bodyPost_ret (v := .agg #[.int .i64 2, .slice none 0 0]) (by simp [results, Try.results9, go_sem, j1]) rfl (out_code (Nat.le_refl _) HB2.out)
    · have hr : takeR cs rs = goT cs rs := by unfold takeR; rw [if_neg (by simp [h0]), if_neg (by rw [HN.out]; exact h4)]
      rw [hr]
      obtain ⟨h40, _, hri⟩ := coins_rise h0
      have HRI : Hid (cs.length ≤ 40 ∧ cs.Pairwise (fun a b => 0 < cmpR (b.p, b.q) (a.p, a.q))) := ⟨h40, hri⟩
      have h4i : ¬ (4 : Int) < (n2 : Int) := by omega
      clear hr h0 h40 hri
      go_enter Try.func9, Try.ntmps9
      go_wp2_with (first
        | (go_at_call 22; (with_reducible refine hF'.mono ?_); clear hF'; rintro e w2 ⟨hb2, B, rfl, HPU⟩; have HT1 := keepb T1.out hb2; have HB2 : Hid (Below w.heap.size w w2) := HBX.out.trans (hb2.mono HBX.out.size); obtain ⟨y0, y1⟩ := cells2 HT1.out; have f0 := Joins.unfrozen_of_block HT1.out 0; have f1 := Joins.unfrozen_of_block HT1.out 1; have HW2 : Hid (Below (w.alloc (.cells #[.int .i64 0, .slice none 0 0] 29)).heap.size (w.alloc (.cells #[.int .i64 0, .slice none 0 0] 29)) w2) := hb2; have hsz2 := hb2.size; clear hb2))
      go_loopw [24] (fun i wr => ∃ j : Nat, j ≤ n2 ∧ i = .int .i64 j ∧ Below (w.alloc (.cells #[.int .i64 0, .slice none 0 0] 29)).heap.size (w.alloc (.cells #[.int .i64 0, .slice none 0 0] 29)) wr ∧ Hid (∃ ps, Mid wr (w.heap.size + 1) B cs rs j ps)) (fun i _ => n2 - (intOf i).toNat)
      case atStart =>
        obtain ⟨ps, h1, h2⟩ := HPU.out
        exact ⟨0, Nat.zero_le _, rfl, HW2.out, ps, h1, by rw [h2]; exact HRI.out.2, by rw [h2]; rfl, by have := HRI.out.1; rw [← h2] at this; simpa using this⟩
      case round =>
        obtain ⟨j, hj, rfl, hbel, HM⟩ := hrel
        have HBW : Hid (Below w.heap.size w wr) := HBX.out.trans (hbel.mono HBX.out.size)
        have HTR := keepb T1.out hbel
        clear y0 y1 f0 f1
        by_cases hlt : j < n2
        · rcases HG.out.2 with h0 | ⟨b, off, e0, l0, d0⟩
          · omega
          subst e0
          obtain ⟨r, hr⟩ : ∃ r, r = rs.getD j G0 := ⟨_, rfl⟩
          obtain ⟨x0, x1⟩ := d0 j hlt
          rw [← hr] at x0 x1
          have z0 := (HBW.out.cell (p := ⟨b, off + j * 2, none⟩) l0).trans x0
          have z1 := (HBW.out.cell (p := ⟨b, off + j * 2 + 1, none⟩) l0).trans x1
          have hww := HW.out j hlt
          rw [← hr] at hww
          have HNX : Hid (rs.drop j = r :: rs.drop (j + 1)) := next_ref HN.out hlt hr
          obtain ⟨rp, rq⟩ := r
          simp only at z0 z1 hww
          obtain ⟨ps, hM⟩ := HM.out
          have hbx3 : Below wr.heap.size wr (wr.alloc (.cells #[.int .i64 rp, .int .i64 rq] 38)) := below_box _
          have hP3 := hM.pu.below hbx3
          have HB3 : Hid (Below w.heap.size w (wr.alloc (.cells #[.int .i64 rp, .int .i64 rq] 38))) := HBW.out.trans (hbx3.mono HBW.out.size)
          have HW3 : Hid (Below (w.alloc (.cells #[.int .i64 0, .slice none 0 0] 29)).heap.size (w.alloc (.cells #[.int .i64 0, .slice none 0 0] 29)) (wr.alloc (.cells #[.int .i64 rp, .int .i64 rq] 38))) := hbel.trans (hbx3.mono hbel.size)
          have hBl := hM.pu.base
          have hPl := hM.pu.lt
          have hki : (j : Int) < (n2 : Int) := by omega
          have HM' : Hid (Mid wr (w.heap.size + 1) B cs rs j ps) := hM
          clear hM x0 x1 d0 hr HM
          cases hf : findP ps (rp, rq) with
          | none =>
            have ht := take_none B (w.heap.size + 1) rp rq ps _ hP3 hf hww.1 hww.2
            have HGO : Hid (goT cs rs = (4, [])) := by
              show goT cs rs = _
              rw [HM'.out.goes, HNX.out]
              unfold goT
              rw [if_neg (by rw [has_map, hf]; simp)]
            clear hf hP3 hww hbx3
            go_wp2_with (first
              | (go_at_call 31; (with_reducible refine ht.mono ?_); clear ht; rintro e w4 ⟨rfl, hb4⟩; have HB4 : Hid (Below w.heap.size w w4) := HB3.out.trans (hb4.mono HB3.out.size); have HT4 := keepb (keepb HTR.out (below_box (.cells #[.int .i64 rp, .int .i64 rq] 38))).out hb4; obtain ⟨y0, y1⟩ := cells2 HT4.out; have f0 := Joins.unfrozen_of_block HT4.out 0; have f1 := Joins.unfrozen_of_block HT4.out 1; clear hb4))
            obtain ⟨_, j1⟩ := two_set HT4.out (.int .i64 4) (.slice none 0 0)
            exact bodyPost_ret (v := .agg #[.int .i64 4, .slice none 0 0]) (by simp [results, Try.results9, go_sem, j1]) rfl (by show OutCs _ _ _ _ _; rw [HGO.out]; exact out_code (Nat.le_refl _) HB4.out)
          | some x =>
            have ht := take_any B (w.heap.size + 1) rp rq ps x _ hP3 hf hww.1 hww.2
            have HGO : Hid (goT cs rs = goT ((dropP ps (rp, rq)).map (·.1)) (rs.drop (j + 1))) := by
              show goT cs rs = _
              rw [HM'.out.goes, HNX.out, drop_map]
              show (if hasC (ps.map (·.1)) (rp, rq) = true then _ else _) = _
              rw [if_pos (by rw [has_map, hf]; rfl)]
            have HLE : Hid ((dropP ps (rp, rq)).length ≤ 40) := Nat.le_trans (List.length_filter_le _ _) HM'.out.few
            clear hf hP3 hww hbx3
            go_wp2_with (first
              | (go_at_call 31; (with_reducible refine ht.mono ?_); clear ht; rintro e w4 ⟨rfl, HPU4, HCH4⟩))
            go_roundw
            case rel => exact ⟨j + 1, by omega, by go_num, HW3.out.trans (HCH4.out.below (by simp; omega) HW3.out.size), _, HPU4.out, by rw [drop_map]; exact rise_drop _ HM'.out.rise, HGO.out, HLE.out⟩
            case measure => simp [intOf]; omega
        · obtain ⟨ps, hM⟩ := HM.out
          have hjn : j = n2 := by omega
          have hgo : goT cs rs = (0, ps.map (·.1)) := by rw [hM.goes, List.drop_of_length_le (by rw [HN.out]; omega)]; rfl
          have hco := coins_any B (w.heap.size + 1) ps (ps.map (·.1)) wr hM.pu (by have := hM.pu.base; have := hM.pu.lt; omega) (by have := hM.few; omega) hM.rise (fun c => Iff.rfl)
          obtain ⟨qs, hqs⟩ : ∃ qs, qs = ps.map (·.1) := ⟨_, rfl⟩
          rw [← hqs] at hco hgo
          have HGO : Hid (goT cs rs = (0, qs)) := hgo
          clear hM hgo HM hqs
          go_wp2_with (first
            | (go_at_call 24; (with_reducible refine hco.mono ?_); clear hco; rintro e w5 ⟨v, rfl, HS⟩; obtain ⟨va, vc, hv⟩ := own_slice3 HS.out.1; subst hv; have HT5 := keepb HTR.out HS.out.2; obtain ⟨y0, y1⟩ := cells2 HT5.out; have f0 := Joins.unfrozen_of_block HT5.out 0; have f1 := Joins.unfrozen_of_block HT5.out 1))
          obtain ⟨_, j1⟩ := two_set HT5.out (.int .i64 0) (.slice va qs.length vc)
          exact bodyPost_ret (v := .agg #[.int .i64 0, .slice va qs.length vc]) (by simp [results, Try.results9, go_sem, j1]) rfl (by show OutCs _ _ _ _ _; rw [HGO.out]; exact out_coins (lo := w.heap.size + 1) (Nat.le_refl _) (by omega) (HBW.out.trans (HS.out.2.mono HBW.out.size)) HS.out.1)
  · have hr : takeR cs rs = (coinsR cs, []) := by unfold takeR; rw [if_pos h0]
    rw [hr]
    obtain ⟨cd, hcd⟩ : ∃ r, r = coinsR cs := ⟨_, rfl⟩
    have hF' : Calls Try.prog 22 #[.slice a n c] (w.alloc (.cells #[.int .i64 0, .slice none 0 0] 29)) fun e w' => Below (w.alloc (.cells #[.int .i64 0, .slice none 0 0] 29)).heap.size (w.alloc (.cells #[.int .i64 0, .slice none 0 0] 29)) w' ∧ e = .returned (.tuple #[.map none, .int .i64 cd]) := hF.mono fun e w' h => by
      rcases h.2 with h1 | h1
      · rw [hcd]; exact ⟨h.1, h1.2⟩
      · exact absurd h1.1 h0
    rw [← hcd] at h0 ⊢
    clear hF hcd hr
    go_enter Try.func9, Try.ntmps9
    go_wp2_with (first
      | (go_at_call 22; (with_reducible refine hF'.mono ?_); clear hF'; rintro e w2 ⟨hb2, rfl⟩; have HT1 := keepb T1.out hb2; have HB2 : Hid (Below w.heap.size w w2) := HBX.out.trans (hb2.mono HBX.out.size); obtain ⟨y0, y1⟩ := cells2 HT1.out; have f0 := Joins.unfrozen_of_block HT1.out 0; have f1 := Joins.unfrozen_of_block HT1.out 1; have HW2 : Hid (Below (w.alloc (.cells #[.int .i64 0, .slice none 0 0] 29)).heap.size (w.alloc (.cells #[.int .i64 0, .slice none 0 0] 29)) w2) := hb2; have hsz2 := hb2.size; clear hb2))
    obtain ⟨_, j1⟩ := two_set HT1.out (.int .i64 cd) (.slice none 0 0)
    exact bodyPost_ret (v := .agg #[.int .i64 cd, .slice none 0 0]) (by simp [results, Try.results9, go_sem, j1]) rfl (out_code (Nat.le_refl _) HB2.out)

end Go.Proofs.Ytdfijlcjmllplaa

namespace Go.Proofs.Ytdfijlcjmllplaa
open Go.RowKit Go.Maps Go.WideMaps

/-- A coin put into its place; coins put, one after another. -/
def addC : List Co → Co → List Co
  | [], x => [x]
  | a :: l, x => if cmpR (a.p, a.q) (x.p, x.q) < 0 then a :: addC l x else x :: a :: l
def addCs (cs xs : List Co) : List Co := xs.foldl addC cs
theorem addC_mem {x : Co} : ∀ {cs : List Co} {c : Co}, c ∈ addC cs x ↔ c = x ∨ c ∈ cs
  | [], c => by simp [addC]
  | a :: l, c => by
    unfold addC
    by_cases e : cmpR (a.p, a.q) (x.p, x.q) < 0
    · rw [if_pos e, List.mem_cons, addC_mem, List.mem_cons]
      constructor <;> (rintro (h | h | h) <;> simp [h])
    · rw [if_neg e, List.mem_cons]
theorem addC_rise {x : Co} : ∀ {cs : List Co}, cs.Pairwise (fun x y => 0 < cmpR (y.p, y.q) (x.p, x.q)) → (∀ c ∈ cs, ¬ (c.p = x.p ∧ c.q = x.q)) → (addC cs x).Pairwise (fun x y => 0 < cmpR (y.p, y.q) (x.p, x.q))
  | [], _, _ => List.pairwise_singleton _ _
  | a :: l, h, hn => by
    rw [List.pairwise_cons] at h
    unfold addC
    by_cases e : cmpR (a.p, a.q) (x.p, x.q) < 0
    · rw [if_pos e, List.pairwise_cons]
      refine ⟨fun y hy => ?_, addC_rise h.2 fun c hc => hn c (by simp [hc])⟩
      rcases addC_mem.1 hy with rfl | hy
      · have := cmpR_neg.1 e
        exact cmpR_pos.2 (by omega)
      · exact h.1 y hy
    · rw [if_neg e, List.pairwise_cons]
      have h1 : ¬ (a.p < x.p ∨ (a.p = x.p ∧ a.q < x.q)) := fun q => e (cmpR_neg.2 q)
      have h2 := hn a (by simp)
      refine ⟨fun y hy => ?_, List.pairwise_cons.2 h⟩
      rcases List.mem_cons.1 hy with rfl | hy
      · exact cmpR_pos.2 (by omega)
      · have := cmpR_pos.1 (h.1 y hy)
        exact cmpR_pos.2 (by omega)
theorem addCs_mem : ∀ {xs cs : List Co} {c : Co}, c ∈ addCs cs xs ↔ c ∈ cs ++ xs
  | [], cs, c => by simp [addCs]
  | x :: xs, cs, c => by
    show c ∈ addCs (addC cs x) xs ↔ _
    rw [addCs_mem, List.mem_append, addC_mem, List.mem_append, List.mem_cons]
    constructor
    · rintro ((h | h) | h) <;> simp [h]
    · rintro (h | h | h) <;> simp [h]
theorem addCs_rise : ∀ {xs cs : List Co}, cs.Pairwise (fun x y => 0 < cmpR (y.p, y.q) (x.p, x.q)) → (cs ++ xs).Pairwise (fun x y => ¬ (x.p = y.p ∧ x.q = y.q)) → (addCs cs xs).Pairwise (fun x y => 0 < cmpR (y.p, y.q) (x.p, x.q))
  | [], cs, h, _ => h
  | x :: xs, cs, h, hn => by
    show (addCs (addC cs x) xs).Pairwise _
    rw [List.pairwise_append, List.pairwise_cons] at hn
    refine addCs_rise (addC_rise h fun c hc => hn.2.2 c hc x (by simp)) ?_
    rw [List.pairwise_append]
    refine ⟨?_, hn.2.1.2, fun a ha b hb => ?_⟩
    · exact (addC_rise h fun c hc => hn.2.2 c hc x (by simp)).imp fun {a b} q => by have := cmpR_pos.1 q; omega
    · rcases addC_mem.1 ha with rfl | ha
      · exact hn.2.1.1 b hb
      · exact hn.2.2 a ha b (by simp [hb])

def hasT (cs : List Co) (t : Int) : Bool := cs.any fun c => decide (c.p = t)
theorem hasT_map (ps : List (Co × Value)) (t : Int) : hasT (ps.map (·.1)) t = txIn ps t := by
  unfold hasT txIn
  rw [List.any_map]
  rfl
def putR (cs : List Co) (t : Int) (os : List Ou) (h : Int) (m : Bool) : Int × List Co :=
  if coinsR cs ≠ 0 then (coinsR cs, []) else if putsR cs.length (hasT cs t) t os h ≠ 0 then (putsR cs.length (hasT cs t) t os h, []) else (0, addCs cs (newCs t h m os os.length))
theorem new_apart {cs : List Co} {t h : Int} {m : Bool} {os : List Ou} (hri : cs.Pairwise (fun x y => 0 < cmpR (y.p, y.q) (x.p, x.q))) (hno : hasT cs t = false) : (cs ++ newCs t h m os os.length).Pairwise (fun x y => ¬ (x.p = y.p ∧ x.q = y.q)) := by
  rw [List.pairwise_append]
  refine ⟨hri.imp fun {a b} q => by have := cmpR_pos.1 q; omega, ?_, fun a ha b hb => ?_⟩
  · unfold newCs
    rw [List.pairwise_map]
    refine List.pairwise_lt_range.imp ?_
    intro i j hij e
    have : (i : Int) = (j : Int) := e.2
    omega
  · unfold newCs at hb
    obtain ⟨j, _, rfl⟩ := List.mem_map.1 hb
    unfold hasT at hno
    rw [List.any_eq_false] at hno
    have := hno a ha
    intro e
    have e1 : a.p = t := e.1
    exact absurd e1 (by simpa using this)
theorem puts_taken {n : Nat} {ti : Bool} {t h : Int} {os : List Ou} (e : putsR n ti t os h = 0) : ti = false ∧ n + os.length ≤ 40 := by
  unfold putsR at e
  by_cases h1 : putFR t os h ≠ 0
  · rw [if_pos h1] at e; exact absurd e h1
  · rw [if_neg h1] at e
    by_cases h2 : ti = true
    · rw [if_pos h2] at e; cases e
    · rw [if_neg h2] at e
      by_cases h3 : 40 < n + os.length
      · rw [if_pos h3] at e; cases e
      · exact ⟨by simpa using h2, by omega⟩

set_option maxRecDepth 20000 in
set_option maxHeartbeats 4000000 in
theorem iPutCoins_any (n c n2 c2 : Nat) (a a2 : Option Addr) (cs : List Co) (t h : Int) (m : Bool) (os : List Ou) (w : World) (hn : n ≤ 1048576) (hk : ∀ j, j < n → (cs.getD j C0).l.length ≤ 1048576) (hn2 : n2 ≤ 1048576) (hk2 : ∀ j, j < n2 → (os.getD j O0).l.length ≤ 1048576) (hC : CAt w a n cs) (hO : OAt w a2 n2 os) :
    Calls Try.prog 6 #[.slice a n c, .int .i64 t, .slice a2 n2 c2, .int .i64 h, .bool m] w fun e w' => OutCs w w' e (putR cs t os h m).1 (putR cs t os h m).2 := by
  have hbx : Below w.heap.size w (w.alloc (.cells #[.int .i64 0, .slice none 0 0] 29)) := below_box _
  have hF := fillPurse_any n c a cs (w.alloc (.cells #[.int .i64 0, .slice none 0 0] 29)) hn hk (hC.below hbx (Nat.le_refl _))
  have HBX : Hid (Below w.heap.size w (w.alloc (.cells #[.int .i64 0, .slice none 0 0] 29))) := hbx
  have T1 : Hid ((w.alloc (.cells #[.int .i64 0, .slice none 0 0] 29)).heap[w.heap.size]? = some (.cells #[.int .i64 0, .slice none 0 0] 29 (0, 0))) := heap_alloc_new _ _
  have HSZ : Hid ((w.alloc (.cells #[.int .i64 0, .slice none 0 0] 29)).heap.size = w.heap.size + 1) := by show (w.alloc (.cells #[.int .i64 0, .slice none 0 0] 29)).heap.size = _; simp
  have HO : Hid (OAt w a2 n2 os ∧ ∀ j, j < n2 → (os.getD j O0).l.length ≤ 1048576) := ⟨hO, hk2⟩
  have HCL : Hid (cs.length = n) := hC.1
  clear hbx hC hk hO hk2
  by_cases h0 : coinsR cs = 0
  · have hF' : Calls Try.prog 22 #[.slice a n c] (w.alloc (.cells #[.int .i64 0, .slice none 0 0] 29)) fun e w' => Below (w.alloc (.cells #[.int .i64 0, .slice none 0 0] 29)).heap.size (w.alloc (.cells #[.int .i64 0, .slice none 0 0] 29)) w' ∧ ∃ B, e = .returned (.tuple #[.map (some B), .int .i64 0]) ∧ Hid (∃ ps, Pu w' (w.heap.size + 1) B ps ∧ ps.map (·.1) = cs) := hF.mono fun e w' h => by
      rcases h.2 with h1 | ⟨_, B, ps, h1, h2, h3⟩
      · exact absurd h0 h1.1
      · rw [HSZ.out] at h2
        exact ⟨h.1, B, h1, ps, h2, h3⟩
    clear hF
    obtain ⟨h40, _, hri⟩ := coins_rise h0
    have HRI : Hid (cs.length ≤ 40 ∧ cs.Pairwise (fun a b => 0 < cmpR (b.p, b.q) (a.p, a.q))) := ⟨h40, hri⟩
    obtain ⟨pc, hpc⟩ : ∃ p, p = putsR cs.length (hasT cs t) t os h := ⟨_, rfl⟩
    have HPC : Hid (putsR cs.length (hasT cs t) t os h = pc) := hpc.symm
    have HPO : Hid (∀ B w2, Below w.heap.size w w2 → w.heap.size + 1 ≤ (World.heap w2).size → (∃ ps, Pu w2 (w.heap.size + 1) B ps ∧ ps.map (·.1) = cs) → Calls Try.prog 23 #[.map (some B), .int .i64 t, .slice a2 n2 c2, .int .i64 h, .bool m] w2 fun e w' => e = .returned (.int .i64 pc) ∧ Hid (Chg w2 w' B (B + 1) ∧ w.heap.size + 1 ≤ B) ∧ Hid (pc = 0 → ∃ ps', Pu w' (w.heap.size + 1) B ps' ∧ ps'.map (·.1) = cs ++ newCs t h m os os.length)) := fun B w2 hb hs ⟨ps, h1, h2⟩ => by
      have hl : ps.length = cs.length := by rw [← h2]; simp
      refine (putOuts_any B (w.heap.size + 1) t h m n2 c2 a2 os ps w2 h1 hs (by rw [hl]; exact HRI.out.1) hn2 HO.out.2 (HO.out.1.below hb (Nat.le_refl _))).mono fun e w' hq => ?_
      obtain ⟨q1, q2, q3, _⟩ := hq
      have e1 : putsR ps.length (txIn ps t) t os h = pc := by rw [hl, ← hasT_map, h2]; exact HPC.out
      rw [e1] at q1 q3
      exact ⟨q1, ⟨q2, h1.base⟩, fun e => by obtain ⟨ps', r1, r2⟩ := q3 e; exact ⟨ps', r1, by rw [r2, h2]⟩⟩
    clear h40 hri
    by_cases hp0 : pc = 0
    · have hr : putR cs t os h m = (0, addCs cs (newCs t h m os os.length)) := by unfold putR; rw [if_neg (by simp [h0]), ← hpc, if_neg (by simp [hp0])]
      subst hp0
      obtain ⟨hti, hle⟩ := puts_taken HPC.out
      obtain ⟨qs, hqs⟩ : ∃ q, q = addCs cs (newCs t h m os os.length) := ⟨_, rfl⟩
      rw [hr, ← hqs]
      have HCO : Hid (∀ B w3, (∃ ps', Pu w3 (w.heap.size + 1) B ps' ∧ ps'.map (·.1) = cs ++ newCs t h m os os.length) → Calls Try.prog 24 #[.map (some B)] w3 fun e w' => ∃ v, e = .returned v ∧ Hid ((∃ kv, COwn w' (w.heap.size + 1) w'.heap.size v qs.length (fun j => qs.getD j C0) kv) ∧ Below w3.heap.size w3 w')) := fun B w3 ⟨ps', h1, h2⟩ => by
        have hl : ps'.length = cs.length + os.length := by have := congrArg List.length h2; simpa [newCs] using this
        refine coins_any B (w.heap.size + 1) ps' qs w3 h1 (by have := h1.base; have := h1.lt; omega) (by omega) ?_ fun c => ?_
        · rw [hqs]; exact addCs_rise HRI.out.2 (new_apart HRI.out.2 hti)
        · rw [hqs, addCs_mem, h2]
      have HPQ : Hid (∀ B w2, Below w.heap.size w w2 → w.heap.size + 1 ≤ (World.heap w2).size → (∃ ps, Pu w2 (w.heap.size + 1) B ps ∧ ps.map (·.1) = cs) → Calls Try.prog 23 #[.map (some B), .int .i64 t, .slice a2 n2 c2, .int .i64 h, .bool m] w2 fun e w' => e = .returned (.int .i64 0) ∧ Hid (Chg w2 w' B (B + 1) ∧ w.heap.size + 1 ≤ B) ∧ Hid (∃ ps', Pu w' (w.heap.size + 1) B ps' ∧ ps'.map (·.1) = cs ++ newCs t h m os os.length)) := fun B w2 h1 h2 h3 => (HPO.out B w2 h1 h2 h3).mono fun e w' q => ⟨q.1, q.2.1, q.2.2.out rfl⟩
      clear hr h0 hpc hqs hti hle HPO
      go_enter Try.func6, Try.ntmps6
      go_wp2_with (first
        | (go_at_call 22; (with_reducible refine hF'.mono ?_); clear hF'; rintro e w2 ⟨hb2, B, rfl, HPU⟩; have HT1 := keepb T1.out hb2; have HB2 : Hid (Below w.heap.size w w2) := HBX.out.trans (hb2.mono HBX.out.size); obtain ⟨y0, y1⟩ := cells2 HT1.out; have f0 := Joins.unfrozen_of_block HT1.out 0; have f1 := Joins.unfrozen_of_block HT1.out 1; have HS2 : Hid (w.heap.size + 1 ≤ w2.heap.size) := (by have := hb2.size; rw [HSZ.out] at this; exact this); clear hb2; have hpo := HPQ.out B w2 HB2.out HS2.out HPU.out)
        | (go_at_call 23; (with_reducible refine hpo.mono ?_); clear hpo; rintro e w3 ⟨rfl, HCH, HPS⟩; have HT3 : Hid (w3.heap[w.heap.size]? = some (.cells #[.int .i64 0, .slice none 0 0] 29 (0, 0))) := HCH.out.1.keep HT1.out (.inl (by have := HCH.out.2; omega)); have HB3 : Hid (Below w.heap.size w w3) := HB2.out.trans (HCH.out.1.below (by have := HCH.out.2; omega) HB2.out.size); have hco := HCO.out B w3 HPS.out; clear y0 y1 f0 f1)
        | (go_at_call 24; (with_reducible refine hco.mono ?_); clear hco; rintro e w5 ⟨v, rfl, HS⟩; obtain ⟨va, vc, hv⟩ := own_slice3 HS.out.1; subst hv; have HT5 := keepb HT3.out HS.out.2; obtain ⟨y0, y1⟩ := cells2 HT5.out; have f0 := Joins.unfrozen_of_block HT5.out 0; have f1 := Joins.unfrozen_of_block HT5.out 1))
      obtain ⟨_, j1⟩ := two_set HT5.out (.int .i64 0) (.slice va qs.length vc)
      exact bodyPost_ret (v := .agg #[.int .i64 0, .slice va qs.length vc]) (by simp [results, Try.results6, go_sem, j1]) rfl (out_coins (lo := w.heap.size + 1) (Nat.le_refl _) (by omega) (HB3.out.trans (HS.out.2.mono HB3.out.size)) HS.out.1)
    · have hr : putR cs t os h m = (pc, []) := by unfold putR; rw [if_neg (by simp [h0]), ← hpc, if_pos hp0]
      rw [hr]
      clear hr h0 hpc
      go_enter Try.func6, Try.ntmps6
      go_wp2_with (first
        | (go_at_call 22; (with_reducible refine hF'.mono ?_); clear hF'; rintro e w2 ⟨hb2, B, rfl, HPU⟩; have HT1 := keepb T1.out hb2; have HB2 : Hid (Below w.heap.size w w2) := HBX.out.trans (hb2.mono HBX.out.size); obtain ⟨y0, y1⟩ := cells2 HT1.out; have f0 := Joins.unfrozen_of_block HT1.out 0; have f1 := Joins.unfrozen_of_block HT1.out 1; have HS2 : Hid (w.heap.size + 1 ≤ w2.heap.size) := (by have := hb2.size; rw [HSZ.out] at this; exact this); clear hb2; have hpo := HPO.out B w2 HB2.out HS2.out HPU.out)
        | (go_at_call 23; (with_reducible refine hpo.mono ?_); clear hpo; rintro e w3 ⟨rfl, HCH, _⟩; have HT3 : Hid (w3.heap[w.heap.size]? = some (.cells #[.int .i64 0, .slice none 0 0] 29 (0, 0))) := HCH.out.1.keep HT1.out (.inl (by have := HCH.out.2; omega)); have HB3 : Hid (Below w.heap.size w w3) := HB2.out.trans (HCH.out.1.below (by have := HCH.out.2; omega) HB2.out.size); clear y0 y1 f0 f1; obtain ⟨y0, y1⟩ := cells2 HT3.out; have f0 := Joins.unfrozen_of_block HT3.out 0; have f1 := Joins.unfrozen_of_block HT3.out 1))
      obtain ⟨_, j1⟩ := two_set HT3.out (.int .i64 pc) (.slice none 0 0)
      exact bodyPost_ret (v := .agg #[.int .i64 pc, .slice none 0 0]) (by simp [results, Try.results6, go_sem, j1]) rfl (out_code (Nat.le_refl _) HB3.out)
  · have hr : putR cs t os h m = (coinsR cs, []) := by unfold putR; rw [if_pos h0]
    rw [hr]
    obtain ⟨cd, hcd⟩ : ∃ r, r = coinsR cs := ⟨_, rfl⟩
    have hF' : Calls Try.prog 22 #[.slice a n c] (w.alloc (.cells #[.int .i64 0, .slice none 0 0] 29)) fun e w' => Below (w.alloc (.cells #[.int .i64 0, .slice none 0 0] 29)).heap.size (w.alloc (.cells #[.int .i64 0, .slice none 0 0] 29)) w' ∧ e = .returned (.tuple #[.map none, .int .i64 cd]) := hF.mono fun e w' h => by
      rcases h.2 with h1 | h1
      · rw [hcd]; exact ⟨h.1, h1.2⟩
      · exact absurd h1.1 h0
    rw [← hcd] at h0 ⊢
    clear hF hcd hr
    go_enter Try.func6, Try.ntmps6
    go_wp2_with (first
      | (go_at_call 22; (with_reducible refine hF'.mono ?_); clear hF'; rintro e w2 ⟨hb2, rfl⟩; have HT1 := keepb T1.out hb2; have HB2 : Hid (Below w.heap.size w w2) := HBX.out.trans (hb2.mono HBX.out.size); obtain ⟨y0, y1⟩ := cells2 HT1.out; have f0 := Joins.unfrozen_of_block HT1.out 0; have f1 := Joins.unfrozen_of_block HT1.out 1; have HS2 : Hid (w.heap.size + 1 ≤ w2.heap.size) := (by have := hb2.size; rw [HSZ.out] at this; exact this); clear hb2))
    obtain ⟨_, j1⟩ := two_set HT1.out (.int .i64 cd) (.slice none 0 0)
    exact bodyPost_ret (v := .agg #[.int .i64 cd, .slice none 0 0]) (by simp [results, Try.results6, go_sem, j1]) rfl (out_code (Nat.le_refl _) HB2.out)

end Go.Proofs.Ytdfijlcjmllplaa

namespace Go.Proofs.Ytdfijlcjmllplaa
open Go.RowKit Go.Maps Go.WideMaps

def sameR (l l' : List Int) (x x' y y' : Int) : Bool := decide (x = x') && (decide (y = y') && decide (l = l'))
theorem take_same {l l' : List Int} {n k : Nat} (hn : l.length = n) (hm : l'.length = n) (hlt : k < n) (h : l.take k = l'.take k) {s : Int} (hs : s = l.getD k 0) (ht : s = l'.getD k 0) : Hid (l.take (k + 1) = l'.take (k + 1)) := by
  show _ = _
  have e1 : l[k]? = some s := by rw [hs]; simp [List.getD, show k < l.length by omega]
  have e2 : l'[k]? = some s := by rw [ht]; simp [List.getD, show k < l'.length by omega]
  rw [List.take_add_one, List.take_add_one, h, e1, e2]
theorem not_same {l l' : List Int} {k : Nat} {s t : Int} (hs : s = l.getD k 0) (ht : t = l'.getD k 0) (h : ¬ s = t) : ¬ l = l' := by
  rintro rfl; exact h (hs.trans ht.symm)

set_option maxHeartbeats 400000 in
theorem sEqual_any (a b : Option Addr) (n m c1 c2 : Nat) (l l' : List Int) (w : World) (hl : n ≤ 1048576) (hl2 : m ≤ 1048576) (ha : IAt w a n l) (hb : IAt w b m l') :
    Calls Try.prog 81 #[.slice a n c1, .slice b m c2] w fun e w' => e = .returned (.bool (decide (l = l'))) ∧ Below w.heap.size w w' := by
  obtain ⟨r, hr⟩ : ∃ r, r = decide (l = l') := ⟨_, rfl⟩
  rw [← hr]
  have HR : Hid (r = decide (l = l')) := hr
  have HA : Hid (IAt w a n l) := ha
  have HB : Hid (IAt w b m l') := hb
  clear hr ha hb
  by_cases hnm : n = m
  · subst hnm
    go_enter Try.func81, Try.ntmps81
    go_wp2
    go_loopw [13] (fun i wr => ∃ k : Nat, k ≤ n ∧ i = .int .i64 k ∧ Below w.heap.size w wr ∧ Hid (l.take k = l'.take k)) (fun i _ => n - (intOf i).toNat)
    case atStart => exact ⟨0, Nat.zero_le _, rfl, Below.refl _ _, by show _ = _; simp⟩
    case round =>
      obtain ⟨k, hk, rfl, hbel, HT⟩ := hrel
      by_cases hlt : k < n
      · rcases HA.out.2 with h0 | ⟨b0, o0, e0, l0, d0⟩
        · omega
        subst e0
        rcases HB.out.2 with h0 | ⟨b1, o1, e1, l1, d1⟩
        · omega
        subst e1
        obtain ⟨s, hs⟩ : ∃ s, s = l.getD k 0 := ⟨_, rfl⟩
        obtain ⟨t, ht⟩ : ∃ t, t = l'.getD k 0 := ⟨_, rfl⟩
        have x0 := (hbel.cell (p := ⟨b0, o0 + k, none⟩) l0).trans (d0 k hlt)
        have x1 := (hbel.cell (p := ⟨b1, o1 + k, none⟩) l1).trans (d1 k hlt)
        rw [← hs] at x0
        rw [← ht] at x1
        have HS : Hid (s = l.getD k 0) := hs
        have HTT : Hid (t = l'.getD k 0) := ht
        clear hs ht d0 d1
        have hki : (k : Int) < (n : Int) := by omega
        by_cases hst : s = t
        · subst hst
          go_wp2
          go_quiet (fail)
          go_wp2
          go_roundw
          case rel => exact ⟨k + 1, by omega, by go_num, hbel.trans (Joins.below_draws _ _ _), take_same HA.out.1 HB.out.1 hlt HT.out HS.out HTT.out⟩
          case measure => simp [intOf]; omega
        · go_wp2
          go_quiet (fail)
          go_wp2
          go_ret
          obtain rfl : r = false := by rw [HR.out]; exact decide_eq_false (not_same HS.out HTT.out hst)
          exact ⟨rfl, hbel.trans (Joins.below_draws _ _ _)⟩
      · go_wp2
        go_ret
        have e := HT.out
        rw [List.take_of_length_le (by rw [HA.out.1]; omega), List.take_of_length_le (by rw [HB.out.1]; omega)] at e
        obtain rfl : r = true := by rw [HR.out]; exact decide_eq_true e
        exact ⟨rfl, hbel⟩
  · have hni : (n : Int) ≠ (m : Int) := by omega
    go_enter Try.func81, Try.ntmps81
    go_wp2
    go_ret
    obtain rfl : r = false := by rw [HR.out]; exact decide_eq_false (by rintro rfl; exact hnm (HA.out.1.symm.trans HB.out.1))
    exact ⟨rfl, Below.refl _ _⟩

end Go.Proofs.Ytdfijlcjmllplaa

namespace Go.Proofs.Ytdfijlcjmllplaa
open Go.RowKit Go.Maps Go.WideMaps

end Go.Proofs.Ytdfijlcjmllplaa

namespace Go.Proofs.Ytdfijlcjmllplaa
open Go.RowKit Go.Maps Go.WideMaps

set_option maxHeartbeats 400000 in
theorem iSameRules_any (a b : Option Addr) (n m c1 c2 : Nat) (l l' : List Int) (x x' y y' : Int) (w : World) (hl : n ≤ 1048576) (hl2 : m ≤ 1048576) (ha : IAt w a n l) (hb : IAt w b m l') :
    Calls Try.prog 75 #[.agg #[.slice a n c1, .int .i64 x, .int .i64 y], .agg #[.slice b m c2, .int .i64 x', .int .i64 y']] w fun e w' => e = .returned (.bool (sameR l l' x x' y y')) ∧ Below w.heap.size w w' := by
  have hbx : Below w.heap.size w ((w.alloc (.cells #[.slice a n c1, .int .i64 x, .int .i64 y] 34)).alloc (.cells #[.slice b m c2, .int .i64 x', .int .i64 y'] 34)) := below_box2 _ _
  have hS := sEqual_any a b n m c1 c2 l l' _ hl hl2 (ha.below hbx (Nat.le_refl _)) (hb.below hbx (Nat.le_refl _))
  have HBX : Hid (Below w.heap.size w ((w.alloc (.cells #[.slice a n c1, .int .i64 x, .int .i64 y] 34)).alloc (.cells #[.slice b m c2, .int .i64 x', .int .i64 y'] 34))) := hbx
  have T0 : Hid _ := block_at2 (w := w) (o := .cells #[.slice a n c1, .int .i64 x, .int .i64 y] 34) (o' := .cells #[.slice b m c2, .int .i64 x', .int .i64 y'] 34)
  have T1 : Hid _ := heap_alloc_at (w.alloc (.cells #[.slice a n c1, .int .i64 x, .int .i64 y] 34)) (.cells #[.slice b m c2, .int .i64 x', .int .i64 y'] 34) (w.heap.size + 1) (by simp)
  clear hbx ha hb
  obtain ⟨q, hq⟩ : ∃ q, q = decide (l = l') := ⟨_, rfl⟩
  have hr : sameR l l' x x' y y' = (decide (x = x') && (decide (y = y') && q)) := by rw [hq]; rfl
  rw [← hq] at hS
  rw [hr]
  clear hr hq
  cases q
  · have e0 : (decide (x = x') && (decide (y = y') && false)) = false := by simp
    rw [e0]
    clear e0
    go_enter Try.func75, Try.ntmps75
    go_wp2_with (go_at_call 81; refine hS.mono ?_; rintro e w2 ⟨rfl, hb2⟩; obtain ⟨⟨p0, p1, p2⟩, _, HP⟩ := res3 T0.out hb2 (by simp; omega); obtain ⟨⟨q0, q1, q2⟩, _, HQ⟩ := res3 T1.out hb2 (by simp))
    go_ret
    exact ⟨rfl, HBX.out.trans (hb2.mono (by simp; omega))⟩
  by_cases hx : x = x'
  · subst hx
    by_cases hy : y = y'
    · subst hy
      have e0 : (decide (x = x) && (decide (y = y) && true)) = true := by simp
      rw [e0]
      clear e0
      go_enter Try.func75, Try.ntmps75
      go_wp2_with (go_at_call 81; refine hS.mono ?_; rintro e w2 ⟨rfl, hb2⟩; obtain ⟨⟨p0, p1, p2⟩, _, HP⟩ := res3 T0.out hb2 (by simp; omega); obtain ⟨⟨q0, q1, q2⟩, _, HQ⟩ := res3 T1.out hb2 (by simp))
      go_ret
      exact ⟨rfl, HBX.out.trans (hb2.mono (by simp; omega))⟩
    · have e0 : (decide (x = x) && (decide (y = y') && true)) = false := by simp [hy]
      have hyb : (y == y') = false := by simpa using hy
      rw [e0]
      clear e0
      go_enter Try.func75, Try.ntmps75
      go_wp2_with (go_at_call 81; refine hS.mono ?_; rintro e w2 ⟨rfl, hb2⟩; obtain ⟨⟨p0, p1, p2⟩, _, HP⟩ := res3 T0.out hb2 (by simp; omega); obtain ⟨⟨q0, q1, q2⟩, _, HQ⟩ := res3 T1.out hb2 (by simp))
      all_goals go_ret
      all_goals exact ⟨by simp [*], HBX.out.trans (hb2.mono (by simp; omega))⟩
  · have e0 : (decide (x = x') && (decide (y = y') && true)) = false := by simp [hx]
    have hxb : (x == x') = false := by simpa using hx
    rw [e0]
    clear e0
    go_enter Try.func75, Try.ntmps75
    go_wp2_with (go_at_call 81; refine hS.mono ?_; rintro e w2 ⟨rfl, hb2⟩; obtain ⟨⟨p0, p1, p2⟩, _, HP⟩ := res3 T0.out hb2 (by simp; omega); obtain ⟨⟨q0, q1, q2⟩, _, HQ⟩ := res3 T1.out hb2 (by simp))
    all_goals go_ret
    all_goals exact ⟨by simp [*], HBX.out.trans (hb2.mono (by simp; omega))⟩

end Go.Proofs.Ytdfijlcjmllplaa

namespace Go.Proofs.Ytdfijlcjmllplaa
open Go.RowKit Go.Maps Go.WideMaps

def sameO (a b : Ou) : Bool := decide (a.v = b.v) && sameR a.l b.l a.x b.x a.y b.y
end Go.Proofs.Ytdfijlcjmllplaa

namespace Go.Proofs.Ytdfijlcjmllplaa
open Go.RowKit Go.Maps Go.WideMaps

end Go.Proofs.Ytdfijlcjmllplaa

namespace Go.Proofs.Ytdfijlcjmllplaa
open Go.RowKit Go.Maps Go.WideMaps

end Go.Proofs.Ytdfijlcjmllplaa

namespace Go.Proofs.Ytdfijlcjmllplaa
open Go.RowKit Go.Maps Go.WideMaps

end Go.Proofs.Ytdfijlcjmllplaa

namespace Go.Proofs.Ytdfijlcjmllplaa
open Go.RowKit Go.Maps Go.WideMaps

abbrev RiseC (cs : List Co) : Prop := cs.Pairwise (fun x y => 0 < cmpR (y.p, y.q) (x.p, x.q))
theorem memB_here {gs : List (Int × Int)} {x : Int × Int} : memB gs x = true ↔ x ∈ gs := by
  have := num_zero gs x
  unfold memB
  by_cases h : x ∈ gs
  · simp [h] at this; simp [h, this]
  · simp [h] at this; simp [h, this]
end Go.Proofs.Ytdfijlcjmllplaa

namespace Go.Proofs.Ytdfijlcjmllplaa
open Go.RowKit Go.Maps Go.WideMaps

/-- Behind the copy of a coin's keys. -/
theorem copy_mid {wr w2 : World} {lo j g gc : Nat} {v : Value} {f : Nat → Co} {kv : Nat → Value} {op oq ov : Int} {ol : List Int} {ox oy oh : Int} {om : Bool} {kb ko kc : Nat} (h : COwn wr lo wr.heap.size v j f kv) (hf : f j = (⟨op, oq, ov, ol, ox, oy, oh, om⟩ : Co)) (hj : j ≤ 1000) (hlo : lo ≤ wr.heap.size)
    (hb : Below (wr.alloc (.cells #[.int .i64 op, .int .i64 oq, .int .i64 ov, .slice (some ⟨kb, ko, none⟩) ol.length kc, .int .i64 ox, .int .i64 oy, .int .i64 oh, .bool om] 41)).heap.size (wr.alloc (.cells #[.int .i64 op, .int .i64 oq, .int .i64 ov, .slice (some ⟨kb, ko, none⟩) ol.length kc, .int .i64 ox, .int .i64 oy, .int .i64 oh, .bool om] 41)) w2) (hrow : w2.ownsRow ((wr.alloc (.cells #[.int .i64 op, .int .i64 oq, .int .i64 ov, .slice (some ⟨kb, ko, none⟩) ol.length kc, .int .i64 ox, .int .i64 oy, .int .i64 oh, .bool om] 41)).heap.size + 1 + 1) 2 1 (.slice (some ⟨g, 0, none⟩) ol.length gc) ol.length (ints ol)) :
    ∃ g5 cap w5, (Builtin.append_ #[24, 24] 24 #[v, .slice (some ⟨w2.heap.size, 0, none⟩) 1 1]).run Try.prog ((((w2.setCell ⟨wr.heap.size, 3, none⟩ (.slice (some ⟨g, 0, none⟩) ol.length gc)).setCell ⟨wr.heap.size, 4, none⟩ (.int .i64 ox)).setCell ⟨wr.heap.size, 5, none⟩ (.int .i64 oy)).alloc (.cells #[.int .i64 op, .int .i64 oq, .int .i64 ov, .slice (some ⟨g, 0, none⟩) ol.length gc, .int .i64 ox, .int .i64 oy, .int .i64 oh, .bool om] 41)) = .ok (.slice (some ⟨g5, 0, none⟩) (j + 1) cap) w5 ∧
      Hid ((∃ kv', COwn w5 lo w5.heap.size (.slice (some ⟨g5, 0, none⟩) (j + 1) cap) (j + 1) f kv') ∧ Below lo wr w5) := by
  have hsz : (wr.alloc (.cells #[.int .i64 op, .int .i64 oq, .int .i64 ov, .slice (some ⟨kb, ko, none⟩) ol.length kc, .int .i64 ox, .int .i64 oy, .int .i64 oh, .bool om] 41)).heap.size = wr.heap.size + 1 := by simp
  have hb1 : Below wr.heap.size wr w2 := (below_box _).trans (hb.mono (by omega))
  have h2 : COwn w2 lo wr.heap.size v j f kv := h.below hb1
  have nv : v.ownBlock ≠ some wr.heap.size := fun e => by have := h.top _ e; omega
  have nk : ∀ i, i < j → (kv i).ownBlock ≠ some wr.heap.size := fun i hi e => by have := (h.keys i hi).2 _ e; omega
  have h3 := ((h2.set2 nv nk 3 (.slice (some ⟨g, 0, none⟩) ol.length gc)).set2 nv nk 4 (.int .i64 ox)).set2 nv nk 5 (.int .i64 oy)
  have h4 : COwn ((((w2.setCell ⟨wr.heap.size, 3, none⟩ (.slice (some ⟨g, 0, none⟩) ol.length gc)).setCell ⟨wr.heap.size, 4, none⟩ (.int .i64 ox)).setCell ⟨wr.heap.size, 5, none⟩ (.int .i64 oy)).alloc (.cells #[.int .i64 op, .int .i64 oq, .int .i64 ov, .slice (some ⟨g, 0, none⟩) ol.length gc, .int .i64 ox, .int .i64 oy, .int .i64 oh, .bool om] 41)) lo wr.heap.size v j f kv := h3.below (below_box _)
  have hs2 : wr.heap.size ≤ w2.heap.size := hb1.size
  have hsz4 : ((((w2.setCell ⟨wr.heap.size, 3, none⟩ (.slice (some ⟨g, 0, none⟩) ol.length gc)).setCell ⟨wr.heap.size, 4, none⟩ (.int .i64 ox)).setCell ⟨wr.heap.size, 5, none⟩ (.int .i64 oy)).alloc (.cells #[.int .i64 op, .int .i64 oq, .int .i64 ov, .slice (some ⟨g, 0, none⟩) ol.length gc, .int .i64 ox, .int .i64 oy, .int .i64 oh, .bool om] 41)).heap.size = w2.heap.size + 1 := by simp
  have hX : ((((w2.setCell ⟨wr.heap.size, 3, none⟩ (.slice (some ⟨g, 0, none⟩) ol.length gc)).setCell ⟨wr.heap.size, 4, none⟩ (.int .i64 ox)).setCell ⟨wr.heap.size, 5, none⟩ (.int .i64 oy)).alloc (.cells #[.int .i64 op, .int .i64 oq, .int .i64 ov, .slice (some ⟨g, 0, none⟩) ol.length gc, .int .i64 ox, .int .i64 oy, .int .i64 oh, .bool om] 41)).heap[w2.heap.size]? = some (.cells #[.int .i64 op, .int .i64 oq, .int .i64 ov, .slice (some ⟨g, 0, none⟩) ol.length gc, .int .i64 ox, .int .i64 oy, .int .i64 oh, .bool om] 41 (0, 0)) := by
    have := heap_alloc_new (((w2.setCell ⟨wr.heap.size, 3, none⟩ (.slice (some ⟨g, 0, none⟩) ol.length gc)).setCell ⟨wr.heap.size, 4, none⟩ (.int .i64 ox)).setCell ⟨wr.heap.size, 5, none⟩ (.int .i64 oy)) (.cells #[.int .i64 op, .int .i64 oq, .int .i64 ov, .slice (some ⟨g, 0, none⟩) ol.length gc, .int .i64 ox, .int .i64 oy, .int .i64 oh, .bool om] 41)
    simpa using this
  have st : ∀ (W : World) (i : Nat) (z : Value), W.ownsRow (wr.heap.size + 1) 2 1 (.slice (some ⟨g, 0, none⟩) ol.length gc) ol.length (ints ol) → (W.setCell ⟨wr.heap.size, i, none⟩ z).ownsRow (wr.heap.size + 1) 2 1 (.slice (some ⟨g, 0, none⟩) ol.length gc) ol.length (ints ol) := fun W i z hW => ownsRow_setCell_below hW (a := ⟨wr.heap.size, i, none⟩) (show wr.heap.size < _ by omega) z
  have hr4 : ((((w2.setCell ⟨wr.heap.size, 3, none⟩ (.slice (some ⟨g, 0, none⟩) ol.length gc)).setCell ⟨wr.heap.size, 4, none⟩ (.int .i64 ox)).setCell ⟨wr.heap.size, 5, none⟩ (.int .i64 oy)).alloc (.cells #[.int .i64 op, .int .i64 oq, .int .i64 ov, .slice (some ⟨g, 0, none⟩) ol.length gc, .int .i64 ox, .int .i64 oy, .int .i64 oh, .bool om] 41)).ownsRow (wr.heap.size + 1) 2 1 (.slice (some ⟨g, 0, none⟩) ol.length gc) ol.length (ints ol) := (st _ _ _ (st _ _ _ (st _ _ _ (Joins.ownsRow_le hrow (by omega))))).alloc _
  have hgl := (hr4.lt g rfl).1
  obtain ⟨g5, cap, w5, hrun, HC⟩ := coin_added (o := (⟨op, oq, ov, ol, ox, oy, oh, om⟩ : Co)) (h4.mono (by omega)) hX rfl (Joins.ownsRow_le hr4 (by omega)) (fun i hi b hb e => by
    have h6 := (h.keys i hi).2 b hb
    have h7 : g = b := (by simpa [Value.ownBlock] using e)
    omega) hj (by omega) hf
  refine ⟨g5, cap, w5, hrun, ⟨_, HC.out.1⟩, ?_⟩
  have c1 : Below wr.heap.size wr ((((w2.setCell ⟨wr.heap.size, 3, none⟩ (.slice (some ⟨g, 0, none⟩) ol.length gc)).setCell ⟨wr.heap.size, 4, none⟩ (.int .i64 ox)).setCell ⟨wr.heap.size, 5, none⟩ (.int .i64 oy)).alloc (.cells #[.int .i64 op, .int .i64 oq, .int .i64 ov, .slice (some ⟨g, 0, none⟩) ol.length gc, .int .i64 ox, .int .i64 oy, .int .i64 oh, .bool om] 41)) := (((hb1.setCell (p := ⟨wr.heap.size, 3, none⟩) (Nat.le_refl _) _).setCell (p := ⟨wr.heap.size, 4, none⟩) (Nat.le_refl _) _).setCell (p := ⟨wr.heap.size, 5, none⟩) (Nat.le_refl _) _).trans ((below_box _).mono (by simpa using hs2))
  obtain ⟨xs, hv1, _⟩ := h.row
  exact (c1.mono hlo).grown HC.out.2 (by omega) (fun k hk => (hv1.lt k hk).1)

set_option maxRecDepth 20000 in
set_option maxHeartbeats 2000000 in
theorem l4Copy_any (n c : Nat) (a : Option Addr) (cs : List Co) (w : World) (hn : n ≤ 100) (hk : ∀ j, j < n → coinR (cs.getD j C0) = 0) (hC : CAt w a n cs) :
    Calls Try.prog 51 #[.slice a n c] w fun e w' => ∃ v kv, e = .returned v ∧ COwn w' w.heap.size w'.heap.size v n (fun j => cs.getD j C0) kv ∧ Below w.heap.size w w' := by
  have HC : Hid (CAt w a n cs) := hC
  have HKL : Hid (∀ j, j < n → coinR (cs.getD j C0) = 0) := hk
  have HE : Hid ((w.alloc (.cells #[] 41)).heap[w.heap.size]? = some (.cells #[] 41 (0, 0))) := heap_alloc_new _ _
  clear hC hk
  go_enter Try.func51, Try.ntmps51
  go_wp2
  go_loopw [3, 4] (fun v i wr => ∃ j : Nat, j ≤ n ∧ i = .int .i64 j ∧ Hid (∃ kv, COwn wr w.heap.size wr.heap.size v j (fun j => cs.getD j C0) kv) ∧ Below w.heap.size w wr) (fun _ i _ => n - (intOf i).toNat)
  case atStart =>
    refine ⟨0, Nat.zero_le _, rfl, ⟨fun _ => .slice none 0 0, ⟨[], own_empty HE.out (Nat.le_refl _), fun j hj => (by omega)⟩, fun b hb => ?_, fun j hj => (by omega), fun i j _ hj => (by omega)⟩, below_box _⟩
    cases hb
    exact lt_of_block HE.out
  case round =>
    obtain ⟨j, hj, rfl, HO, hbel⟩ := hrel
    by_cases hlt : j < n
    · rcases HC.out.2 with h0 | ⟨b, off, e0, l0, d0⟩
      · omega
      subst e0
      obtain ⟨o, ho⟩ : ∃ o, o = cs.getD j C0 := ⟨_, rfl⟩
      obtain ⟨ka, kc, p0, p4, p5⟩ := d0 j hlt
      have hcr := HKL.out j hlt
      rw [← ho] at p0 p4 p5 hcr
      obtain ⟨_, _, g3, g4⟩ := coin_more hcr
      obtain ⟨op, oq, ov, ol, ox, oy, oh, om⟩ := o
      have HS : Hid (cs.getD j C0 = (⟨op, oq, ov, ol, ox, oy, oh, om⟩ : Co)) := ho.symm
      simp only at p0 p4 p5 g3 g4
      rcases p5.2 with h0 | ⟨kb, ko, ek, hkl, _⟩
      · omega
      subst ek
      obtain ⟨x0, x1, x2, x3, x4, x5, x6, x7⟩ := p0.below hbel l0
      simp only at x0 x1 x2 x3 x4 x5 x6 x7
      have hbx : Below wr.heap.size wr (wr.alloc (.cells #[.int .i64 op, .int .i64 oq, .int .i64 ov, .slice (some ⟨kb, ko, none⟩) ol.length kc, .int .i64 ox, .int .i64 oy, .int .i64 oh, .bool om] 41)) := below_box _
      have hcp := l2Copy_any kb ko ol.length kc ol ox oy (wr.alloc (.cells #[.int .i64 op, .int .i64 oq, .int .i64 ov, .slice (some ⟨kb, ko, none⟩) ol.length kc, .int .i64 ox, .int .i64 oy, .int .i64 oh, .bool om] 41)) (by omega) ((p5.below hbel (Nat.le_refl _)).below hbx (Nat.le_refl _))
      have HX : Hid ((wr.alloc (.cells #[.int .i64 op, .int .i64 oq, .int .i64 ov, .slice (some ⟨kb, ko, none⟩) ol.length kc, .int .i64 ox, .int .i64 oy, .int .i64 oh, .bool om] 41)).heap[wr.heap.size]? = some (.cells #[.int .i64 op, .int .i64 oq, .int .i64 ov, .slice (some ⟨kb, ko, none⟩) ol.length kc, .int .i64 ox, .int .i64 oy, .int .i64 oh, .bool om] 41 (0, 0))) := heap_alloc_new _ _
      clear ho d0 p0 p4 p5 hcr g3 g4 hbx
      have hki : (j : Int) < (n : Int) := by omega
      go_wp2_with (first
        | (go_at_call 52; (with_reducible refine hcp.mono ?_); clear hcp; rintro e w2 ⟨g, gc, rfl, hrow, hb2⟩; obtain ⟨kv, hO⟩ := HO.out; obtain ⟨g5, cap, w5, hrun, HC5⟩ := copy_mid hO HS.out (by omega) hbel.size hb2 hrow; obtain ⟨⟨s0, s1, s2, s3, s4, s5, s6, s7⟩, f0, f1, f2, f3, f4, f5, f6, f7⟩ := cells8 (keepb HX.out hb2).out; clear hrow hb2 hO)
        | (at_builtin; go_must (refine wpList_append_runC (by rfl) _ _ _ (by rfl) (by rfl) (by rfl) hrun ?_); clear hrun))
      go_roundw
      case rel => exact ⟨j + 1, by omega, by go_num, HC5.out.1, hbel.trans HC5.out.2⟩
      case measure => simp [intOf]; omega
    · obtain rfl : j = n := by omega
      go_wp2
      go_ret
      obtain ⟨kv, hO⟩ := HO.out
      exact ⟨_, kv, rfl, hO, hbel⟩

end Go.Proofs.Ytdfijlcjmllplaa
