/- The program's CoinAt keeps its contract. The specification's copies of rules and coins. The coins of a purse come, each once, in some order, and are gathered in a row of their own. -/
import Derived.Test.YtjgilpkkfpbefaaGreatDoorJn3
import Derived.RangeFuncNested
import Derived.RangeFuncBound
import Derived.RangeFuncCalls
import Derived.RangeFuncLeaves
import Derived.RangeFuncBox
import Derived.RangeFuncWrites
import Derived.Shelf.Abstract
import Derived.Shelf.RegionOpen
import Derived.WalkKit
import Derived.OwnWalkIn
import Derived.TacticsInMore
import Derived.LoopNIn
import Derived.LoopIn
import Derived.Maps.OwnIn
import Derived.Maps.AppendAt
namespace Go.Proofs.YtjgilpkkfpbefaaGreatDoor
open Go.RowKit Go.Maps Go.WideMaps

theorem COwn.set2 {w : World} {lo hi b n : Nat} {v : Value} {f : Nat → Co} {kv : Nat → Value} (h : COwn w lo hi v n f kv) (hv : v.ownBlock ≠ some b) (hk : ∀ j, j < n → (kv j).ownBlock ≠ some b) (i : Nat) (u : Value) : COwn (w.setCell ⟨b, i, none⟩ u) lo hi v n f kv := by
  obtain ⟨xs, h1, h2⟩ := h.row
  exact ⟨⟨xs, ownsRow_setCell_other h1 (a := ⟨b, i, none⟩) hv u, h2⟩, h.top, fun j hj => ⟨ownsRow_setCell_other (h.keys j hj).1 (a := ⟨b, i, none⟩) (hk j hj) u, (h.keys j hj).2⟩, h.apart⟩

end Go.Proofs.YtjgilpkkfpbefaaGreatDoor

namespace Go.Proofs.YtjgilpkkfpbefaaGreatDoor
open Go.RowKit Go.Maps Go.WideMaps

set_option maxRecDepth 20000 in
set_option maxHeartbeats 1000000 in
theorem l2Copy_any (b off n cap : Nat) (l : List Int) (x y : Int) (w : World) (hn : n ≤ 1048576) (hI : IAt w (some ⟨b, off, none⟩) n l) :
    Calls Tryz.prog 102 #[.agg #[.slice (some ⟨b, off, none⟩) n cap, .int .i64 x, .int .i64 y]] w fun e w' => ∃ g c, e = .returned (.agg #[.slice (some ⟨g, 0, none⟩) n c, .int .i64 x, .int .i64 y]) ∧ w'.ownsRow (w.heap.size + 1 + 1) 2 1 (.slice (some ⟨g, 0, none⟩) n c) n (ints l) ∧ Below w.heap.size w w' := by
  obtain ⟨t0, t1, t2, t3⟩ := three_blocks w (.cells #[.slice (some ⟨b, off, none⟩) n cap, .int .i64 x, .int .i64 y] 82) (.cells #[.slice none 0 0, .int .i64 0, .int .i64 0] 82) (.cells #[] 2)
  have hbx : Below w.heap.size w (((w.alloc (.cells #[.slice (some ⟨b, off, none⟩) n cap, .int .i64 x, .int .i64 y] 82)).alloc (.cells #[.slice none 0 0, .int .i64 0, .int .i64 0] 82)).alloc (.cells #[] 2)) := below_box3 _ _ _
  obtain ⟨g, kc, w3, hrun, HW⟩ := keys_added (W := (((w.alloc (.cells #[.slice (some ⟨b, off, none⟩) n cap, .int .i64 x, .int .i64 y] 82)).alloc (.cells #[.slice none 0 0, .int .i64 0, .int .i64 0] 82)).alloc (.cells #[] 2))) (X := w.heap.size + 1 + 1) (c := cap) (base := w.heap.size + 1 + 1) t2 (Nat.le_refl _) (hI.below hbx (Nat.le_refl _)) hn (by rw [t3]; omega)
  have h0 : w3.heap[w.heap.size]? = some (.cells #[.slice (some ⟨b, off, none⟩) n cap, .int .i64 x, .int .i64 y] 82 (0, 0)) := (HW.out.2.block w.heap.size (by rw [t3]; omega) (by simp; omega)).trans t0
  have h1 : w3.heap[w.heap.size + 1]? = some (.cells #[.slice none 0 0, .int .i64 0, .int .i64 0] 82 (0, 0)) := (HW.out.2.block (w.heap.size + 1) (by rw [t3]; omega) (by simp)).trans t1
  have HB3 : Hid (Below w.heap.size w w3) := grown_new hbx HW.out.2 (by omega)
  obtain ⟨s0, s1, s2⟩ := cells3 h0
  obtain ⟨r0, r1, r2⟩ := cells3 h1
  have f0 := Joins.unfrozen_of_block h0 0
  have q0 := Joins.unfrozen_of_block h1 0
  have q1 := Joins.unfrozen_of_block h1 1
  have q2 := Joins.unfrozen_of_block h1 2
  have H1 : Hid (w3.heap[w.heap.size + 1]? = some (.cells #[.slice none 0 0, .int .i64 0, .int .i64 0] 82 (0, 0))) := h1
  clear t0 t1 t2 t3 hbx hI h0 h1
  go_enter Tryz.func102, Tryz.ntmps102
  go_wp2_with (first | (at_builtin; go_must (refine wpList_append_runC (by rfl) _ _ _ (by rfl) (by rfl) (by rfl) hrun ?_); clear hrun))
  have hR : (w3.setCell ⟨w.heap.size, 0, none⟩ (.slice (some ⟨g, 0, none⟩) n kc)).heap[w.heap.size + 1]? = some (.cells #[.slice none 0 0, .int .i64 0, .int .i64 0] 82 (0, 0)) := (Below.heap_setCell _ ⟨w.heap.size, 0, none⟩ _ (w.heap.size + 1) (show w.heap.size + 1 ≠ w.heap.size by omega)).trans H1.out
  obtain ⟨j0, j1, j2⟩ := three_set hR (.slice (some ⟨g, 0, none⟩) n kc) (.int .i64 x) (.int .i64 y)
  refine bodyPost_ret (v := .agg #[.slice (some ⟨g, 0, none⟩) n kc, .int .i64 x, .int .i64 y]) (by simp [results, Tryz.results102, go_sem, j0, j1, j2]) rfl ⟨g, kc, rfl, ?_, ?_⟩
  · exact row_set3 (ownsRow_setCell_below HW.out.1 (a := ⟨w.heap.size, 0, none⟩) (show w.heap.size < _ by omega) _) (by omega) _ _ _
  · exact below_set3 (HB3.out.setCell (p := ⟨w.heap.size, 0, none⟩) (Nat.le_refl _) _) (by omega) _ _ _

/-- A coin more: what the append leaves. -/
theorem coin_added {W : World} {lo X j : Nat} {v u : Value} {f : Nat → Co} {kv : Nat → Value} {o : Co} (h : COwn W lo W.heap.size v j f kv) (hX : W.heap[X]? = some (.cells #[.int .i64 o.p, .int .i64 o.q, .int .i64 o.v, u, .int .i64 o.x, .int .i64 o.y, .int .i64 o.h, .bool o.m] 86 (0, 0))) (hu1 : u.oneCell' = true) (hrow : W.ownsRow lo 2 1 u o.l.length (ints o.l)) (hap : ∀ i, i < j → ∀ b, (kv i).ownBlock = some b → u.ownBlock ≠ some b) (hj : j ≤ 1000) (hlo : lo ≤ W.heap.size) (hf : f j = o) :
    ∃ g cap w5, (Builtin.append_ #[41, 41] 41 #[v, .slice (some ⟨X, 0, none⟩) 1 1]).run Tryz.prog W = .ok (.slice (some ⟨g, 0, none⟩) (j + 1) cap) w5 ∧
      Hid (COwn w5 lo w5.heap.size (.slice (some ⟨g, 0, none⟩) (j + 1) cap) (j + 1) f (fun i => if i = j then u else kv i) ∧ W.grownBy w5 v.ownBlock) := by
  obtain ⟨i0, hi, hz0, hz1, hz2⟩ := info_parts Tryz.infoCoin
  obtain ⟨xs, hown, hcells⟩ := h.row
  obtain ⟨v', w5, hrun, hown', hgrow, hsome⟩ := run_append_own (P := Tryz.prog) W lo 41 41 86 i0 (.agg #[.int .i64 0, .int .i64 0, .int .i64 0, .slice none 0 0, .int .i64 0, .int .i64 0, .int .i64 0, .bool false]) 8 80 Tryz.underlying41 hi hz0 hz1 hz2 rfl (by decide) v j xs hown ⟨X, 0, none⟩ 1 1 [.int .i64 o.p, .int .i64 o.q, .int .i64 o.v, u, .int .i64 o.x, .int .i64 o.y, .int .i64 o.h, .bool o.m] rfl (World.news_of_block hX) (by
    intro z hz
    simp only [List.mem_cons, List.not_mem_nil, or_false] at hz
    rcases hz with rfl | rfl | rfl | rfl | rfl | rfl | rfl | rfl <;> first | rfl | exact hu1) (by unfold maxLen; omega) (by omega) hlo
  obtain ⟨g, cap, rfl⟩ := ownsRow_succ hown'
  have hxl := hown.1
  have kp : ∀ (z : Value) (d : Nat) (zs : List Value), W.ownsRow lo 2 1 z d zs → w5.ownsRow lo 2 1 z d zs := fun z d zs hz => hz.kept hgrow (by
    cases e : z.ownBlock with
    | none => exact .inl rfl
    | some b => exact .inr fun e2 => rows_apart (by decide) hown hz b e2.symm e)
  refine ⟨g, cap, w5, hrun, ⟨⟨_, hown', fun i hi => ?_⟩, fun b hb => (hown'.lt b hb).2, fun i hi => ?_, fun i k hik hk b hb => ?_⟩, hgrow⟩
  · by_cases e : i = j
    · subst e
      rw [if_pos rfl, hf]
      refine ⟨?_, ?_, ?_, ?_, ?_, ?_, ?_, ?_⟩ <;> (rw [List.getElem?_append_right (by omega), hxl]; simp)
    · obtain ⟨a0, a1, a2, a3, a4, a5, a6, a7⟩ := hcells i (by omega)
      rw [if_neg e]
      refine ⟨?_, ?_, ?_, ?_, ?_, ?_, ?_, ?_⟩
      · rw [List.getElem?_append_left (by omega)]; exact a0
      · rw [List.getElem?_append_left (by omega)]; exact a1
      · rw [List.getElem?_append_left (by omega)]; exact a2
      · rw [List.getElem?_append_left (by omega)]; exact a3
      · rw [List.getElem?_append_left (by omega)]; exact a4
      · rw [List.getElem?_append_left (by omega)]; exact a5
      · rw [List.getElem?_append_left (by omega)]; exact a6
      · rw [List.getElem?_append_left (by omega)]; exact a7
  · by_cases e : i = j
    · subst e
      rw [if_pos rfl, hf]
      exact ⟨kp _ _ _ hrow, fun b hb => ((kp _ _ _ hrow).lt b hb).2⟩
    · rw [if_neg e]
      have := kp _ _ _ (h.keys i (by omega)).1
      exact ⟨this, fun b hb => (this.lt b hb).2⟩
  · rw [if_neg (by omega)] at hb
    by_cases e : k = j
    · rw [if_pos e]; exact hap i (by omega) b hb
    · rw [if_neg e]; exact h.apart i k hik (by omega) b hb

end Go.Proofs.YtjgilpkkfpbefaaGreatDoor

namespace Go.Proofs.YtjgilpkkfpbefaaGreatDoor
open Go.RowKit Go.Maps Go.WideMaps Go.Shelf
attribute [local go_sem] Oper.semAt_some

/-- A coin as the map tells it: its keys are a slice. -/
abbrev SC := { x : Co × Value // ∃ a n c, x.2 = Value.slice a n c }
abbrev encsC (x : SC) : Array Value := #[coV x.1]
def cellsC (x : SC) : List Value := [.int .i64 x.1.1.p, .int .i64 x.1.1.q, .int .i64 x.1.1.v, x.1.2, .int .i64 x.1.1.x, .int .i64 x.1.1.y, .int .i64 x.1.1.h, .bool x.1.1.m]

def ComeC (ps : List (Co × Value)) (left : Lit → Bool) (ss : List SC) : Prop :=
  (∀ x ∈ ss, x.1 ∈ ps) ∧ (ss.Pairwise fun x y => refOf x.1 ≠ refOf y.1) ∧ ∀ x ∈ ps, ∀ kl, keyOf Tryz.prog 81 (encR (refOf x)) = some kl → (left kl = true ↔ ¬ ∃ y ∈ ss, y.1 = x)
def AllC (ps : List (Co × Value)) (ss : List SC) : Prop :=
  (∀ x ∈ ss, x.1 ∈ ps) ∧ (ss.Pairwise fun x y => refOf x.1 ≠ refOf y.1) ∧ ∀ x ∈ ps, ∃ y ∈ ss, y.1 = x

/-- What the map tells of the refs. -/
structure Told (D : DataW Value) (ps : List (Co × Value)) : Prop where
  size : Maps.size D = ps.length
  look : ∀ r kl, keyOf Tryz.prog 81 (encR r) = some kl → LookD D kl (findP ps r)
  refs : ps.Pairwise fun x y => refOf x ≠ refOf y
  wfs : ∀ x ∈ ps, (Lit.int .i64 x.1.p).wf = true ∧ (Lit.int .i64 x.1.q).wf = true
  sl : ∀ x ∈ ps, ∃ a n c, x.2 = Value.slice a n c

theorem come_start {D : DataW Value} {ps : List (Co × Value)} (h : Told D ps) : ComeC ps (fun kl => Maps.has D kl) [] := by
  refine ⟨fun x hx => (by cases hx), List.Pairwise.nil, fun x hx kl hk => ?_⟩
  have := h.look (refOf x) kl hk
  rw [find_mem h.refs hx] at this
  simp [this.1]
theorem come_all {ps : List (Co × Value)} {left : Lit → Bool} {ss : List SC} (h : ComeC ps left ss) (hw : ∀ x ∈ ps, (Lit.int .i64 x.1.p).wf = true ∧ (Lit.int .i64 x.1.q).wf = true) (hl : ∀ kl, left kl = false) : AllC ps ss := by
  refine ⟨h.1, h.2.1, fun x hx => ?_⟩
  obtain ⟨kl, hk⟩ := keyRf (r := refOf x) (hw x hx).1 (hw x hx).2
  have := h.2.2 x hx kl hk
  rw [hl kl] at this
  exact Classical.byContradiction fun e => by simpa using this.2 e
theorem come_step {ps : List (Co × Value)} {left : Lit → Bool} {ss : List SC} (h : ComeC ps left ss) (hrefs : ps.Pairwise fun x y => refOf x ≠ refOf y) {z : SC} {kl : Lit} (hz : z.1 ∈ ps) (hk : keyOf Tryz.prog 81 (encR (refOf z.1)) = some kl) (hl : left kl = true) :
    ComeC ps (fun t => left t && !t.sameKey kl) (ss ++ [z]) := by
  have hno := (h.2.2 z.1 hz kl hk).1 hl
  refine ⟨fun x hx => ?_, ?_, fun x hx kl' hk' => ?_⟩
  · rcases List.mem_append.1 hx with hx | hx
    · exact h.1 x hx
    · obtain rfl := List.mem_singleton.1 hx; exact hz
  · rw [List.pairwise_append]
    refine ⟨h.2.1, List.pairwise_singleton _ _, fun x hx y hy e => ?_⟩
    obtain rfl := List.mem_singleton.1 hy
    exact hno ⟨x, hx, refs_inj hrefs x.1 (h.1 x hx) y.1 hz e⟩
  · by_cases e : x = z.1
    · subst e
      rw [hk] at hk'
      cases hk'
      show (left kl && !kl.sameKey kl) = true ↔ _
      rw [WideAt.sameKey_self (kR.key hk)]
      simp
    · have hne : kl' ≠ kl := fun e2 => e (refs_inj hrefs x hx z.1 hz (encR_inj (kR.inj hk' (by rw [e2]; exact hk))))
      show (left kl' && !kl'.sameKey kl) = true ↔ _
      rw [sameKey_ne hne]
      simp only [Bool.not_false, Bool.and_true]
      rw [h.2.2 x hx kl' hk']
      constructor
      · rintro h1 ⟨y, hy, e2⟩
        rcases List.mem_append.1 hy with hy | hy
        · exact h1 ⟨y, hy, e2⟩
        · obtain rfl := List.mem_singleton.1 hy; exact e e2.symm
      · rintro h1 ⟨y, hy, e2⟩
        exact h1 ⟨y, List.mem_append_left _ hy, e2⟩

/-- The entry that has come is a coin of the purse. -/
theorem come_which {D : DataW Value} {ps : List (Co × Value)} (h : Told D ps) {key c : Value} {kl : Lit} (hk : keyOf Tryz.prog 81 key = some kl) (hat : ∀ zd, D.atKey kl zd = .held c) :
    ∃ z : SC, z.1 ∈ ps ∧ key = encR (refOf z.1) ∧ c = coV z.1 ∧ (Lit.int .i64 z.1.1.p).wf = true ∧ (Lit.int .i64 z.1.1.q).wf = true := by
  obtain ⟨r, rfl, _, _⟩ := keyRf_inv hk
  have hl := h.look r kl hk
  cases hf : findP ps r with
  | none =>
    rw [hf] at hl
    have := (hl.2 (.lit (.bool true))).symm.trans (hat _)
    cases this
  | some z =>
    rw [hf] at hl
    have := (hl.2 (.lit (.bool true))).symm.trans (hat _)
    obtain ⟨h1, h2⟩ := find_get hf
    exact ⟨⟨z, h.sl z h1⟩, h1, by rw [← h2], (DataW.held.inj this).symm, h.wfs z h1⟩

set_option maxRecDepth 100000 in
set_option maxHeartbeats 2000000 in
theorem valuesC_in (n : Nat) (hn : 1 ≤ n) (l Bm b : Nat) (ps : List (Co × Value)) (D : DataW Value) (J Jx : List SC → World → Prop)
    (hY : ∀ pre x W, J pre W → pre.length < ps.length → YieldAt Fence.wide (n - 1) Tryz.prog l (encsC x) W fun e W' =>
      (e = .returned (.bool true) ∧ J (pre ++ [x]) W' ∧ KeepsWalks W W') ∨ (e = .returned (.bool false) ∧ Jx (pre ++ [x]) W'))
    (W : World) (hJ : AbidesFrom W.heap.size J) (hm : W.cell? ⟨Bm, 0, none⟩ = some (.map (some b))) (hown : W.ownsMap Tryz.prog 81 Rv b ps.length D) (hT : Told D ps) (h0 : J [] W) :
    CallsIn Fence.wide n Tryz.prog 151 #[.func (.yield l) #[] #[], .pointer (some ⟨Bm, 0, none⟩)] W fun e W' => (∃ v, e = .returned v) ∧
      ((∃ xs, AllC ps xs ∧ J xs W') ∨ (∃ pre : List SC, True ∧ Jx pre W')) := by
  refine callsIn_of_wp Tryz.func151 rfl trivial ?_ rfl
  simp only [Tryz.ntmps151, List.size_toArray, List.length_cons, List.length_nil, Nat.reduceAdd, Nat.reduceSub, Array.replicate_succ, Array.replicate_zero, List.push_toArray, List.append_toArray, List.nil_append, List.cons_append]
  gi_wp2_with (first
    | (gi_at_range; refine wpListIn_range_own _ rfl _ 97 rfl 81 86 kR Tryz.underlying97 _ b ps.length _ rfl hown ?_; intro w0 hrg0 hg0 hs0)
    | gi_in)
  go_frame
  gi_loopw [4] (fun _ wr => ∃ (left : Lit → Bool) (cnt : Nat) (ss : List SC), wr.ranges Tryz.prog 81 Rv b W.heap.size ps.length D left cnt ∧ ss.length + cnt ≤ ps.length ∧ ComeC ps left ss ∧ J ss wr)
    (fun _ wr => wr.rangeLeft b W.heap.size)
  case atStart =>
    exact ⟨_, _, [], hrg0, by simp [hT.size], come_start hT, hJ [] W w0 none h0 hg0 (fun r e => by cases e)⟩
  case round =>
    obtain ⟨left, cnt, ss, hrg, hcs, hC, hJs⟩ := hrel
    gi_wp2_with (first
      | (gi_at_next; refine wpListIn_next_ranges _ rfl _ rfl 81 kR Rv id id (fun key kl hk => ⟨key, rfl⟩) (fun v _ _ => ⟨v, rfl⟩) b W.heap.size ps.length _ _ _ rfl hrg ?_ ?_)
      | gi_in)
    · intro hc0 hl0
      gi_wp2
      go_end0
      exact ⟨⟨_, rfl⟩, .inl ⟨ss, come_all hC hT.wfs hl0, hJs⟩⟩
    · intro x c kl yd yp w2 cnt2 hkey hlk hv hat hrg2 hlt hg2 hs2 hen
      obtain rfl : yd = .held c := (Prod.mk.inj (show (DataW.held c, ([] : List MemPlace)) = (yd, yp) from Option.some.inj hv)).1.symm
      obtain ⟨z, hz, rfl, rfl, hw1, hw2⟩ := come_which hT (show keyOf Tryz.prog 81 x = some kl from hkey) hat
      have hC2 := come_step hC hT.refs hz (show keyOf Tryz.prog 81 (encR (refOf z.1)) = some kl from hkey) hlk
      obtain ⟨⟨zc, zu⟩, za, zn, zp, hzu⟩ := z
      simp only at hzu
      subst hzu
      have hJ2 : J ss w2 := hJ _ wr w2 (some W.heap.size) hJs hg2 (fun r e => by cases e; exact ⟨Nat.le_refl _, hrg.iter_walk⟩)
      have hJ3 : J ss (w2.alloc (.cells #[.int .i64 zc.p, .int .i64 zc.q, .int .i64 zc.v, .slice za zn zp, .int .i64 zc.x, .int .i64 zc.y, .int .i64 zc.h, .bool zc.m] 86)) := hJ _ w2 _ none hJ2 (grown_of_below (below_box _)) (fun r e => by cases e)
      obtain ⟨fn, tmps, assign, body, hy, hR⟩ := hY ss ⟨(zc, .slice za zn zp), za, zn, zp, rfl⟩ _ hJ3 (by omega)
      dsimp only [encsC, coV] at hy
      dsimp only [coV, encR, refOf, id] at hen ⊢
      clear hs2
      gi_wp2
      refine hR.mono ?_
      rintro e W3 (⟨rfl, hJ4, hk3⟩ | ⟨rfl, hJx3⟩)
      · gi_wp2
        have hrg3 := (hrg2.of_walks (KeepsWalks.alloc _ _)).of_walks hk3
        go_roundw
        case rel => exact ⟨_, cnt2, _, hrg3, by simp; omega, hC2, hJ4⟩
        case measure => rw [hrg3.left_eq, hrg.left_eq]; exact hlt
      · gi_wp2
        refine bodyPost_ret (results_none rfl _ _ _) rfl ?_
        exact ⟨⟨_, rfl⟩, .inr ⟨_, trivial, hJx3⟩⟩

theorem valuesC_stops (n : Nat) (hn : 1 ≤ n) (Bm b lo : Nat) (ps : List (Co × Value)) (w : World) (hBm : Bm < w.heap.size) (hm : w.cell? ⟨Bm, 0, none⟩ = some (.map (some b))) (hP : Pu w lo b ps) :
    SeqStopsK Fence.wide n Tryz.prog 151 #[.pointer (some ⟨Bm, 0, none⟩)] encsC KeepsWalks (AllC ps) (fun _ => True) ps.length w := fun l J Jx W hW hJ _ hY h0 => by
  obtain ⟨D, ho, hsz, hat⟩ := hP.map
  have hown : W.ownsMap Tryz.prog 81 Rv b ps.length D := ho.kept (grown_of_below hW) (by simp)
  exact valuesC_in n hn l Bm b ps D J Jx hY W hJ ((hW.cell (p := ⟨Bm, 0, none⟩) hBm).trans hm) hown ⟨hsz, hat, hP.refs, hP.wfs, fun x hx => by
    rcases (hP.rows x hx).2 with ⟨e1, _⟩ | ⟨g, cp, cur, e1, _⟩
    · exact ⟨none, 0, 0, e1⟩
    · exact ⟨_, _, _, e1⟩⟩ h0

set_option maxHeartbeats 1000000 in
theorem values_any (B : Nat) (w : World) :
    Calls Tryz.prog 134 #[.map (some B)] w fun e w' => e = .returned (.func (.func 151) #[] #[.pointer (some ⟨w.heap.size, 0, none⟩)]) ∧ w' = w.alloc (.cells #[.map (some B)] 97) := by
  go_enter Tryz.func134, Tryz.ntmps134
  go_wp2
  go_ret
  exact ⟨rfl, rfl⟩

theorem walks_of_others {A B : World} (h : KeepsOthers A B) : KeepsWalks A B := ⟨h.size, fun k o hk ho => h.same k o hk (by cases o <;> first | rfl | cases ho)⟩

/-- The loop's own variable in its block. -/
def AxC (w0 : World) (sv : Value) (x : SC) (a' : Act) (W : World) : Prop :=
  ∃ Bq0, W.heap[Bq0]? = some (.cells #[.int .i64 x.1.1.p, .int .i64 x.1.1.q, .int .i64 x.1.1.v, x.1.2, .int .i64 x.1.1.x, .int .i64 x.1.1.y, .int .i64 x.1.1.h, .bool x.1.1.m] 86 (0, 0)) ∧
    a' = { tmps := #[.slice none 0 0, sv, .pointer (some ⟨w0.heap.size, 0, none⟩), undef, .slice none 0 0, .pointer (some ⟨Bq0, 0, none⟩), sv, coV x.1, undef, undef, undef, undef, undef], defers := [] }
theorem AxC.own (w0 : World) (sv : Value) (B : Nat) (x : SC) (a' : Act) : OwnFrom B (fun (_ : Unit) W => AxC w0 sv x a' W) := by
  rintro _ X Y row ⟨Bq0, hb, ha⟩ hg hr
  refine ⟨Bq0, ?_, ha⟩
  refine (hg.block Bq0 (lt_of_block hb) fun e => ?_).trans hb
  obtain ⟨_, o, ho, hc⟩ := hr Bq0 e.symm
  rw [hb] at ho
  cases ho
  cases hc

set_option maxRecDepth 100000 in
set_option maxHeartbeats 4000000 in
theorem appendSeqC (n : Nat) (hn : 3 ≤ n) (Bm b lo : Nat) (ps : List (Co × Value)) (w : World) (hps : ps.length ≤ 1000) (hBm : Bm < w.heap.size) (hm : w.cell? ⟨Bm, 0, none⟩ = some (.map (some b))) (hP : Pu w lo b ps) :
    CallsIn Fence.wide n Tryz.prog 159 #[.slice none 0 0, .func (.func 151) #[] #[.pointer (some ⟨Bm, 0, none⟩)]] w fun e w' =>
      ∃ (v : Value) (ss : List SC), e = .returned v ∧ AllC ps ss ∧ w'.ownsRow w.heap.size 86 8 v ss.length (ss.flatMap cellsC) ∧ (v = .slice none 0 0 ↔ ss = []) ∧ Below w.heap.size w w' := by
  have h1 : 1 ≤ n := by omega
  obtain ⟨i0, hi, hz0, hz1, hz2⟩ := info_parts Tryz.infoCoin
  refine callsIn_of_wp_marks Tryz.func159 rfl trivial ?_ rfl
  simp only [Tryz.ntmps159, List.size_toArray, List.length_cons, List.length_nil, Nat.reduceAdd, Nat.reduceSub, Array.replicate_succ, Array.replicate_zero, List.push_toArray, List.append_toArray, List.nil_append, List.cons_append]
  gi_wp2
  have bO := Boxed.new w 41 (.slice none 0 0)
  have hB0 : Below w.heap.size w (w.alloc (.cells #[.slice none 0 0] 41)) := below_box _
  refine wpIn_rangeFunc_ownH rfl h1 (gf := 151) (lb := #[.pointer (some ⟨Bm, 0, none⟩)]) rfl trivial (enters_of Tryz.func151 (by kernel_rfl) rfl)
    (valuesC_stops (n - 1) (by omega) Bm b lo ps (w.alloc (.cells #[.slice none 0 0] 41)) (by simp; omega) ((hB0.cell (p := ⟨Bm, 0, none⟩) hBm).trans hm) (hP.below hB0)) walksK_t walksK_b (Below.refl _ _) (fun _ => rfl)
    (fun pre W => (∃ v, Boxed W w.heap.size 41 v ∧ W.ownsRow w.heap.size 86 8 v pre.length (pre.flatMap cellsC) ∧ (v = .slice none 0 0 ↔ pre = [])) ∧ Below w.heap.size w W)
    (fun _ _ _ => False)
    (OwnFrom.and (Own.from (holdsRow_own w.heap.size w.heap.size 41 86 8 (fun pre : List SC => pre.length) (fun pre => pre.flatMap cellsC) (fun pre v => v = .slice none 0 0 ↔ pre = [])) _) (ownFrom_below (Nat.le_refl _) (by simp)))
    (fun _ _ _ _ _ hs _ _ => hs)
    ⟨⟨_, bO, World.ownsRow_nil _ _ _ _, by simp⟩, hB0⟩
    (AxC w (.func (.func 151) #[] #[.pointer (some ⟨Bm, 0, none⟩)])) (AxC.own _ _ _) ?assign ?body ?done ?stop
  case assign =>
    rintro l pre ⟨⟨zc, zu⟩, za, zn, zp, hzu⟩ W K ⟨⟨v, hv, hrow, hnil⟩, hB⟩ hK
    simp only at hzu
    subst hzu
    dsimp only [encsC, coV] at *
    gi_wp2
    exact hK _ _ ((KeepsOthers.alloc _ _).from _) (KeepsWalks.alloc _ _) ⟨⟨v, hv.alloc _, hrow.alloc _, hnil⟩, hB.alloc hB.size _⟩ ⟨W.heap.size, heap_alloc_new _ _, rfl⟩
  case body =>
    rintro l pre ⟨⟨zc, zu⟩, za, zn, zp, hzu⟩ a' W hl hr ⟨⟨v, hv, hrow, hnil⟩, hB⟩ ⟨Bq0, hBk, rfl⟩ hlt
    simp only at hzu
    subst hzu
    dsimp only [coV] at hBk ⊢
    have hc := hv.cell
    obtain ⟨⟨s0, s1, s2, s3, s4, s5, s6, s7⟩, _⟩ := cells8 hBk
    gi_wp2_with (gi_at_builtin; refine wpListIn_append_own _ rfl _ _ 41 rfl w.heap.size 86 i0 (.agg #[.int .i64 0, .int .i64 0, .int .i64 0, .slice none 0 0, .int .i64 0, .int .i64 0, .int .i64 0, .bool false]) 8 80 Tryz.underlying41 hi hz0 hz1 hz2 rfl (by decide) _ _ _ rfl (hrow.alloc _) ⟨W.heap.size, 0, none⟩ 1 1 [.int .i64 zc.p, .int .i64 zc.q, .int .i64 zc.v, .slice za zn zp, .int .i64 zc.x, .int .i64 zc.y, .int .i64 zc.h, .bool zc.m] rfl rfl (World.news_of_block (heap_alloc_new _ _)) (by simp [Value.oneCell']) (by unfold maxLen; omega) (by omega) (by have := hB.size; simp; omega) ?_; intro v' w1 hown' hgrow _; obtain ⟨g', cap', rfl⟩ := ownsRow_succ hown'; obtain ⟨hv1, hv2, hr2, hk2, hb2⟩ := hv.appended (by decide) hrow hB.size (Nat.le_refl _) hown' hgrow; have hc1 := hv1.cell; have hf1 := hv1.frozen)
    exact ⟨hk2.from _, walks_of_others hk2, ⟨⟨_, hv2, by simpa [cellsC] using hr2, by simp⟩, hB.trans hb2⟩⟩
  case done =>
    rintro D ys W hD hS ⟨⟨v, hv, hrow, hnil⟩, hB⟩ hK
    have hc := hv.cell
    gi_wp2
    refine ⟨by simp, .inl ⟨_, _, rfl, run_takeDeferred hK, ?_⟩⟩
    exact ⟨_, results_tmp rfl _ _ _, v, ys, rfl, hS, ownsRow_putObj hrow _ hK rfl, hnil, hB.trans (belowK_b (w := w) (Nat.le_refl _) W D _ _ (by simp at hD; omega) hK rfl rfl)⟩
  case stop =>
    rintro D c pre W _ _ h _
    exact h.elim

set_option maxHeartbeats 1000000 in
theorem collectC (Bm b lo : Nat) (ps : List (Co × Value)) (w : World) (hps : ps.length ≤ 1000) (hBm : Bm < w.heap.size) (hm : w.cell? ⟨Bm, 0, none⟩ = some (.map (some b))) (hP : Pu w lo b ps) :
    Calls Tryz.prog 149 #[.func (.func 151) #[] #[.pointer (some ⟨Bm, 0, none⟩)]] w fun e w' =>
      ∃ (v : Value) (ss : List SC), e = .returned v ∧ AllC ps ss ∧ w'.ownsRow w.heap.size 86 8 v ss.length (ss.flatMap cellsC) ∧ (v = .slice none 0 0 ↔ ss = []) ∧ Below w.heap.size w w' := by
  have hA := (callsIn_wide (n := 3)).2 (callsIn_wide.1 (appendSeqC 3 (by omega) Bm b lo ps w hps hBm hm hP))
  have hA' := callsIn_wide.1 hA
  clear hA
  go_enter Tryz.func149, Tryz.ntmps149
  go_wp2_with (go_at_call 159; (with_reducible refine hA'.mono ?_); clear hA'; rintro e w' ⟨v, ss, rfl, hS, hrow, hnil, hb⟩)
  go_ret
  exact ⟨v, ss, rfl, hS, hrow, hnil, hb⟩

end Go.Proofs.YtjgilpkkfpbefaaGreatDoor
