/- The program puts the coins of a transaction into its purse. The program's putOuts keeps its contract. The program's TakeCoins keeps its contract. The program's PutCoins keeps its contract. The specification: is there a coin of a transaction? The specification's CoinAt. The specification takes coins out of a list: pieces of rows appended. The specification adds a coin to a list of coins. The specification's TakeCoins. -/
import Derived.Test.YtlcdhhaikhieiaaDoorX2
import Derived.Test.YtlcdhhaikhieiaaDoorX3
import Derived.RangeFuncNested
import Derived.RangeFuncBound
import Derived.RangeFuncCalls
import Derived.RangeFuncLeaves
import Derived.RangeFuncBox
import Derived.RangeFuncWrites
import Derived.Shelf.Abstract
import Derived.Shelf.RegionOpen
import Derived.WalkKit
import Derived.OwnWalkIn
import Derived.TacticsInMore
import Derived.LoopNIn
import Derived.LoopIn
import Derived.Maps.OwnIn
import Derived.Maps.AppendAt
import Derived.Maps.RangeWalk
namespace Go.Proofs.YtlcdhhaikhieiaaDoor
open Go.RowKit Go.Maps Go.WideMaps

def putFR (t : Int) (os : List Ou) (h : Int) : Int := if inB t 1 60 = false ∨ inB h 0 999 = false then 3 else if 4 < os.length then 2 else outsR os

/-- The coins that a transaction's outs make. -/
def newC (t h : Int) (m : Bool) (o : Ou) (j : Nat) : Co := ⟨t, j, o.v, o.l, o.x, o.y, h, m⟩
def newCs (t h : Int) (m : Bool) (os : List Ou) (k : Nat) : List Co := (List.range k).map fun j => newC t h m (os.getD j O0) j
theorem newCs_succ (t h : Int) (m : Bool) (os : List Ou) (k : Nat) : newCs t h m os (k + 1) = newCs t h m os k ++ [newC t h m (os.getD k O0) k] := by
  unfold newCs
  rw [List.range_succ, List.map_append]
  rfl
theorem outs_more : ∀ {os : List Ou}, outsR os = 0 → ∀ o ∈ os, 1 ≤ o.l.length ∧ o.l.length ≤ 3
  | [], _, o, ho => by cases ho
  | x :: t, h, o, ho => by
    unfold outsR at h
    by_cases h1 : inB x.v 1 1000000 = false
    · rw [if_pos h1] at h; cases h
    · rw [if_neg h1] at h
      by_cases h2 : ruleR x.l x.x x.y ≠ 0
      · rw [if_pos h2] at h; exact absurd h h2
      · rw [if_neg h2] at h
        rcases List.mem_cons.1 ho with rfl | ho
        · have h3 : ruleR o.l o.x o.y = 0 := Classical.not_not.1 h2
          unfold ruleR at h3
          by_cases h4 : inB o.l.length 1 3 = false
          · rw [if_pos h4] at h3; cases h3
          · have h5 : inB o.l.length 1 3 = true := by cases e : inB o.l.length 1 3; exact absurd e h4; rfl
            simp [inB] at h5
            omega
        · exact outs_more h o ho
end Go.Proofs.YtlcdhhaikhieiaaDoor

namespace Go.Proofs.YtlcdhhaikhieiaaDoor
open Go.RowKit Go.Maps Go.WideMaps

def putsR (n : Nat) (ti : Bool) (t : Int) (os : List Ou) (h : Int) : Int := if putFR t os h ≠ 0 then putFR t os h else if ti = true then 7 else if 40 < n + os.length then 2 else 0

end Go.Proofs.YtlcdhhaikhieiaaDoor

namespace Go.Proofs.YtlcdhhaikhieiaaDoor
open Go.RowKit Go.Maps Go.WideMaps

/-- A code alone, in the result's block. -/
theorem out_code {w W : World} {R : Nat} {cd : Int} (hR : w.heap.size ≤ R) (hb : Below w.heap.size w W) : OutCs w ((W.setCell ⟨R, 0, none⟩ (.int .i64 cd)).setCell ⟨R, 1, none⟩ (.slice none 0 0)) (.returned (.agg #[.int .i64 cd, .slice none 0 0])) cd [] :=
  ⟨_, _, rfl, COwn.zero _, (hb.setCell (p := ⟨R, 0, none⟩) hR _).setCell (p := ⟨R, 1, none⟩) hR _⟩
/-- Coins of their own, in the result's block. -/
theorem out_coins {w W : World} {R lo : Nat} {cs : List Co} {va : Option Addr} {vc : Nat} (hR : w.heap.size ≤ R) (hlo : R < lo) (hb : Below w.heap.size w W) (hO : ∃ kv, COwn W lo W.heap.size (.slice va cs.length vc) cs.length (fun j => cs.getD j C0) kv) :
    OutCs w ((W.setCell ⟨R, 0, none⟩ (.int .i64 0)).setCell ⟨R, 1, none⟩ (.slice va cs.length vc)) (.returned (.agg #[.int .i64 0, .slice va cs.length vc])) 0 cs := by
  obtain ⟨kv, hO⟩ := hO
  have nv : (Value.slice va cs.length vc).ownBlock ≠ some R := fun e => by
    obtain ⟨xs, h1, _⟩ := hO.row
    have := (h1.lt _ e).1
    omega
  have nk : ∀ j, j < cs.length → (kv j).ownBlock ≠ some R := fun j hj e => by have := ((hO.keys j hj).1.lt _ e).1; omega
  exact ⟨_, kv, rfl, ((hO.set2 nv nk 0 (.int .i64 0)).set2 nv nk 1 (.slice va cs.length vc)).lower (by omega) (by simp), (hb.setCell (p := ⟨R, 0, none⟩) hR _).setCell (p := ⟨R, 1, none⟩) hR _⟩
end Go.Proofs.YtlcdhhaikhieiaaDoor

namespace Go.Proofs.YtlcdhhaikhieiaaDoor
open Go.RowKit Go.Maps Go.WideMaps

/-- A coin put into its place; coins put, one after another. -/
def addC : List Co → Co → List Co
  | [], x => [x]
  | a :: l, x => if cmpR (a.p, a.q) (x.p, x.q) < 0 then a :: addC l x else x :: a :: l
def addCs (cs xs : List Co) : List Co := xs.foldl addC cs
theorem addC_mem {x : Co} : ∀ {cs : List Co} {c : Co}, c ∈ addC cs x ↔ c = x ∨ c ∈ cs
  | [], c => by simp [addC]
  | a :: l, c => by
    unfold addC
    by_cases e : cmpR (a.p, a.q) (x.p, x.q) < 0
    · rw [if_pos e, List.mem_cons, addC_mem, List.mem_cons]
      constructor <;> (rintro (h | h | h) <;> simp [h])
    · rw [if_neg e, List.mem_cons]
theorem addCs_mem : ∀ {xs cs : List Co} {c : Co}, c ∈ addCs cs xs ↔ c ∈ cs ++ xs
  | [], cs, c => by simp [addCs]
  | x :: xs, cs, c => by
    show c ∈ addCs (addC cs x) xs ↔ _
    rw [addCs_mem, List.mem_append, addC_mem, List.mem_append, List.mem_cons]
    constructor
    · rintro ((h | h) | h) <;> simp [h]
    · rintro (h | h | h) <;> simp [h]
def hasT (cs : List Co) (t : Int) : Bool := cs.any fun c => decide (c.p = t)
def putR (cs : List Co) (t : Int) (os : List Ou) (h : Int) (m : Bool) : Int × List Co :=
  if coinsR cs ≠ 0 then (coinsR cs, []) else if putsR cs.length (hasT cs t) t os h ≠ 0 then (putsR cs.length (hasT cs t) t os h, []) else (0, addCs cs (newCs t h m os os.length))
end Go.Proofs.YtlcdhhaikhieiaaDoor

namespace Go.Proofs.YtlcdhhaikhieiaaDoor
open Go.RowKit Go.Maps Go.WideMaps

theorem hasT_next {cs : List Co} {n j : Nat} {o : Co} {t : Int} (hn : cs.length = n) (hlt : j < n) (ho : o = cs.getD j C0) (h : hasT (cs.take j) t = false) (hne : o.p ≠ t) : hasT (cs.take (j + 1)) t = false := by
  have e : cs.getD j C0 = cs[j]'(by omega) := by simp [List.getD, List.getElem?_eq_getElem (show j < cs.length by omega)]
  rw [List.take_add_one, List.getElem?_eq_getElem (by omega), ← e, ← ho]
  unfold hasT at h ⊢
  rw [List.any_append, h]
  simp [hne]
theorem hasT_here {cs : List Co} {n j : Nat} {o : Co} {t : Int} (hn : cs.length = n) (hlt : j < n) (ho : o = cs.getD j C0) (he : o.p = t) : hasT cs t = true := by
  unfold hasT
  rw [List.any_eq_true]
  refine ⟨o, ?_, by simpa using he⟩
  rw [ho, List.getD, List.getElem?_eq_getElem (by omega)]
  exact List.getElem_mem _

set_option maxHeartbeats 1000000 in
theorem l4Of_any (n c : Nat) (a : Option Addr) (cs : List Co) (t : Int) (w : World) (hn : n ≤ 1048576) (hC : CAt w a n cs) :
    Calls Tryd.prog 50 #[.slice a n c, .int .i64 t] w fun e w' => e = .returned (.bool (hasT cs t)) ∧ w' = w := by
  have HC : Hid (CAt w a n cs) := hC
  have HN : Hid (cs.length = n) := hC.1
  clear hC
  go_enter Tryd.func50, Tryd.ntmps50
  go_wp2
  go_loop [5] (fun i => ∃ j : Nat, j ≤ n ∧ i = .int .i64 j ∧ Hid (hasT (cs.take j) t = false)) (fun i => n - (intOf i).toNat)
  case atStart => exact ⟨0, Nat.zero_le _, rfl, rfl⟩
  case round =>
    obtain ⟨j, hj, rfl, HH⟩ := hrel
    by_cases hlt : j < n
    · rcases HC.out.2 with h0 | ⟨b, off, e0, l0, d0⟩
      · omega
      subst e0
      obtain ⟨o, ho⟩ : ∃ o, o = cs.getD j C0 := ⟨_, rfl⟩
      obtain ⟨ka, kc, p0, _, _⟩ := d0 j hlt
      rw [← ho] at p0
      obtain ⟨x0, _⟩ := p0
      have HO : Hid (o = cs.getD j C0) := ho
      have hki : (j : Int) < (n : Int) := by omega
      clear d0 ho
      by_cases he : o.p = t
      · have HX : Hid (hasT cs t = true) := hasT_here HN.out hlt HO.out he
        go_wp2
        go_ret
        exact ⟨by rw [HX.out]; rfl, rfl⟩
      · have HX : Hid (hasT (cs.take (j + 1)) t = false) := hasT_next HN.out hlt HO.out HH.out he
        go_wp2
        go_round
        case rel => exact ⟨j + 1, by omega, by go_num, HX.out⟩
        case measure => simp [intOf]; omega
    · have HX : Hid (hasT cs t = false) := by have := HH.out; rwa [List.take_of_length_le (by rw [HN.out]; omega)] at this
      go_wp2
      go_ret
      exact ⟨by rw [HX.out]; rfl, rfl⟩

end Go.Proofs.YtlcdhhaikhieiaaDoor

namespace Go.Proofs.YtlcdhhaikhieiaaDoor
open Go.RowKit Go.Maps Go.WideMaps

/-- Behind the copy of a coin's keys. -/
theorem copy_mid {wr w2 : World} {lo j g gc : Nat} {v : Value} {f : Nat → Co} {kv : Nat → Value} {op oq ov : Int} {ol : List Int} {ox oy oh : Int} {om : Bool} {kb ko kc : Nat} (h : COwn wr lo wr.heap.size v j f kv) (hf : f j = (⟨op, oq, ov, ol, ox, oy, oh, om⟩ : Co)) (hj : j ≤ 1000) (hlo : lo ≤ wr.heap.size)
    (hb : Below (wr.alloc (.cells #[.int .i64 op, .int .i64 oq, .int .i64 ov, .slice (some ⟨kb, ko, none⟩) ol.length kc, .int .i64 ox, .int .i64 oy, .int .i64 oh, .bool om] 49)).heap.size (wr.alloc (.cells #[.int .i64 op, .int .i64 oq, .int .i64 ov, .slice (some ⟨kb, ko, none⟩) ol.length kc, .int .i64 ox, .int .i64 oy, .int .i64 oh, .bool om] 49)) w2) (hrow : w2.ownsRow ((wr.alloc (.cells #[.int .i64 op, .int .i64 oq, .int .i64 ov, .slice (some ⟨kb, ko, none⟩) ol.length kc, .int .i64 ox, .int .i64 oy, .int .i64 oh, .bool om] 49)).heap.size + 1 + 1) 2 1 (.slice (some ⟨g, 0, none⟩) ol.length gc) ol.length (ints ol)) :
    ∃ g5 cap w5, (Builtin.append_ #[24, 24] 24 #[v, .slice (some ⟨w2.heap.size, 0, none⟩) 1 1]).run Tryd.prog ((((w2.setCell ⟨wr.heap.size, 3, none⟩ (.slice (some ⟨g, 0, none⟩) ol.length gc)).setCell ⟨wr.heap.size, 4, none⟩ (.int .i64 ox)).setCell ⟨wr.heap.size, 5, none⟩ (.int .i64 oy)).alloc (.cells #[.int .i64 op, .int .i64 oq, .int .i64 ov, .slice (some ⟨g, 0, none⟩) ol.length gc, .int .i64 ox, .int .i64 oy, .int .i64 oh, .bool om] 49)) = .ok (.slice (some ⟨g5, 0, none⟩) (j + 1) cap) w5 ∧
      Hid ((∃ kv', COwn w5 lo w5.heap.size (.slice (some ⟨g5, 0, none⟩) (j + 1) cap) (j + 1) f kv') ∧ Below lo wr w5) := by
  have hsz : (wr.alloc (.cells #[.int .i64 op, .int .i64 oq, .int .i64 ov, .slice (some ⟨kb, ko, none⟩) ol.length kc, .int .i64 ox, .int .i64 oy, .int .i64 oh, .bool om] 49)).heap.size = wr.heap.size + 1 := by simp
  have hb1 : Below wr.heap.size wr w2 := (below_box _).trans (hb.mono (by omega))
  have h2 : COwn w2 lo wr.heap.size v j f kv := h.below hb1
  have nv : v.ownBlock ≠ some wr.heap.size := fun e => by have := h.top _ e; omega
  have nk : ∀ i, i < j → (kv i).ownBlock ≠ some wr.heap.size := fun i hi e => by have := (h.keys i hi).2 _ e; omega
  have h3 := ((h2.set2 nv nk 3 (.slice (some ⟨g, 0, none⟩) ol.length gc)).set2 nv nk 4 (.int .i64 ox)).set2 nv nk 5 (.int .i64 oy)
  have h4 : COwn ((((w2.setCell ⟨wr.heap.size, 3, none⟩ (.slice (some ⟨g, 0, none⟩) ol.length gc)).setCell ⟨wr.heap.size, 4, none⟩ (.int .i64 ox)).setCell ⟨wr.heap.size, 5, none⟩ (.int .i64 oy)).alloc (.cells #[.int .i64 op, .int .i64 oq, .int .i64 ov, .slice (some ⟨g, 0, none⟩) ol.length gc, .int .i64 ox, .int .i64 oy, .int .i64 oh, .bool om] 49)) lo wr.heap.size v j f kv := h3.below (below_box _)
  have hs2 : wr.heap.size ≤ w2.heap.size := hb1.size
  have hsz4 : ((((w2.setCell ⟨wr.heap.size, 3, none⟩ (.slice (some ⟨g, 0, none⟩) ol.length gc)).setCell ⟨wr.heap.size, 4, none⟩ (.int .i64 ox)).setCell ⟨wr.heap.size, 5, none⟩ (.int .i64 oy)).alloc (.cells #[.int .i64 op, .int .i64 oq, .int .i64 ov, .slice (some ⟨g, 0, none⟩) ol.length gc, .int .i64 ox, .int .i64 oy, .int .i64 oh, .bool om] 49)).heap.size = w2.heap.size + 1 := by simp
  have hX : ((((w2.setCell ⟨wr.heap.size, 3, none⟩ (.slice (some ⟨g, 0, none⟩) ol.length gc)).setCell ⟨wr.heap.size, 4, none⟩ (.int .i64 ox)).setCell ⟨wr.heap.size, 5, none⟩ (.int .i64 oy)).alloc (.cells #[.int .i64 op, .int .i64 oq, .int .i64 ov, .slice (some ⟨g, 0, none⟩) ol.length gc, .int .i64 ox, .int .i64 oy, .int .i64 oh, .bool om] 49)).heap[w2.heap.size]? = some (.cells #[.int .i64 op, .int .i64 oq, .int .i64 ov, .slice (some ⟨g, 0, none⟩) ol.length gc, .int .i64 ox, .int .i64 oy, .int .i64 oh, .bool om] 49 (0, 0)) := by
    have := heap_alloc_new (((w2.setCell ⟨wr.heap.size, 3, none⟩ (.slice (some ⟨g, 0, none⟩) ol.length gc)).setCell ⟨wr.heap.size, 4, none⟩ (.int .i64 ox)).setCell ⟨wr.heap.size, 5, none⟩ (.int .i64 oy)) (.cells #[.int .i64 op, .int .i64 oq, .int .i64 ov, .slice (some ⟨g, 0, none⟩) ol.length gc, .int .i64 ox, .int .i64 oy, .int .i64 oh, .bool om] 49)
    simpa using this
  have st : ∀ (W : World) (i : Nat) (z : Value), W.ownsRow (wr.heap.size + 1) 2 1 (.slice (some ⟨g, 0, none⟩) ol.length gc) ol.length (ints ol) → (W.setCell ⟨wr.heap.size, i, none⟩ z).ownsRow (wr.heap.size + 1) 2 1 (.slice (some ⟨g, 0, none⟩) ol.length gc) ol.length (ints ol) := fun W i z hW => ownsRow_setCell_below hW (a := ⟨wr.heap.size, i, none⟩) (show wr.heap.size < _ by omega) z
  have hr4 : ((((w2.setCell ⟨wr.heap.size, 3, none⟩ (.slice (some ⟨g, 0, none⟩) ol.length gc)).setCell ⟨wr.heap.size, 4, none⟩ (.int .i64 ox)).setCell ⟨wr.heap.size, 5, none⟩ (.int .i64 oy)).alloc (.cells #[.int .i64 op, .int .i64 oq, .int .i64 ov, .slice (some ⟨g, 0, none⟩) ol.length gc, .int .i64 ox, .int .i64 oy, .int .i64 oh, .bool om] 49)).ownsRow (wr.heap.size + 1) 2 1 (.slice (some ⟨g, 0, none⟩) ol.length gc) ol.length (ints ol) := (st _ _ _ (st _ _ _ (st _ _ _ (Joins.ownsRow_le hrow (by omega))))).alloc _
  have hgl := (hr4.lt g rfl).1
  obtain ⟨g5, cap, w5, hrun, HC⟩ := coin_added (o := (⟨op, oq, ov, ol, ox, oy, oh, om⟩ : Co)) (h4.mono (by omega)) hX rfl (Joins.ownsRow_le hr4 (by omega)) (fun i hi b hb e => by
    have h6 := (h.keys i hi).2 b hb
    have h7 : g = b := (by simpa [Value.ownBlock] using e)
    omega) hj (by omega) hf
  refine ⟨g5, cap, w5, hrun, ⟨_, HC.out.1⟩, ?_⟩
  have c1 : Below wr.heap.size wr ((((w2.setCell ⟨wr.heap.size, 3, none⟩ (.slice (some ⟨g, 0, none⟩) ol.length gc)).setCell ⟨wr.heap.size, 4, none⟩ (.int .i64 ox)).setCell ⟨wr.heap.size, 5, none⟩ (.int .i64 oy)).alloc (.cells #[.int .i64 op, .int .i64 oq, .int .i64 ov, .slice (some ⟨g, 0, none⟩) ol.length gc, .int .i64 ox, .int .i64 oy, .int .i64 oh, .bool om] 49)) := (((hb1.setCell (p := ⟨wr.heap.size, 3, none⟩) (Nat.le_refl _) _).setCell (p := ⟨wr.heap.size, 4, none⟩) (Nat.le_refl _) _).setCell (p := ⟨wr.heap.size, 5, none⟩) (Nat.le_refl _) _).trans ((below_box _).mono (by simpa using hs2))
  obtain ⟨xs, hv1, _⟩ := h.row
  exact (c1.mono hlo).grown HC.out.2 (by omega) (fun k hk => (hv1.lt k hk).1)

set_option maxRecDepth 20000 in
set_option maxHeartbeats 2000000 in
theorem l4Copy_any (n c : Nat) (a : Option Addr) (cs : List Co) (w : World) (hn : n ≤ 100) (hk : ∀ j, j < n → coinR (cs.getD j C0) = 0) (hC : CAt w a n cs) :
    Calls Tryd.prog 68 #[.slice a n c] w fun e w' => ∃ v kv, e = .returned v ∧ COwn w' w.heap.size w'.heap.size v n (fun j => cs.getD j C0) kv ∧ Below w.heap.size w w' := by
  have HC : Hid (CAt w a n cs) := hC
  have HKL : Hid (∀ j, j < n → coinR (cs.getD j C0) = 0) := hk
  have HE : Hid ((w.alloc (.cells #[] 49)).heap[w.heap.size]? = some (.cells #[] 49 (0, 0))) := heap_alloc_new _ _
  clear hC hk
  go_enter Tryd.func68, Tryd.ntmps68
  go_wp2
  go_loopw [3, 4] (fun v i wr => ∃ j : Nat, j ≤ n ∧ i = .int .i64 j ∧ Hid (∃ kv, COwn wr w.heap.size wr.heap.size v j (fun j => cs.getD j C0) kv) ∧ Below w.heap.size w wr) (fun _ i _ => n - (intOf i).toNat)
  case atStart =>
    refine ⟨0, Nat.zero_le _, rfl, ⟨fun _ => .slice none 0 0, ⟨[], own_empty HE.out (Nat.le_refl _), fun j hj => (by omega)⟩, fun b hb => ?_, fun j hj => (by omega), fun i j _ hj => (by omega)⟩, below_box _⟩
    cases hb
    exact lt_of_block HE.out
  case round =>
    obtain ⟨j, hj, rfl, HO, hbel⟩ := hrel
    by_cases hlt : j < n
    · rcases HC.out.2 with h0 | ⟨b, off, e0, l0, d0⟩
      · omega
      subst e0
      obtain ⟨o, ho⟩ : ∃ o, o = cs.getD j C0 := ⟨_, rfl⟩
      obtain ⟨ka, kc, p0, p4, p5⟩ := d0 j hlt
      have hcr := HKL.out j hlt
      rw [← ho] at p0 p4 p5 hcr
      obtain ⟨_, _, g3, g4⟩ := coin_more hcr
      obtain ⟨op, oq, ov, ol, ox, oy, oh, om⟩ := o
      have HS : Hid (cs.getD j C0 = (⟨op, oq, ov, ol, ox, oy, oh, om⟩ : Co)) := ho.symm
      simp only at p0 p4 p5 g3 g4
      rcases p5.2 with h0 | ⟨kb, ko, ek, hkl, _⟩
      · omega
      subst ek
      obtain ⟨x0, x1, x2, x3, x4, x5, x6, x7⟩ := p0.below hbel l0
      simp only at x0 x1 x2 x3 x4 x5 x6 x7
      have hbx : Below wr.heap.size wr (wr.alloc (.cells #[.int .i64 op, .int .i64 oq, .int .i64 ov, .slice (some ⟨kb, ko, none⟩) ol.length kc, .int .i64 ox, .int .i64 oy, .int .i64 oh, .bool om] 49)) := below_box _
      have hcp := l2Copy_any kb ko ol.length kc ol ox oy (wr.alloc (.cells #[.int .i64 op, .int .i64 oq, .int .i64 ov, .slice (some ⟨kb, ko, none⟩) ol.length kc, .int .i64 ox, .int .i64 oy, .int .i64 oh, .bool om] 49)) (by omega) ((p5.below hbel (Nat.le_refl _)).below hbx (Nat.le_refl _))
      have HX : Hid ((wr.alloc (.cells #[.int .i64 op, .int .i64 oq, .int .i64 ov, .slice (some ⟨kb, ko, none⟩) ol.length kc, .int .i64 ox, .int .i64 oy, .int .i64 oh, .bool om] 49)).heap[wr.heap.size]? = some (.cells #[.int .i64 op, .int .i64 oq, .int .i64 ov, .slice (some ⟨kb, ko, none⟩) ol.length kc, .int .i64 ox, .int .i64 oy, .int .i64 oh, .bool om] 49 (0, 0))) := heap_alloc_new _ _
      clear ho d0 p0 p4 p5 hcr g3 g4 hbx
      have hki : (j : Int) < (n : Int) := by omega
      go_wp2_with (first
        | (go_at_call 69; (with_reducible refine hcp.mono ?_); clear hcp; rintro e w2 ⟨g, gc, rfl, hrow, hb2⟩; obtain ⟨kv, hO⟩ := HO.out; obtain ⟨g5, cap, w5, hrun, HC5⟩ := copy_mid hO HS.out (by omega) hbel.size hb2 hrow; obtain ⟨⟨s0, s1, s2, s3, s4, s5, s6, s7⟩, f0, f1, f2, f3, f4, f5, f6, f7⟩ := cells8 (keepb HX.out hb2).out; clear hrow hb2 hO)
        | (at_builtin; go_must (refine wpList_append_runC (by rfl) _ _ _ (by rfl) (by rfl) (by rfl) hrun ?_); clear hrun))
      go_roundw
      case rel => exact ⟨j + 1, by omega, by go_num, HC5.out.1, hbel.trans HC5.out.2⟩
      case measure => simp [intOf]; omega
    · obtain rfl : j = n := by omega
      go_wp2
      go_ret
      obtain ⟨kv, hO⟩ := HO.out
      exact ⟨_, kv, rfl, hO, hbel⟩

end Go.Proofs.YtlcdhhaikhieiaaDoor

namespace Go.Proofs.YtlcdhhaikhieiaaDoor
open Go.RowKit Go.Maps Go.WideMaps

/-- An append in a region, out of its own run. -/
theorem step_append_runD {P : Program} {w : World} {ops : Array Oper} {o : Oper} {a : Act} {K : Act → World → Prop} {Q : Exit → Act → World → Prop} {E : Prop} (hgd : o.guard = none) (s x : Operand) (t : TypeId)
    (hop : o.op = .call { callee := .builtin .append, args := #[s, x], argTypes := #[t, t] }) {v u v' : Value} {w' : World} (hs : a.eval s = v) (hx : a.eval x = u) (hrun : (Builtin.append_ #[t, t] o.type #[v, u]).run P w = .ok v' w') (h : K (a.put o.dst v') w') :
    if Region.wanted o (yielded ops a.tmps) = true then Oper.wp P o a w K Q else E := by
  rw [if_pos (by simp [Region.wanted, hgd])]
  unfold Oper.wp
  simp [execOp, hop, resolve, invoke, builtin, hs, hx, hrun, Result.andThen]
  exact h

theorem one_row {w : World} {lo hi n : Nat} {v : Value} {f : Nat → Co} {kv : Nat → Value} {xs : List Value} (h : COwn w lo hi v n f kv) (hl : xs.length = n * 8) (hc : ∀ j, j < n → CellsC xs j (f j) (kv j)) : ∀ u ∈ xs, u.oneCell' = true := by
  intro u hu
  obtain ⟨t, ht, e⟩ := List.getElem_of_mem hu
  have e2 : xs[t]? = some u := by rw [List.getElem?_eq_getElem ht, e]
  obtain ⟨a0, a1, a2, a3, a4, a5, a6, a7⟩ := hc (t / 8) (by omega)
  have hk : (kv (t / 8)).oneCell' = true := by
    rcases (h.keys (t / 8) (by omega)).1.2 with ⟨e1, _⟩ | ⟨g, c, cur, e1, _⟩ <;> rw [e1] <;> rfl
  have hd : t = t / 8 * 8 + t % 8 := by omega
  have h8 : t % 8 = 0 ∨ t % 8 = 1 ∨ t % 8 = 2 ∨ t % 8 = 3 ∨ t % 8 = 4 ∨ t % 8 = 5 ∨ t % 8 = 6 ∨ t % 8 = 7 := by omega
  rw [hd] at e2
  rcases h8 with h8 | h8 | h8 | h8 | h8 | h8 | h8 | h8 <;> rw [h8] at e2
  · rw [Nat.add_zero, a0] at e2; cases e2; rfl
  · rw [a1] at e2; cases e2; rfl
  · rw [a2] at e2; cases e2; rfl
  · rw [a3] at e2; cases e2; exact hk
  · rw [a4] at e2; cases e2; rfl
  · rw [a5] at e2; cases e2; rfl
  · rw [a6] at e2; cases e2; rfl
  · rw [a7] at e2; cases e2; rfl

/-- A part of a row of coins is appended to another. -/
theorem part_added {W : World} {lo lo' k g n cap off m o8 : Nat} {v : Value} {ys xs : List Value} (hv : W.ownsRow lo 49 8 v k ys) (hx : W.ownsRow lo' 49 8 (.slice (some ⟨g, 0, none⟩) n cap) n xs) (h1 : ∀ u ∈ xs, u.oneCell' = true) (hom : off + m ≤ n) (hb : k + m ≤ 1000) (hlo : lo ≤ W.heap.size) (ho8 : o8 = off * 8 ∨ m = 0) :
    ∃ v' w', (∀ c, (Builtin.append_ #[24, 24] 24 #[v, .slice (some ⟨g, o8, none⟩) m c]).run Tryd.prog W = .ok v' w') ∧ w'.ownsRow lo 49 8 v' (k + m) (ys ++ (xs.drop (off * 8)).take (m * 8)) ∧ W.grownBy w' v.ownBlock ∧ (v' = .slice none 0 0 ↔ v = .slice none 0 0 ∧ m = 0) := by
  obtain ⟨i0, hi, hz0, hz1, hz2⟩ := info_parts Tryd.infoCoin
  have hl := hx.1
  have hnl : ((xs.drop (off * 8)).take (m * 8)).length = m * 8 := by rw [List.length_take, List.length_drop, hl]; omega
  have hnew : ∀ j u, ((xs.drop (off * 8)).take (m * 8))[j]? = some u → W.cell? ((⟨g, o8, none⟩ : Addr).add j) = some u := fun j u hj => by
    have hjm : j < m * 8 := by
      have := (List.getElem?_eq_some_iff.1 hj).1
      rw [hnl] at this
      exact this
    rw [List.getElem?_take_of_lt hjm, List.getElem?_drop] at hj
    have ho : o8 = off * 8 := by rcases ho8 with h | h <;> omega
    have ea : (⟨g, o8, none⟩ : Addr).add j = ⟨g, off * 8 + j, none⟩ := by simp [Addr.add, ho]
    rw [ea, hx.cellAt (off * 8 + j) (by omega)]
    exact hj
  have hone : ∀ u ∈ (xs.drop (off * 8)).take (m * 8), u.oneCell' = true := fun u hu => h1 u (List.mem_of_mem_drop (List.mem_of_mem_take hu))
  obtain ⟨v', w', hrun, hown', hgrow, hnil⟩ := run_append_own (P := Tryd.prog) W lo 24 24 49 i0 (.agg #[.int .i64 0, .int .i64 0, .int .i64 0, .slice none 0 0, .int .i64 0, .int .i64 0, .int .i64 0, .bool false]) 8 80 Tryd.underlying24 hi hz0 hz1 hz2 rfl (by decide) v k ys hv ⟨g, o8, none⟩ m 0 _ hnl hnew hone (by unfold maxLen; omega) (by omega) hlo
  exact ⟨v', w', fun c => hrun, hown', hgrow, hnil⟩

theorem rows_keep {W w' : World} {lo k d : Nat} {v z : Value} {ys zs : List Value} (hg : W.grownBy w' v.ownBlock) (hv : W.ownsRow lo 49 8 v k ys) (hz : W.ownsRow lo 2 1 z d zs) : w'.ownsRow lo 2 1 z d zs :=
  hz.kept hg (by
    cases e : z.ownBlock with
    | none => exact .inl rfl
    | some b => exact .inr fun e2 => rows_apart (by decide) hv hz b e2.symm e)

end Go.Proofs.YtlcdhhaikhieiaaDoor

namespace Go.Proofs.YtlcdhhaikhieiaaDoor
open Go.RowKit Go.Maps Go.WideMaps

theorem cmpR_negP {a b c d : Int} : cmpR (a, b) (c, d) < 0 ↔ 0 < cmpR (c, d) (a, b) := by rw [cmpR_neg, cmpR_pos]
theorem addC_split {x : Co} : ∀ {ts : List Co} {k : Nat}, k ≤ ts.length → (∀ t, t < k → 0 < cmpR (x.p, x.q) ((ts.getD t C0).p, (ts.getD t C0).q)) → (k < ts.length → ¬ 0 < cmpR (x.p, x.q) ((ts.getD k C0).p, (ts.getD k C0).q)) → addC ts x = ts.take k ++ x :: ts.drop k
  | [], k, hk, _, _ => by simp at hk; subst hk; rfl
  | a :: l, 0, _, _, h2 => by
    have this : ¬ 0 < cmpR (x.p, x.q) (a.p, a.q) := h2 (by simp)
    unfold addC
    rw [if_neg (fun e => this (cmpR_negP.1 e))]
    rfl
  | a :: l, k + 1, hk, h1, h2 => by
    have h0 : 0 < cmpR (x.p, x.q) (a.p, a.q) := h1 0 (by omega)
    unfold addC
    rw [if_pos (cmpR_negP.2 h0), addC_split (k := k) (by simpa using hk) (fun t ht => h1 (t + 1) (by omega)) (fun h => h2 (by simpa using h))]
    rfl
theorem put_get {ts : List Co} {x : Co} {n k j : Nat} (hn : ts.length = n) (hk : k ≤ n) : (ts.take k ++ x :: ts.drop k).getD j C0 = if j < k then ts.getD j C0 else if j = k then x else ts.getD (j - 1) C0 := by
  have hl : (ts.take k).length = k := by rw [List.length_take]; omega
  simp only [List.getD]
  by_cases h1 : j < k
  · rw [if_pos h1, List.getElem?_append_left (by omega), List.getElem?_take_of_lt h1]
  · rw [if_neg h1, List.getElem?_append_right (by omega), hl]
    by_cases h2 : j = k
    · subst h2; rw [if_pos rfl]; simp
    · rw [if_neg h2]
      obtain ⟨d, hd⟩ : ∃ d, j - k = d + 1 := ⟨j - k - 1, by omega⟩
      rw [hd, List.getElem?_cons_succ, List.getElem?_drop]
      congr 2
      omega

/-- Whose keys they are: the new coin's or an older one's. -/
def FromK (kv' kv : Nat → Value) (ku : Value) (n : Nat) : Prop := ∀ i, i < n + 1 → kv' i = ku ∨ ∃ t, t < n ∧ kv' i = kv t

set_option maxHeartbeats 2000000 in
/-- A coin is put into a list of coins: the three appends, and what they leave. -/
theorem coin_put {W : World} {lo X g n cap k o8 : Nat} {ts : List Co} {kv : Nat → Value} {x : Co} {ku : Value} (hl : ts.length = n) (h : COwn W lo X (.slice (some ⟨g, 0, none⟩) n cap) n (fun j => ts.getD j C0) kv) (hX : W.heap[X]? = some (.cells #[] 49 (0, 0))) (hlo : lo ≤ X) (hk : k ≤ n) (hn : n ≤ 500)
    (hku : W.ownsRow lo 2 1 ku x.l.length (ints x.l)) (hku1 : ku.oneCell' = true) (hap : ∀ i, i < n → ∀ b, (kv i).ownBlock = some b → ku.ownBlock ≠ some b) (ho8 : o8 = k * 8 ∨ n = k) :
    ∃ g1 c1 w3 g2 c2 w5 g3 c3 w6, (∀ c, (Builtin.append_ #[24, 24] 24 #[.slice (some ⟨X, 0, none⟩) 0 0, .slice (some ⟨g, 0, none⟩) k c]).run Tryd.prog W = .ok (.slice (some ⟨g1, 0, none⟩) k c1) w3) ∧
      ((Builtin.append_ #[24, 24] 24 #[.slice (some ⟨g1, 0, none⟩) k c1, .slice (some ⟨w3.heap.size, 0, none⟩) 1 1]).run Tryd.prog (w3.alloc (.cells #[.int .i64 x.p, .int .i64 x.q, .int .i64 x.v, ku, .int .i64 x.x, .int .i64 x.y, .int .i64 x.h, .bool x.m] 49)).drew = .ok (.slice (some ⟨g2, 0, none⟩) (k + 1) c2) w5) ∧
      (∀ c m, m = n - k → (Builtin.append_ #[24, 24] 24 #[.slice (some ⟨g2, 0, none⟩) (k + 1) c2, .slice (some ⟨g, o8, none⟩) m c]).run Tryd.prog w5 = .ok (.slice (some ⟨g3, 0, none⟩) (n + 1) c3) w6) ∧
      W.grownBy w3 (some X) ∧ Hid ((∃ kv', COwn w6 lo w6.heap.size (.slice (some ⟨g3, 0, none⟩) (n + 1) c3) (n + 1) (fun j => (ts.take k ++ x :: ts.drop k).getD j C0) kv' ∧ FromK kv' kv ku n) ∧ Below X W w6) := by
  obtain ⟨xs, hrow, hc⟩ := h.row
  have hone := one_row h hrow.1 hc
  have hXl := lt_of_block hX
  have hgX : g < X := h.top g rfl
  have hE := own_empty (base := X) (size := 8) hX (Nat.le_refl _)
  -- the first append
  obtain ⟨v1, w3, hr1, ho1, hg1, hn1⟩ := part_added (off := 0) (m := k) (o8 := 0) hE hrow hone (by omega) (by omega) (by omega) (by omega)
  have e1 : v1 ≠ .slice none 0 0 := fun e => by have := (hn1.1 e).1; cases this
  rw [Nat.zero_add, Nat.zero_mul, List.drop_zero, List.nil_append] at ho1
  obtain ⟨g1, c1, rfl⟩ : ∃ g1 c1, v1 = .slice (some ⟨g1, 0, none⟩) k c1 := by
    rcases ho1.2 with ⟨e, _⟩ | ⟨g1, c1, cur, e, _⟩
    · exact absurd e e1
    · exact ⟨g1, c1, e⟩
  have hg1X : X ≤ g1 := (ho1.lt g1 rfl).1
  have hrow3 : w3.ownsRow lo 49 8 (.slice (some ⟨g, 0, none⟩) n cap) n xs := hrow.kept hg1 (.inr (by
    intro e
    have e2 : some g = some X := e
    have := Option.some.inj e2
    omega))
  have hs3 := hg1.size
  have hElo := Joins.ownsRow_le hE hlo
  have b3 : Below X W w3 := (Below.refl X W).grown hg1 (by omega) (fun b e => by
    have e2 : some X = some b := e
    cases e2
    exact Nat.le_refl _)
  -- the coin in its block
  have hbx : Below w3.heap.size w3 (w3.alloc (.cells #[.int .i64 x.p, .int .i64 x.q, .int .i64 x.v, ku, .int .i64 x.x, .int .i64 x.y, .int .i64 x.h, .bool x.m] 49)).drew := (below_box _).trans ((Below.refl _ _).drew)
  have hs4 : (w3.alloc (.cells #[.int .i64 x.p, .int .i64 x.q, .int .i64 x.v, ku, .int .i64 x.x, .int .i64 x.y, .int .i64 x.h, .bool x.m] 49)).drew.heap.size = w3.heap.size + 1 := by simp
  have hX4 : (w3.alloc (.cells #[.int .i64 x.p, .int .i64 x.q, .int .i64 x.v, ku, .int .i64 x.x, .int .i64 x.y, .int .i64 x.h, .bool x.m] 49)).drew.heap[w3.heap.size]? = some (.cells #[.int .i64 x.p, .int .i64 x.q, .int .i64 x.v, ku, .int .i64 x.x, .int .i64 x.y, .int .i64 x.h, .bool x.m] 49 (0, 0)) := heap_alloc_new w3 (.cells #[.int .i64 x.p, .int .i64 x.q, .int .i64 x.v, ku, .int .i64 x.x, .int .i64 x.y, .int .i64 x.h, .bool x.m] 49)
  have ho4 : (w3.alloc (.cells #[.int .i64 x.p, .int .i64 x.q, .int .i64 x.v, ku, .int .i64 x.x, .int .i64 x.y, .int .i64 x.h, .bool x.m] 49)).drew.ownsRow X 49 8 (.slice (some ⟨g1, 0, none⟩) k c1) k (xs.take (k * 8)) := ho1.kept (grown_of_below hbx) (by cases Value.ownBlock (.slice (some ⟨g1, 0, none⟩) k c1) <;> simp)
  have hrow4 : (w3.alloc (.cells #[.int .i64 x.p, .int .i64 x.q, .int .i64 x.v, ku, .int .i64 x.x, .int .i64 x.y, .int .i64 x.h, .bool x.m] 49)).drew.ownsRow lo 49 8 (.slice (some ⟨g, 0, none⟩) n cap) n xs := hrow3.kept (grown_of_below hbx) (by cases Value.ownBlock (.slice (some ⟨g, 0, none⟩) n cap) <;> simp)
  -- the second append
  obtain ⟨i0, hi, hz0, hz1, hz2⟩ := info_parts Tryd.infoCoin
  obtain ⟨v2, w5, hr2, ho5, hg5, hn5⟩ := run_append_own (P := Tryd.prog) (w3.alloc (.cells #[.int .i64 x.p, .int .i64 x.q, .int .i64 x.v, ku, .int .i64 x.x, .int .i64 x.y, .int .i64 x.h, .bool x.m] 49)).drew X 24 24 49 i0 (.agg #[.int .i64 0, .int .i64 0, .int .i64 0, .slice none 0 0, .int .i64 0, .int .i64 0, .int .i64 0, .bool false]) 8 80 Tryd.underlying24 hi hz0 hz1 hz2 rfl (by decide) _ k _ ho4 ⟨w3.heap.size, 0, none⟩ 1 1 ([.int .i64 x.p, .int .i64 x.q, .int .i64 x.v, ku, .int .i64 x.x, .int .i64 x.y, .int .i64 x.h, .bool x.m] : List Value) rfl (World.news_of_block hX4) (by
    intro z hz
    simp only [List.mem_cons, List.not_mem_nil, or_false] at hz
    rcases hz with rfl | rfl | rfl | rfl | rfl | rfl | rfl | rfl <;> first | rfl | exact hku1) (by unfold maxLen; omega) (by omega) (by omega)
  obtain ⟨g2, c2, rfl⟩ := ownsRow_succ ho5
  have hs5 := hg5.size
  have hrow5 : w5.ownsRow lo 49 8 (.slice (some ⟨g, 0, none⟩) n cap) n xs := hrow4.kept hg5 (.inr (by
    intro e
    have e2 : some g = some g1 := e
    have := Option.some.inj e2
    omega))
  -- the third append
  obtain ⟨v3, w6, hr3, ho6, hg6, hn6⟩ := part_added (off := k) (m := n - k) (o8 := o8) ho5 hrow5 hone (by omega) (by omega) (by omega) (by omega)
  have e3 : v3 ≠ .slice none 0 0 := fun e => by have := (hn6.1 e).1; cases this
  have hkn : k + 1 + (n - k) = n + 1 := by omega
  rw [hkn] at ho6
  obtain ⟨g3, c3, rfl⟩ : ∃ g3 c3, v3 = .slice (some ⟨g3, 0, none⟩) (n + 1) c3 := by
    rcases ho6.2 with ⟨e, _⟩ | ⟨g3, c3, cur, e, _⟩
    · exact absurd e e3
    · exact ⟨g3, c3, e⟩
  have kp : ∀ (z : Value) (d : Nat) (zs : List Value), W.ownsRow lo 2 1 z d zs → w6.ownsRow lo 2 1 z d zs := fun z d zs hz =>
    rows_keep hg6 (Joins.ownsRow_le ho5 hlo) (rows_keep hg5 (Joins.ownsRow_le ho4 hlo) ((rows_keep hg1 hElo hz).kept (grown_of_below hbx) (by cases Value.ownBlock z <;> simp)))
  refine ⟨g1, c1, w3, g2, c2, w5, g3, c3, w6, hr1, hr2, fun c m hm => ?_, hg1, ⟨⟨fun j => if j < k then kv j else if j = k then ku else kv (j - 1), ⟨⟨_, Joins.ownsRow_le ho6 hlo, fun j hj => ?_⟩, fun b hb => (ho6.lt b hb).2, fun j hj => ?_, fun i j hij hj b hb => ?_⟩, fun i hi => ?_⟩, ?_⟩⟩
  · subst hm
    exact hr3 c
  · have hxl := hrow.1
    have hlt : (xs.take (k * 8)).length = k * 8 := by rw [List.length_take]; omega
    show CellsC _ j ((ts.take k ++ x :: ts.drop k).getD j C0) (if j < k then kv j else if j = k then ku else kv (j - 1))
    rw [put_get hl hk]
    by_cases e : j < k
    · rw [if_pos e, if_pos e]
      obtain ⟨a0, a1, a2, a3, a4, a5, a6, a7⟩ := hc j (by omega)
      have gg : ∀ i, i < 8 → (xs.take (k * 8) ++ ([.int .i64 x.p, .int .i64 x.q, .int .i64 x.v, ku, .int .i64 x.x, .int .i64 x.y, .int .i64 x.h, .bool x.m] : List Value) ++ (xs.drop (k * 8)).take ((n - k) * 8))[j * 8 + i]? = xs[j * 8 + i]? := fun i hi => by
        rw [List.append_assoc, List.getElem?_append_left (by omega), List.getElem?_take_of_lt (by omega)]
      exact ⟨(gg 0 (by omega)).trans a0, (gg 1 (by omega)).trans a1, (gg 2 (by omega)).trans a2, (gg 3 (by omega)).trans a3, (gg 4 (by omega)).trans a4, (gg 5 (by omega)).trans a5, (gg 6 (by omega)).trans a6, (gg 7 (by omega)).trans a7⟩
    · rw [if_neg e, if_neg e]
      by_cases e2 : j = k
      · subst e2
        rw [if_pos rfl, if_pos rfl]
        have gg : ∀ i, i < 8 → (xs.take (j * 8) ++ ([.int .i64 x.p, .int .i64 x.q, .int .i64 x.v, ku, .int .i64 x.x, .int .i64 x.y, .int .i64 x.h, .bool x.m] : List Value) ++ (xs.drop (j * 8)).take ((n - j) * 8))[j * 8 + i]? = ([.int .i64 x.p, .int .i64 x.q, .int .i64 x.v, ku, .int .i64 x.x, .int .i64 x.y, .int .i64 x.h, .bool x.m] : List Value)[i]? := fun i hi => by
          rw [List.append_assoc, List.getElem?_append_right (by omega), hlt, Nat.add_sub_cancel_left, List.getElem?_append_left (by simpa using hi)]
        exact ⟨gg 0 (by omega), gg 1 (by omega), gg 2 (by omega), gg 3 (by omega), gg 4 (by omega), gg 5 (by omega), gg 6 (by omega), gg 7 (by omega)⟩
      · rw [if_neg e2, if_neg e2]
        obtain ⟨a0, a1, a2, a3, a4, a5, a6, a7⟩ := hc (j - 1) (by omega)
        have gg : ∀ i, i < 8 → (xs.take (k * 8) ++ ([.int .i64 x.p, .int .i64 x.q, .int .i64 x.v, ku, .int .i64 x.x, .int .i64 x.y, .int .i64 x.h, .bool x.m] : List Value) ++ (xs.drop (k * 8)).take ((n - k) * 8))[j * 8 + i]? = xs[(j - 1) * 8 + i]? := fun i hi => by
          have hl2 : (xs.take (k * 8) ++ ([.int .i64 x.p, .int .i64 x.q, .int .i64 x.v, ku, .int .i64 x.x, .int .i64 x.y, .int .i64 x.h, .bool x.m] : List Value)).length = k * 8 + 8 := by rw [List.length_append, hlt]; rfl
          rw [List.getElem?_append_right (by omega), hl2, List.getElem?_take_of_lt (by omega), List.getElem?_drop]
          rw [show k * 8 + (j * 8 + i - (k * 8 + 8)) = (j - 1) * 8 + i by omega]
        exact ⟨(gg 0 (by omega)).trans a0, (gg 1 (by omega)).trans a1, (gg 2 (by omega)).trans a2, (gg 3 (by omega)).trans a3, (gg 4 (by omega)).trans a4, (gg 5 (by omega)).trans a5, (gg 6 (by omega)).trans a6, (gg 7 (by omega)).trans a7⟩
  · show w6.ownsRow lo 2 1 (if j < k then kv j else if j = k then ku else kv (j - 1)) ((ts.take k ++ x :: ts.drop k).getD j C0).l.length (ints ((ts.take k ++ x :: ts.drop k).getD j C0).l) ∧ _
    rw [put_get hl hk]
    by_cases e : j < k
    · rw [if_pos e, if_pos e]
      have := kp _ _ _ (h.keys j (by omega)).1
      exact ⟨this, fun b hb => (this.lt b hb).2⟩
    · rw [if_neg e, if_neg e]
      by_cases e2 : j = k
      · rw [if_pos e2, if_pos e2]
        have := kp _ _ _ hku
        exact ⟨this, fun b hb => (this.lt b hb).2⟩
      · rw [if_neg e2, if_neg e2]
        have := kp _ _ _ (h.keys (j - 1) (by omega)).1
        exact ⟨this, fun b hb => (this.lt b hb).2⟩
  · show (if j < k then kv j else if j = k then ku else kv (j - 1)).ownBlock ≠ some b
    change (if i < k then kv i else if i = k then ku else kv (i - 1)).ownBlock = some b at hb
    by_cases ei : i < k
    · rw [if_pos ei] at hb
      by_cases ej : j < k
      · rw [if_pos ej]; exact h.apart i j hij (by omega) b hb
      · rw [if_neg ej]
        by_cases ej2 : j = k
        · rw [if_pos ej2]; exact hap i (by omega) b hb
        · rw [if_neg ej2]; exact h.apart i (j - 1) (by omega) (by omega) b hb
    · rw [if_neg ei] at hb
      rw [if_neg (by omega), if_neg (by omega)]
      by_cases ei2 : i = k
      · rw [if_pos ei2] at hb
        exact fun e => hap (j - 1) (by omega) b e hb
      · rw [if_neg ei2] at hb
        exact h.apart (i - 1) (j - 1) (by omega) (by omega) b hb
  · show (if i < k then kv i else if i = k then ku else kv (i - 1)) = ku ∨ ∃ t, t < n ∧ (if i < k then kv i else if i = k then ku else kv (i - 1)) = kv t
    by_cases e : i < k
    · rw [if_pos e]; exact .inr ⟨i, by omega, rfl⟩
    · rw [if_neg e]
      by_cases e2 : i = k
      · rw [if_pos e2]; exact .inl rfl
      · rw [if_neg e2]; exact .inr ⟨i - 1, by omega, rfl⟩
  · have b4 := b3.trans (hbx.mono (by omega))
    have b5 := b4.trans ((Below.refl X _).grown hg5 (by omega) (fun b e => (ho4.lt b e).1))
    exact b5.trans ((Below.refl X w5).grown hg6 (by omega) (fun b e => (ho5.lt b e).1))

end Go.Proofs.YtlcdhhaikhieiaaDoor

namespace Go.Proofs.YtlcdhhaikhieiaaDoor
open Go.RowKit Go.Maps Go.WideMaps

theorem get_mem {ts : List Co} {m j : Nat} (hl : ts.length = m) (hj : j < m) : ts.getD j C0 ∈ ts := by
  rw [List.getD, List.getElem?_eq_getElem (by omega)]; exact List.getElem_mem _
theorem own_at2 {w : World} {lo hi n : Nat} {a : Option Addr} {c : Nat} {cs : List Co} {kv : Nat → Value} (h : COwn w lo hi (.slice a n c) n (fun j => cs.getD j C0) kv) (hn : cs.length = n) (hl : ∀ j, j < n → (cs.getD j C0).l.length ≤ 1048576) : CAt w a n cs := by
  obtain ⟨a', c', e, h2⟩ := h.at hn (fun j _ => rfl) hl
  cases e
  exact h2

end Go.Proofs.YtlcdhhaikhieiaaDoor
