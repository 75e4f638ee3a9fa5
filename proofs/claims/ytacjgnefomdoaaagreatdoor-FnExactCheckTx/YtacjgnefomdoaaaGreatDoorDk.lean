/- The purse tells its coins, rising by their refs. The program takes coins out of its purse. The program's TakeCoins keeps its contract. A transaction is taken back: what it comes to, without a world. The specification's CoinAt. The specification's TakeCoins. -/
import Derived.Test.YtacjgnefomdoaaaGreatDoorDf
import Derived.Test.YtacjgnefomdoaaaGreatDoorCy
import Derived.Test.YtacjgnefomdoaaaGreatDoorDe
import Derived.Maps.RangeWalk
import Derived.Test.YtacjgnefomdoaaaGreatDoorTxA
import Derived.Test.YtacjgnefomdoaaaGreatDoorRu
import Derived.Test.YtacjgnefomdoaaaGreatDoorTxS
namespace Go.Proofs.YtacjgnefomdoaaaGreatDoor
open Go.RowKit Go.Maps Go.WideMaps Go.Shelf

theorem sortAny (v : Value) (base : Nat) (ss : List SC) (w : World) (h : w.ownsRow base 86 8 v ss.length (ss.flatMap cellsC)) (hlen : ss.length ≤ 1000) :
    Calls Tryz.prog 150 #[v, .func (.func 135) #[] #[]] w fun e w' => e = .returned (.tuple #[]) ∧
      ∃ ts : List SC, ts.Perm ss ∧ (ts.Pairwise fun x y => ltOf cfC y x = false) ∧ w'.ownsRow base 86 8 v ss.length (ts.flatMap cellsC) ∧ w.grownBy w' v.ownBlock := by
  rcases id h.2 with ⟨rfl, h0⟩ | ⟨g, cap, cur, rfl, _⟩
  · have hn := AnyF.slices_SortFunc_none Tryz.sortC none 0 (.func (.func 135) #[] #[]) w
    refine Calls.mono (show Calls Tryz.prog 150 #[.slice none 0 0, .func (.func 135) #[] #[]] w _ from hn) ?_
    rintro e w' ⟨rfl, rfl⟩
    have hs : ss = [] := List.eq_nil_of_length_eq_zero h0
    subst hs
    exact ⟨rfl, [], List.Perm.refl _, List.Pairwise.nil, h, World.grownBy.refl _ _⟩
  · exact sortC_any g cap base ss w h hlen

theorem length_all {ps : List (Co × Value)} {ss : List SC} (h : AllC ps ss) : ss.length ≤ ps.length := by
  obtain ⟨h1, h2, _⟩ := h
  have h3 : (ss.map Subtype.val).Pairwise (fun x y => refOf x ≠ refOf y) := by rw [List.pairwise_map]; exact h2
  have h4 : ∀ x ∈ ss.map Subtype.val, x ∈ ps := fun x hx => by
    obtain ⟨y, hy, rfl⟩ := List.mem_map.1 hx
    exact h1 y hy
  have key : ∀ (l : List (Co × Value)) (ps : List (Co × Value)), l.Pairwise (fun x y => refOf x ≠ refOf y) → (∀ x ∈ l, x ∈ ps) → l.length ≤ ps.length := by
    intro l
    induction l with
    | nil => intro ps _ _; simp
    | cons a t ih =>
      intro ps hp hm
      rw [List.pairwise_cons] at hp
      obtain ⟨s1, s2, rfl⟩ := List.append_of_mem (hm a (by simp))
      have := ih (s1 ++ s2) hp.2 fun x hx => by
        have h5 := hm x (by simp [hx])
        have h6 : x ≠ a := fun e => hp.1 x hx (by rw [e])
        simp at h5 ⊢
        rcases h5 with h5 | h5 | h5
        · exact .inl h5
        · exact absurd h5 h6
        · exact .inr h5
      simp at this ⊢
      omega
  simpa using key _ ps h3 h4

set_option maxHeartbeats 1000000 in
theorem sortedFunc_any (Bm b lo : Nat) (ps : List (Co × Value)) (w : World) (hps : ps.length ≤ 1000) (hBm : Bm < w.heap.size) (hm : w.cell? ⟨Bm, 0, none⟩ = some (.map (some b))) (hP : Pu w lo b ps) :
    Calls Tryz.prog 133 #[.func (.func 151) #[] #[.pointer (some ⟨Bm, 0, none⟩)], .func (.func 135) #[] #[]] w fun e w' =>
      ∃ (v : Value) (ts : List SC), e = .returned v ∧ Hid (AllC ps ts ∧ (ts.Pairwise fun x y => ltOf cfC y x = false) ∧ w'.ownsRow w.heap.size 86 8 v ts.length (ts.flatMap cellsC) ∧ Below w.heap.size w w') := by
  have hc : Calls Tryz.prog 149 #[.func (.func 151) #[] #[.pointer (some ⟨Bm, 0, none⟩)]] w fun e w' => ∃ v, e = .returned v ∧ Hid (∃ ss : List SC, AllC ps ss ∧ w'.ownsRow w.heap.size 86 8 v ss.length (ss.flatMap cellsC) ∧ Below w.heap.size w w') :=
    (collectC Bm b lo ps w hps hBm hm hP).mono fun e w' ⟨v, ss, h1, h2, h3, _, h5⟩ => ⟨v, h1, ss, h2, h3, h5⟩
  have hs : ∀ v w1, Hid (∃ ss : List SC, AllC ps ss ∧ w1.ownsRow w.heap.size 86 8 v ss.length (ss.flatMap cellsC) ∧ Below w.heap.size w w1) → Calls Tryz.prog 150 #[v, .func (.func 135) #[] #[]] w1 fun e w' => e = .returned (.tuple #[]) ∧ Hid (∃ ts : List SC, AllC ps ts ∧ (ts.Pairwise fun x y => ltOf cfC y x = false) ∧ w'.ownsRow w.heap.size 86 8 v ts.length (ts.flatMap cellsC) ∧ Below w.heap.size w w') := fun v w1 h => by
    obtain ⟨ss, h1, h2, h3⟩ := h.out
    refine (sortAny v w.heap.size ss w1 h2 (Nat.le_trans (length_all h1) hps)).mono ?_
    rintro e w' ⟨rfl, ts, q1, q2, q3, q4⟩
    refine ⟨rfl, ts, ⟨fun x hx => h1.1 x (q1.mem_iff.1 hx), ?_, fun x hx => ?_⟩, q2, by rw [q1.length_eq]; exact q3, h3.grown q4 h3.size (fun k e => (h2.lt k e).1)⟩
    · exact (q1.pairwise_iff (fun {a b} (h : refOf a.1 ≠ refOf b.1) => h.symm)).2 h1.2.1
    · obtain ⟨y, hy, e⟩ := h1.2.2 x hx
      exact ⟨y, q1.mem_iff.2 hy, e⟩
  clear hP hm
  go_enter Tryz.func133, Tryz.ntmps133
  go_wp2_with (first
    | (go_at_call 149; (with_reducible refine hc.mono ?_); clear hc; rintro e w1 ⟨v, rfl, HS⟩; have hs' := hs v w1 HS; clear hs)
    | (go_at_call 150; (with_reducible refine hs'.mono ?_); clear hs'; rintro e w2 ⟨rfl, HT⟩))
  go_ret
  obtain ⟨ts, h1, h2, h3, h4⟩ := HT.out
  exact ⟨v, ts, rfl, h1, h2, h3, h4⟩

/-- Coins that rise are the same list where they are the same coins. -/
theorem rise_unique : ∀ (a b : List Co), a.Pairwise (fun x y => 0 < cmpR (y.p, y.q) (x.p, x.q)) → b.Pairwise (fun x y => 0 < cmpR (y.p, y.q) (x.p, x.q)) → (∀ c, c ∈ a ↔ c ∈ b) → a = b
  | [], [], _, _, _ => rfl
  | [], y :: b, _, _, h => by have := (h y).2 (by simp); cases this
  | x :: a, [], _, _, h => by have := (h x).1 (by simp); cases this
  | x :: a, y :: b, h1, h2, h => by
    rw [List.pairwise_cons] at h1 h2
    have e : x = y := by
      rcases List.mem_cons.1 ((h x).1 (by simp)) with e | hx
      · exact e
      · rcases List.mem_cons.1 ((h y).2 (by simp)) with e | hy
        · exact e.symm
        · have i1 := cmpR_pos.1 (h2.1 x hx)
          have i2 := cmpR_pos.1 (h1.1 y hy)
          omega
    subst e
    rw [rise_unique a b h1.2 h2.2 fun c => ?_]
    constructor
    · intro hc
      rcases List.mem_cons.1 ((h c).1 (by simp [hc])) with e | hx
      · subst e
        have := cmpR_pos.1 (h1.1 c hc)
        omega
      · exact hx
    · intro hc
      rcases List.mem_cons.1 ((h c).2 (by simp [hc])) with e | hx
      · subst e
        have := cmpR_pos.1 (h2.1 c hc)
        omega
      · exact hx

theorem pair_of {α : Type} {R : α → α → Prop} (hs : ∀ x y, R x y → R y x) : ∀ {l : List α}, l.Pairwise R → ∀ x ∈ l, ∀ y ∈ l, x ≠ y → R x y
  | a :: l, h, x, hx, y, hy, hne => by
    rw [List.pairwise_cons] at h
    rcases List.mem_cons.1 hx with e1 | h1 <;> rcases List.mem_cons.1 hy with e2 | h2
    · exact absurd (e1.trans e2.symm) hne
    · rw [e1]; exact h.1 y h2
    · rw [e2]; exact hs _ _ (h.1 x h1)
    · exact pair_of hs h.2 x h1 y h2 hne

theorem cells_flat (ts : List SC) {j : Nat} (hj : j < ts.length) : CellsC (ts.flatMap cellsC) j (ts[j]!).1.1 (ts[j]!).1.2 := by
  have g : ∀ i, i < 8 → (ts.flatMap cellsC)[j * 8 + i]? = (cellsC (ts[j]!))[i]? := fun i hi => by
    rw [get_flat ts (j * 8 + i) (by omega)]
    have h1 : (j * 8 + i) / 8 = j := by omega
    have h2 : (j * 8 + i) % 8 = i := by omega
    rw [h1, h2]
  exact ⟨g 0 (by omega), g 1 (by omega), g 2 (by omega), g 3 (by omega), g 4 (by omega), g 5 (by omega), g 6 (by omega), g 7 (by omega)⟩

/-- What the sorted row is: coins of their own. -/
theorem own_of_sorted {w w' : World} {lo B : Nat} {ps : List (Co × Value)} {cs : List Co} {v : Value} {ts : List SC} (hP : Pu w lo B ps) (hlo : lo ≤ w.heap.size) (hri : cs.Pairwise (fun x y => 0 < cmpR (y.p, y.q) (x.p, x.q))) (hmem : ∀ c, c ∈ cs ↔ c ∈ ps.map (·.1))
    (hA : AllC ps ts) (hs : ts.Pairwise fun x y => ltOf cfC y x = false) (hrow : w'.ownsRow w.heap.size 86 8 v ts.length (ts.flatMap cellsC)) (hb : Below w.heap.size w w') :
    ∃ kv, COwn w' lo w'.heap.size v cs.length (fun j => cs.getD j C0) kv := by
  have hts : ts.map (fun x => x.1.1) = cs := by
    refine rise_unique _ _ ?_ hri fun c => ?_
    · rw [List.pairwise_map]
      refine (List.pairwise_and_iff.2 ⟨hs, hA.2.1⟩).imp ?_
      rintro x y ⟨h1, h2⟩
      rw [ltC] at h1
      have h3 : ¬ (x.1.1.p = y.1.1.p ∧ x.1.1.q = y.1.1.q) := fun e => h2 (by unfold refOf; rw [e.1, e.2])
      simp at h1
      exact cmpR_pos.2 (by omega)
    · rw [hmem c]
      constructor
      · intro h
        obtain ⟨x, hx, rfl⟩ := List.mem_map.1 h
        exact List.mem_map.2 ⟨x.1, hA.1 x hx, rfl⟩
      · intro h
        obtain ⟨x, hx, rfl⟩ := List.mem_map.1 h
        obtain ⟨y, hy, rfl⟩ := hA.2.2 x hx
        exact List.mem_map.2 ⟨y, hy, rfl⟩
  have hlen : cs.length = ts.length := by rw [← hts]; simp
  have hf : ∀ j, j < ts.length → cs.getD j C0 = (ts[j]!).1.1 := fun j hj => by
    rw [← hts]
    simp [List.getD, hj]
  have hmm : ∀ j, j < ts.length → ts[j]! ∈ ts := fun j hj => by rw [getElem!_pos ts j hj]; exact List.getElem_mem _
  refine ⟨fun j => (ts[j]!).1.2, ⟨ts.flatMap cellsC, by rw [hlen]; exact Joins.ownsRow_le hrow hlo, fun j hj => ?_⟩, fun b hb2 => (hrow.lt b hb2).2, fun j hj => ?_, fun i j hij hj b hb1 => ?_⟩
  · rw [hlen] at hj
    rw [hf j hj]
    exact cells_flat ts hj
  · rw [hlen] at hj
    have h1 := hP.rows _ (hA.1 _ (hmm j hj))
    have h2 : w'.ownsRow lo 2 1 (ts[j]!).1.2 (ts[j]!).1.1.l.length (ints (ts[j]!).1.1.l) := h1.kept (grown_of_below hb) (by cases Value.ownBlock (ts[j]!).1.2 <;> simp)
    rw [hf j hj]
    exact ⟨h2, fun b hb2 => (h2.lt b hb2).2⟩
  · rw [hlen] at hj
    have hi : i < ts.length := by omega
    have hne : (ts[i]!).1 ≠ (ts[j]!).1 := fun e => by
      have := List.pairwise_iff_getElem.1 hA.2.1 i j hi hj hij
      rw [getElem!_pos ts i hi, getElem!_pos ts j hj] at e
      exact this (by rw [e])
    exact pair_of (R := fun x y : Co × Value => ∀ b, x.2.ownBlock = some b → y.2.ownBlock ≠ some b) (fun x y h b h1 h2 => h b h2 h1) hP.apart _ (hA.1 _ (hmm i hi)) _ (hA.1 _ (hmm j hj)) hne b hb1

set_option maxHeartbeats 1000000 in
theorem coins_any (B lo : Nat) (ps : List (Co × Value)) (cs : List Co) (w : World) (hP : Pu w lo B ps) (hlo : lo ≤ w.heap.size) (hps : ps.length ≤ 1000) (hri : cs.Pairwise (fun x y => 0 < cmpR (y.p, y.q) (x.p, x.q))) (hmem : ∀ c, c ∈ cs ↔ c ∈ ps.map (·.1)) :
    Calls Tryz.prog 117 #[.map (some B)] w fun e w' => ∃ v, e = .returned v ∧ Hid ((∃ kv, COwn w' lo w'.heap.size v cs.length (fun j => cs.getD j C0) kv) ∧ Below w.heap.size w w') := by
  have hv := values_any B w
  have hbx : Below w.heap.size w (w.alloc (.cells #[.map (some B)] 97)) := below_box _
  have hX := heap_alloc_new w (.cells #[.map (some B)] 97)
  have hc : (w.alloc (.cells #[.map (some B)] 97)).cell? ⟨w.heap.size, 0, none⟩ = some (.map (some B)) := by unfold World.cell?; rw [hX]; rfl
  have hs : Calls Tryz.prog 133 #[.func (.func 151) #[] #[.pointer (some ⟨w.heap.size, 0, none⟩)], .func (.func 135) #[] #[]] (w.alloc (.cells #[.map (some B)] 97)) fun e w' => ∃ v, e = .returned v ∧ Hid ((∃ kv, COwn w' lo w'.heap.size v cs.length (fun j => cs.getD j C0) kv) ∧ Below w.heap.size w w') :=
    (sortedFunc_any w.heap.size B lo ps (w.alloc (.cells #[.map (some B)] 97)) hps (by simp) hc (hP.below hbx)).mono fun e w' ⟨v, ts, h1, h2⟩ => by
      obtain ⟨q1, q2, q3, q4⟩ := h2.out
      exact ⟨v, h1, own_of_sorted (hP.below hbx) (Nat.le_trans hlo hbx.size) hri hmem q1 q2 q3 q4, hbx.trans (q4.mono hbx.size)⟩
  clear hP hri hmem hX hc hbx
  go_enter Tryz.func117, Tryz.ntmps117
  go_wp2_with (first
    | (go_at_call 134; (with_reducible refine hv.mono ?_); clear hv; rintro e w1 ⟨rfl, rfl⟩)
    | (go_at_call 133; (with_reducible refine hs.mono ?_); clear hs; rintro e w2 ⟨v, rfl, HS⟩))
  go_ret
  exact ⟨v, rfl, HS.out⟩

end Go.Proofs.YtacjgnefomdoaaaGreatDoor

namespace Go.Proofs.YtacjgnefomdoaaaGreatDoor
open Go.RowKit Go.Maps Go.WideMaps

theorem Pu.found {w : World} {lo B : Nat} {ps : List (Co × Value)} {p q : Int} {x : Co × Value} (h : Pu w lo B ps) (hf : findP ps (p, q) = some x) (hp : (Lit.int .i64 p).wf = true) (hq : (Lit.int .i64 q).wf = true) :
    ∃ ua uc, x.2 = .slice ua x.1.l.length uc ∧ (Instr.lookup 97 (.map (some B)) (.agg #[.int .i64 p, .int .i64 q]) true).run Tryz.prog w = .ok (.tuple #[.agg #[.int .i64 x.1.p, .int .i64 x.1.q, .int .i64 x.1.v, .slice ua x.1.l.length uc, .int .i64 x.1.x, .int .i64 x.1.y, .int .i64 x.1.h, .bool x.1.m], .bool true]) w := by
  have h1 := h.look (r := (p, q)) hp hq
  rw [hf] at h1
  obtain ⟨ua, uc, hu⟩ : ∃ ua uc, x.2 = .slice ua x.1.l.length uc := by
    have hrow := h.rows x (find_get hf).1
    rcases hrow.2 with ⟨e1, e2⟩ | ⟨g, cp, cur, e1, _⟩
    · exact ⟨none, 0, by rw [show x.2 = .slice none 0 0 from e1, show x.1.l.length = 0 from e2]⟩
    · exact ⟨some ⟨g, 0, none⟩, cp, e1⟩
  refine ⟨ua, uc, hu, ?_⟩
  rw [← hu]
  exact h1
theorem Pu.lacks {w : World} {lo B : Nat} {ps : List (Co × Value)} {p q : Int} (h : Pu w lo B ps) (hf : findP ps (p, q) = none) (hp : (Lit.int .i64 p).wf = true) (hq : (Lit.int .i64 q).wf = true) :
    (Instr.lookup 97 (.map (some B)) (.agg #[.int .i64 p, .int .i64 q]) true).run Tryz.prog w = .ok (.tuple #[.agg #[.int .i64 0, .int .i64 0, .int .i64 0, .slice none 0 0, .int .i64 0, .int .i64 0, .int .i64 0, .bool false], .bool false]) w := by
  have h1 := h.look (r := (p, q)) hp hq
  rw [hf] at h1
  exact h1

def hasC (cs : List Co) (r : Int × Int) : Bool := cs.any fun c => decide ((c.p, c.q) = r)
theorem has_map {ps : List (Co × Value)} {r : Int × Int} : hasC (ps.map (·.1)) r = (findP ps r).isSome := by
  unfold hasC findP
  induction ps with
  | nil => rfl
  | cons x t ih =>
    rw [List.map_cons, List.any_cons]
    by_cases e : refOf x = r
    · rw [List.find?_cons_of_pos (by simp [e]), decide_eq_true (show (x.1.p, x.1.q) = r from e)]; rfl
    · rw [List.find?_cons_of_neg (by simp [e]), decide_eq_false (show ¬ (x.1.p, x.1.q) = r from e), Bool.false_or]; exact ih
end Go.Proofs.YtacjgnefomdoaaaGreatDoor

namespace Go.Proofs.YtacjgnefomdoaaaGreatDoor
open Go.RowKit Go.Maps Go.WideMaps

theorem own_slice3 {w : World} {lo hi n : Nat} {v : Value} {f : Nat → Co} (h : ∃ kv, COwn w lo hi v n f kv) : ∃ a c, v = .slice a n c := by
  obtain ⟨kv, h⟩ := h
  obtain ⟨xs, h1, _⟩ := h.row
  rcases h1.2 with ⟨rfl, rfl⟩ | ⟨g, cap, cur, rfl, _⟩
  · exact ⟨none, 0, rfl⟩
  · exact ⟨_, cap, rfl⟩

end Go.Proofs.YtacjgnefomdoaaaGreatDoor

namespace Go.Proofs.YtacjgnefomdoaaaGreatDoor
open Go.RowKit Go.Maps Go.WideMaps

abbrev RiseC (cs : List Co) : Prop := cs.Pairwise (fun x y => 0 < cmpR (y.p, y.q) (x.p, x.q))
def inC (cs : List Co) (rs : List (Int × Int)) : List Co := cs.filter fun c => memB rs (c.p, c.q)
theorem memB_here {gs : List (Int × Int)} {x : Int × Int} : memB gs x = true ↔ x ∈ gs := by
  have := num_zero gs x
  unfold memB
  by_cases h : x ∈ gs
  · simp [h] at this; simp [h, this]
  · simp [h] at this; simp [h, this]
theorem sub_back {α : Type} [DecidableEq α] : ∀ (a b : List α), a.Nodup → (∀ x ∈ a, x ∈ b) → b.length ≤ a.length → ∀ x ∈ b, x ∈ a
  | [], b, _, _, hl, x, hx => by have : b = [] := List.eq_nil_of_length_eq_zero (by simpa using hl); rw [this] at hx; exact hx
  | y :: a, b, hn, hs, hl, x, hx => by
    rw [List.nodup_cons] at hn
    obtain ⟨s1, s2, rfl⟩ := List.append_of_mem (hs y (by simp))
    have h1 : ∀ z ∈ a, z ∈ s1 ++ s2 := fun z hz => by
      have h2 := hs z (by simp [hz])
      have h3 : z ≠ y := fun e => hn.1 (e ▸ hz)
      simp at h2 ⊢
      rcases h2 with h2 | h2 | h2
      · exact .inl h2
      · exact absurd h2 h3
      · exact .inr h2
    have h4 := sub_back a (s1 ++ s2) hn.2 h1 (by simp at hl ⊢; omega)
    simp at hx
    rcases hx with h | h | h
    · exact List.mem_cons_of_mem _ (h4 x (by simp [h]))
    · simp [h]
    · exact List.mem_cons_of_mem _ (h4 x (by simp [h]))
theorem sub_length {α : Type} [DecidableEq α] : ∀ (a b : List α), a.Nodup → (∀ x ∈ a, x ∈ b) → a.length ≤ b.length
  | [], b, _, _ => by simp
  | y :: a, b, hn, hs => by
    rw [List.nodup_cons] at hn
    obtain ⟨s1, s2, rfl⟩ := List.append_of_mem (hs y (by simp))
    have h1 : ∀ z ∈ a, z ∈ s1 ++ s2 := fun z hz => by
      have h2 := hs z (by simp [hz])
      have h3 : z ≠ y := fun e => hn.1 (e ▸ hz)
      simp at h2 ⊢
      rcases h2 with h2 | h2 | h2
      · exact .inl h2
      · exact absurd h2 h3
      · exact .inr h2
    have h4 := sub_length a (s1 ++ s2) hn.2 h1
    simp at h4 ⊢
    omega
def refsC (cs : List Co) : List (Int × Int) := cs.map fun c => (c.p, c.q)
theorem refs_nodup {cs : List Co} (h : RiseC cs) : (refsC cs).Nodup := by
  unfold refsC List.Nodup
  rw [List.pairwise_map]
  exact h.imp fun {a b} k e => by
    have := cmpR_pos.1 k
    simp at e
    omega
theorem hasC_iff {cs : List Co} {r : Int × Int} : hasC cs r = true ↔ r ∈ refsC cs := by
  unfold hasC refsC
  rw [List.any_eq_true, List.mem_map]
  constructor
  · rintro ⟨c, h1, h2⟩; exact ⟨c, h1, by simpa using h2⟩
  · rintro ⟨c, h1, h2⟩; exact ⟨c, h1, by simpa using h2⟩

theorem getC_mem {l : List Co} {j : Nat} (hj : j < l.length) : l.getD j C0 ∈ l := by
  rw [List.getD, List.getElem?_eq_getElem hj]
  exact List.getElem_mem _
theorem refs_facts : ∀ {rs seen : List (Int × Int)}, refsR seen rs = 0 → (∀ r ∈ rs, refB r = true ∧ r ∉ seen) ∧ rs.Nodup
  | [], _, _ => ⟨fun r hr => (by cases hr), List.nodup_nil⟩
  | r :: t, seen, h => by
    unfold refsR at h
    by_cases h1 : refB r = false
    · rw [if_pos h1] at h; cases h
    · rw [if_neg h1] at h
      by_cases h2 : memB seen r = true
      · rw [if_pos h2] at h; cases h
      · rw [if_neg h2] at h
        obtain ⟨i1, i2⟩ := refs_facts h
        have h3 : r ∉ seen := fun e => h2 (memB_here.2 e)
        refine ⟨fun x hx => ?_, List.nodup_cons.2 ⟨fun e => (i1 r e).2 (by simp), i2⟩⟩
        rcases List.mem_cons.1 hx with rfl | hx
        · exact ⟨by simpa using h1, h3⟩
        · exact ⟨(i1 x hx).1, fun e => (i1 x hx).2 (by simp [e])⟩
theorem tx_facts {k f : Int} {rs : List (Int × Int)} {os : List Ou} (h : txR k f rs os = 0) : (∀ r ∈ rs, refB r = true) ∧ rs.Nodup ∧ rs.length ≤ 4 ∧ os.length ≤ 4 := by
  unfold txR at h
  by_cases h1 : inB k 0 2 = false ∨ ¬ (k = 0 ↔ f = 0)
  · rw [if_pos h1] at h; cases h
  rw [if_neg h1] at h
  by_cases h2 : k ≠ 0 ∧ inB f 1 999 = false
  · rw [if_pos h2] at h; cases h
  rw [if_neg h2] at h
  by_cases h3 : inB rs.length 1 4 = false ∨ inB os.length 1 4 = false
  · rw [if_pos h3] at h; cases h
  rw [if_neg h3] at h
  by_cases h4 : refsR [] rs ≠ 0
  · rw [if_pos h4] at h; exact absurd h h4
  obtain ⟨i1, i2⟩ := refs_facts (show refsR [] rs = 0 by simpa using h4)
  have h5 : inB rs.length 1 4 = true := by cases e : inB rs.length 1 4; exact absurd (.inl e) h3; rfl
  have h6 : inB os.length 1 4 = true := by cases e : inB os.length 1 4; exact absurd (.inr e) h3; rfl
  simp [inB] at h5 h6
  exact ⟨fun r hr => (i1 r hr).1, i2, by omega, by omega⟩
theorem ref_wf {r : Int × Int} (h : refB r = true) : (Lit.int .i64 r.1).wf = true ∧ (Lit.int .i64 r.2).wf = true := by
  simp [refB, inB] at h
  exact ⟨WalkArith.wf_i64 (by omega), WalkArith.wf_i64 (by omega)⟩

end Go.Proofs.YtacjgnefomdoaaaGreatDoor

namespace Go.Proofs.YtacjgnefomdoaaaGreatDoor
open Go.RowKit Go.Maps Go.WideMaps

/-- Behind the copy of a coin's keys. -/
theorem copy_mid {wr w2 : World} {lo j g gc : Nat} {v : Value} {f : Nat → Co} {kv : Nat → Value} {op oq ov : Int} {ol : List Int} {ox oy oh : Int} {om : Bool} {kb ko kc : Nat} (h : COwn wr lo wr.heap.size v j f kv) (hf : f j = (⟨op, oq, ov, ol, ox, oy, oh, om⟩ : Co)) (hj : j ≤ 1000) (hlo : lo ≤ wr.heap.size)
    (hb : Below (wr.alloc (.cells #[.int .i64 op, .int .i64 oq, .int .i64 ov, .slice (some ⟨kb, ko, none⟩) ol.length kc, .int .i64 ox, .int .i64 oy, .int .i64 oh, .bool om] 86)).heap.size (wr.alloc (.cells #[.int .i64 op, .int .i64 oq, .int .i64 ov, .slice (some ⟨kb, ko, none⟩) ol.length kc, .int .i64 ox, .int .i64 oy, .int .i64 oh, .bool om] 86)) w2) (hrow : w2.ownsRow ((wr.alloc (.cells #[.int .i64 op, .int .i64 oq, .int .i64 ov, .slice (some ⟨kb, ko, none⟩) ol.length kc, .int .i64 ox, .int .i64 oy, .int .i64 oh, .bool om] 86)).heap.size + 1 + 1) 2 1 (.slice (some ⟨g, 0, none⟩) ol.length gc) ol.length (ints ol)) :
    ∃ g5 cap w5, (Builtin.append_ #[41, 41] 41 #[v, .slice (some ⟨w2.heap.size, 0, none⟩) 1 1]).run Tryz.prog ((((w2.setCell ⟨wr.heap.size, 3, none⟩ (.slice (some ⟨g, 0, none⟩) ol.length gc)).setCell ⟨wr.heap.size, 4, none⟩ (.int .i64 ox)).setCell ⟨wr.heap.size, 5, none⟩ (.int .i64 oy)).alloc (.cells #[.int .i64 op, .int .i64 oq, .int .i64 ov, .slice (some ⟨g, 0, none⟩) ol.length gc, .int .i64 ox, .int .i64 oy, .int .i64 oh, .bool om] 86)) = .ok (.slice (some ⟨g5, 0, none⟩) (j + 1) cap) w5 ∧
      Hid ((∃ kv', COwn w5 lo w5.heap.size (.slice (some ⟨g5, 0, none⟩) (j + 1) cap) (j + 1) f kv') ∧ Below lo wr w5) := by
  have hsz : (wr.alloc (.cells #[.int .i64 op, .int .i64 oq, .int .i64 ov, .slice (some ⟨kb, ko, none⟩) ol.length kc, .int .i64 ox, .int .i64 oy, .int .i64 oh, .bool om] 86)).heap.size = wr.heap.size + 1 := by simp
  have hb1 : Below wr.heap.size wr w2 := (below_box _).trans (hb.mono (by omega))
  have h2 : COwn w2 lo wr.heap.size v j f kv := h.below hb1
  have nv : v.ownBlock ≠ some wr.heap.size := fun e => by have := h.top _ e; omega
  have nk : ∀ i, i < j → (kv i).ownBlock ≠ some wr.heap.size := fun i hi e => by have := (h.keys i hi).2 _ e; omega
  have h3 := ((h2.set2 nv nk 3 (.slice (some ⟨g, 0, none⟩) ol.length gc)).set2 nv nk 4 (.int .i64 ox)).set2 nv nk 5 (.int .i64 oy)
  have h4 : COwn ((((w2.setCell ⟨wr.heap.size, 3, none⟩ (.slice (some ⟨g, 0, none⟩) ol.length gc)).setCell ⟨wr.heap.size, 4, none⟩ (.int .i64 ox)).setCell ⟨wr.heap.size, 5, none⟩ (.int .i64 oy)).alloc (.cells #[.int .i64 op, .int .i64 oq, .int .i64 ov, .slice (some ⟨g, 0, none⟩) ol.length gc, .int .i64 ox, .int .i64 oy, .int .i64 oh, .bool om] 86)) lo wr.heap.size v j f kv := h3.below (below_box _)
  have hs2 : wr.heap.size ≤ w2.heap.size := hb1.size
  have hsz4 : ((((w2.setCell ⟨wr.heap.size, 3, none⟩ (.slice (some ⟨g, 0, none⟩) ol.length gc)).setCell ⟨wr.heap.size, 4, none⟩ (.int .i64 ox)).setCell ⟨wr.heap.size, 5, none⟩ (.int .i64 oy)).alloc (.cells #[.int .i64 op, .int .i64 oq, .int .i64 ov, .slice (some ⟨g, 0, none⟩) ol.length gc, .int .i64 ox, .int .i64 oy, .int .i64 oh, .bool om] 86)).heap.size = w2.heap.size + 1 := by simp
  have hX : ((((w2.setCell ⟨wr.heap.size, 3, none⟩ (.slice (some ⟨g, 0, none⟩) ol.length gc)).setCell ⟨wr.heap.size, 4, none⟩ (.int .i64 ox)).setCell ⟨wr.heap.size, 5, none⟩ (.int .i64 oy)).alloc (.cells #[.int .i64 op, .int .i64 oq, .int .i64 ov, .slice (some ⟨g, 0, none⟩) ol.length gc, .int .i64 ox, .int .i64 oy, .int .i64 oh, .bool om] 86)).heap[w2.heap.size]? = some (.cells #[.int .i64 op, .int .i64 oq, .int .i64 ov, .slice (some ⟨g, 0, none⟩) ol.length gc, .int .i64 ox, .int .i64 oy, .int .i64 oh, .bool om] 86 (0, 0)) := by
    have := heap_alloc_new (((w2.setCell ⟨wr.heap.size, 3, none⟩ (.slice (some ⟨g, 0, none⟩) ol.length gc)).setCell ⟨wr.heap.size, 4, none⟩ (.int .i64 ox)).setCell ⟨wr.heap.size, 5, none⟩ (.int .i64 oy)) (.cells #[.int .i64 op, .int .i64 oq, .int .i64 ov, .slice (some ⟨g, 0, none⟩) ol.length gc, .int .i64 ox, .int .i64 oy, .int .i64 oh, .bool om] 86)
    simpa using this
  have st : ∀ (W : World) (i : Nat) (z : Value), W.ownsRow (wr.heap.size + 1) 2 1 (.slice (some ⟨g, 0, none⟩) ol.length gc) ol.length (ints ol) → (W.setCell ⟨wr.heap.size, i, none⟩ z).ownsRow (wr.heap.size + 1) 2 1 (.slice (some ⟨g, 0, none⟩) ol.length gc) ol.length (ints ol) := fun W i z hW => ownsRow_setCell_below hW (a := ⟨wr.heap.size, i, none⟩) (show wr.heap.size < _ by omega) z
  have hr4 : ((((w2.setCell ⟨wr.heap.size, 3, none⟩ (.slice (some ⟨g, 0, none⟩) ol.length gc)).setCell ⟨wr.heap.size, 4, none⟩ (.int .i64 ox)).setCell ⟨wr.heap.size, 5, none⟩ (.int .i64 oy)).alloc (.cells #[.int .i64 op, .int .i64 oq, .int .i64 ov, .slice (some ⟨g, 0, none⟩) ol.length gc, .int .i64 ox, .int .i64 oy, .int .i64 oh, .bool om] 86)).ownsRow (wr.heap.size + 1) 2 1 (.slice (some ⟨g, 0, none⟩) ol.length gc) ol.length (ints ol) := (st _ _ _ (st _ _ _ (st _ _ _ (Joins.ownsRow_le hrow (by omega))))).alloc _
  have hgl := (hr4.lt g rfl).1
  obtain ⟨g5, cap, w5, hrun, HC⟩ := coin_added (o := (⟨op, oq, ov, ol, ox, oy, oh, om⟩ : Co)) (h4.mono (by omega)) hX rfl (Joins.ownsRow_le hr4 (by omega)) (fun i hi b hb e => by
    have h6 := (h.keys i hi).2 b hb
    have h7 : g = b := (by simpa [Value.ownBlock] using e)
    omega) hj (by omega) hf
  refine ⟨g5, cap, w5, hrun, ⟨_, HC.out.1⟩, ?_⟩
  have c1 : Below wr.heap.size wr ((((w2.setCell ⟨wr.heap.size, 3, none⟩ (.slice (some ⟨g, 0, none⟩) ol.length gc)).setCell ⟨wr.heap.size, 4, none⟩ (.int .i64 ox)).setCell ⟨wr.heap.size, 5, none⟩ (.int .i64 oy)).alloc (.cells #[.int .i64 op, .int .i64 oq, .int .i64 ov, .slice (some ⟨g, 0, none⟩) ol.length gc, .int .i64 ox, .int .i64 oy, .int .i64 oh, .bool om] 86)) := (((hb1.setCell (p := ⟨wr.heap.size, 3, none⟩) (Nat.le_refl _) _).setCell (p := ⟨wr.heap.size, 4, none⟩) (Nat.le_refl _) _).setCell (p := ⟨wr.heap.size, 5, none⟩) (Nat.le_refl _) _).trans ((below_box _).mono (by simpa using hs2))
  obtain ⟨xs, hv1, _⟩ := h.row
  exact (c1.mono hlo).grown HC.out.2 (by omega) (fun k hk => (hv1.lt k hk).1)

set_option maxRecDepth 20000 in
set_option maxHeartbeats 2000000 in
theorem l4Copy_any (n c : Nat) (a : Option Addr) (cs : List Co) (w : World) (hn : n ≤ 100) (hk : ∀ j, j < n → coinR (cs.getD j C0) = 0) (hC : CAt w a n cs) :
    Calls Tryz.prog 77 #[.slice a n c] w fun e w' => ∃ v kv, e = .returned v ∧ COwn w' w.heap.size w'.heap.size v n (fun j => cs.getD j C0) kv ∧ Below w.heap.size w w' := by
  have HC : Hid (CAt w a n cs) := hC
  have HKL : Hid (∀ j, j < n → coinR (cs.getD j C0) = 0) := hk
  have HE : Hid ((w.alloc (.cells #[] 86)).heap[w.heap.size]? = some (.cells #[] 86 (0, 0))) := heap_alloc_new _ _
  clear hC hk
  go_enter Tryz.func77, Tryz.ntmps77
  go_wp2
  go_loopw [3, 4] (fun v i wr => ∃ j : Nat, j ≤ n ∧ i = .int .i64 j ∧ Hid (∃ kv, COwn wr w.heap.size wr.heap.size v j (fun j => cs.getD j C0) kv) ∧ Below w.heap.size w wr) (fun _ i _ => n - (intOf i).toNat)
  case atStart =>
    refine ⟨0, Nat.zero_le _, rfl, ⟨fun _ => .slice none 0 0, ⟨[], own_empty HE.out (Nat.le_refl _), fun j hj => (by omega)⟩, fun b hb => ?_, fun j hj => (by omega), fun i j _ hj => (by omega)⟩, below_box _⟩
    cases hb
    exact lt_of_block HE.out
  case round =>
    obtain ⟨j, hj, rfl, HO, hbel⟩ := hrel
    by_cases hlt : j < n
    · rcases HC.out.2 with h0 | ⟨b, off, e0, l0, d0⟩
      · omega
      subst e0
      obtain ⟨o, ho⟩ : ∃ o, o = cs.getD j C0 := ⟨_, rfl⟩
      obtain ⟨ka, kc, p0, p4, p5⟩ := d0 j hlt
      have hcr := HKL.out j hlt
      rw [← ho] at p0 p4 p5 hcr
      obtain ⟨_, _, g3, g4⟩ := coin_more hcr
      obtain ⟨op, oq, ov, ol, ox, oy, oh, om⟩ := o
      have HS : Hid (cs.getD j C0 = (⟨op, oq, ov, ol, ox, oy, oh, om⟩ : Co)) := ho.symm
      simp only at p0 p4 p5 g3 g4
      rcases p5.2 with h0 | ⟨kb, ko, ek, hkl, _⟩
      · omega
      subst ek
      obtain ⟨x0, x1, x2, x3, x4, x5, x6, x7⟩ := p0.below hbel l0
      simp only at x0 x1 x2 x3 x4 x5 x6 x7
      have hbx : Below wr.heap.size wr (wr.alloc (.cells #[.int .i64 op, .int .i64 oq, .int .i64 ov, .slice (some ⟨kb, ko, none⟩) ol.length kc, .int .i64 ox, .int .i64 oy, .int .i64 oh, .bool om] 86)) := below_box _
      have hcp := l2Copy_any kb ko ol.length kc ol ox oy (wr.alloc (.cells #[.int .i64 op, .int .i64 oq, .int .i64 ov, .slice (some ⟨kb, ko, none⟩) ol.length kc, .int .i64 ox, .int .i64 oy, .int .i64 oh, .bool om] 86)) (by omega) ((p5.below hbel (Nat.le_refl _)).below hbx (Nat.le_refl _))
      have HX : Hid ((wr.alloc (.cells #[.int .i64 op, .int .i64 oq, .int .i64 ov, .slice (some ⟨kb, ko, none⟩) ol.length kc, .int .i64 ox, .int .i64 oy, .int .i64 oh, .bool om] 86)).heap[wr.heap.size]? = some (.cells #[.int .i64 op, .int .i64 oq, .int .i64 ov, .slice (some ⟨kb, ko, none⟩) ol.length kc, .int .i64 ox, .int .i64 oy, .int .i64 oh, .bool om] 86 (0, 0))) := heap_alloc_new _ _
      clear ho d0 p0 p4 p5 hcr g3 g4 hbx
      have hki : (j : Int) < (n : Int) := by omega
      go_wp2_with (first
        | (go_at_call 102; (with_reducible refine hcp.mono ?_); clear hcp; rintro e w2 ⟨g, gc, rfl, hrow, hb2⟩; obtain ⟨kv, hO⟩ := HO.out; obtain ⟨g5, cap, w5, hrun, HC5⟩ := copy_mid hO HS.out (by omega) hbel.size hb2 hrow; obtain ⟨⟨s0, s1, s2, s3, s4, s5, s6, s7⟩, f0, f1, f2, f3, f4, f5, f6, f7⟩ := cells8 (keepb HX.out hb2).out; clear hrow hb2 hO)
        | (at_builtin; go_must (refine wpList_append_runC (by rfl) _ _ _ (by rfl) (by rfl) (by rfl) hrun ?_); clear hrun))
      go_roundw
      case rel => exact ⟨j + 1, by omega, by go_num, HC5.out.1, hbel.trans HC5.out.2⟩
      case measure => simp [intOf]; omega
    · obtain rfl : j = n := by omega
      go_wp2
      go_ret
      obtain ⟨kv, hO⟩ := HO.out
      exact ⟨_, kv, rfl, hO, hbel⟩

end Go.Proofs.YtacjgnefomdoaaaGreatDoor

namespace Go.Proofs.YtacjgnefomdoaaaGreatDoor
open Go.RowKit Go.Maps Go.WideMaps

theorem own_at2 {w : World} {lo hi n : Nat} {a : Option Addr} {c : Nat} {cs : List Co} {kv : Nat → Value} (h : COwn w lo hi (.slice a n c) n (fun j => cs.getD j C0) kv) (hn : cs.length = n) (hl : ∀ j, j < n → (cs.getD j C0).l.length ≤ 1048576) : CAt w a n cs := by
  obtain ⟨a', c', e, h2⟩ := h.at hn (fun j _ => rfl) hl
  cases e
  exact h2

end Go.Proofs.YtacjgnefomdoaaaGreatDoor
