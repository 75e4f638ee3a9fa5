/- A transaction is taken back: what it comes to, without a world. The specification's CoinAt. -/
import Derived.Test.YtbpcabdbnolceaaGreatDoorDe
import Derived.Maps.RangeWalk
import Derived.Test.YtbpcabdbnolceaaGreatDoorCw
import Derived.Test.YtbpcabdbnolceaaGreatDoorDi
import Derived.Test.YtbpcabdbnolceaaGreatDoorTxA
import Derived.Test.YtbpcabdbnolceaaGreatDoorRu
import Derived.Test.YtbpcabdbnolceaaGreatDoorTxS
import Derived.Test.YtbpcabdbnolceaaGreatDoorCy
namespace Go.Proofs.YtbpcabdbnolceaaGreatDoor
open Go.RowKit Go.Maps Go.WideMaps

abbrev RiseC (cs : List Co) : Prop := cs.Pairwise (fun x y => 0 < cmpR (y.p, y.q) (x.p, x.q))
def inC (cs : List Co) (rs : List (Int × Int)) : List Co := cs.filter fun c => memB rs (c.p, c.q)
theorem memB_here {gs : List (Int × Int)} {x : Int × Int} : memB gs x = true ↔ x ∈ gs := by
  have := num_zero gs x
  unfold memB
  by_cases h : x ∈ gs
  · simp [h] at this; simp [h, this]
  · simp [h] at this; simp [h, this]
theorem sub_back {α : Type} [DecidableEq α] : ∀ (a b : List α), a.Nodup → (∀ x ∈ a, x ∈ b) → b.length ≤ a.length → ∀ x ∈ b, x ∈ a
  | [], b, _, _, hl, x, hx => by have : b = [] := List.eq_nil_of_length_eq_zero (by simpa using hl); rw [this] at hx; exact hx
  | y :: a, b, hn, hs, hl, x, hx => by
    rw [List.nodup_cons] at hn
    obtain ⟨s1, s2, rfl⟩ := List.append_of_mem (hs y (by simp))
    have h1 : ∀ z ∈ a, z ∈ s1 ++ s2 := fun z hz => by
      have h2 := hs z (by simp [hz])
      have h3 : z ≠ y := fun e => hn.1 (e ▸ hz)
      simp at h2 ⊢
      rcases h2 with h2 | h2 | h2
      · exact .inl h2
      · exact absurd h2 h3
      · exact .inr h2
    have h4 := sub_back a (s1 ++ s2) hn.2 h1 (by simp at hl ⊢; omega)
    simp at hx
    rcases hx with h | h | h
    · exact List.mem_cons_of_mem _ (h4 x (by simp [h]))
    · simp [h]
    · exact List.mem_cons_of_mem _ (h4 x (by simp [h]))
theorem sub_length {α : Type} [DecidableEq α] : ∀ (a b : List α), a.Nodup → (∀ x ∈ a, x ∈ b) → a.length ≤ b.length
  | [], b, _, _ => by simp
  | y :: a, b, hn, hs => by
    rw [List.nodup_cons] at hn
    obtain ⟨s1, s2, rfl⟩ := List.append_of_mem (hs y (by simp))
    have h1 : ∀ z ∈ a, z ∈ s1 ++ s2 := fun z hz => by
      have h2 := hs z (by simp [hz])
      have h3 : z ≠ y := fun e => hn.1 (e ▸ hz)
      simp at h2 ⊢
      rcases h2 with h2 | h2 | h2
      · exact .inl h2
      · exact absurd h2 h3
      · exact .inr h2
    have h4 := sub_length a (s1 ++ s2) hn.2 h1
    simp at h4 ⊢
    omega
def refsC (cs : List Co) : List (Int × Int) := cs.map fun c => (c.p, c.q)
theorem refs_nodup {cs : List Co} (h : RiseC cs) : (refsC cs).Nodup := by
  unfold refsC List.Nodup
  rw [List.pairwise_map]
  exact h.imp fun {a b} k e => by
    have := cmpR_pos.1 k
    simp at e
    omega
theorem hasC_iff {cs : List Co} {r : Int × Int} : hasC cs r = true ↔ r ∈ refsC cs := by
  unfold hasC refsC
  rw [List.any_eq_true, List.mem_map]
  constructor
  · rintro ⟨c, h1, h2⟩; exact ⟨c, h1, by simpa using h2⟩
  · rintro ⟨c, h1, h2⟩; exact ⟨c, h1, by simpa using h2⟩

theorem refs_facts : ∀ {rs seen : List (Int × Int)}, refsR seen rs = 0 → (∀ r ∈ rs, refB r = true ∧ r ∉ seen) ∧ rs.Nodup
  | [], _, _ => ⟨fun r hr => (by cases hr), List.nodup_nil⟩
  | r :: t, seen, h => by
    unfold refsR at h
    by_cases h1 : refB r = false
    · rw [if_pos h1] at h; cases h
    · rw [if_neg h1] at h
      by_cases h2 : memB seen r = true
      · rw [if_pos h2] at h; cases h
      · rw [if_neg h2] at h
        obtain ⟨i1, i2⟩ := refs_facts h
        have h3 : r ∉ seen := fun e => h2 (memB_here.2 e)
        refine ⟨fun x hx => ?_, List.nodup_cons.2 ⟨fun e => (i1 r e).2 (by simp), i2⟩⟩
        rcases List.mem_cons.1 hx with rfl | hx
        · exact ⟨by simpa using h1, h3⟩
        · exact ⟨(i1 x hx).1, fun e => (i1 x hx).2 (by simp [e])⟩
theorem tx_facts {k f : Int} {rs : List (Int × Int)} {os : List Ou} (h : txR k f rs os = 0) : (∀ r ∈ rs, refB r = true) ∧ rs.Nodup ∧ rs.length ≤ 4 ∧ os.length ≤ 4 := by
  unfold txR at h
  by_cases h1 : inB k 0 2 = false ∨ ¬ (k = 0 ↔ f = 0)
  · rw [if_pos h1] at h; cases h
  rw [if_neg h1] at h
  by_cases h2 : k ≠ 0 ∧ inB f 1 999 = false
  · rw [if_pos h2] at h; cases h
  rw [if_neg h2] at h
  by_cases h3 : inB rs.length 1 4 = false ∨ inB os.length 1 4 = false
  · rw [if_pos h3] at h; cases h
  rw [if_neg h3] at h
  by_cases h4 : refsR [] rs ≠ 0
  · rw [if_pos h4] at h; exact absurd h h4
  obtain ⟨i1, i2⟩ := refs_facts (show refsR [] rs = 0 by simpa using h4)
  have h5 : inB rs.length 1 4 = true := by cases e : inB rs.length 1 4; exact absurd (.inl e) h3; rfl
  have h6 : inB os.length 1 4 = true := by cases e : inB os.length 1 4; exact absurd (.inr e) h3; rfl
  simp [inB] at h5 h6
  exact ⟨fun r hr => (i1 r hr).1, i2, by omega, by omega⟩
theorem ref_wf {r : Int × Int} (h : refB r = true) : (Lit.int .i64 r.1).wf = true ∧ (Lit.int .i64 r.2).wf = true := by
  simp [refB, inB] at h
  exact ⟨WalkArith.wf_i64 (by omega), WalkArith.wf_i64 (by omega)⟩

end Go.Proofs.YtbpcabdbnolceaaGreatDoor

namespace Go.Proofs.YtbpcabdbnolceaaGreatDoor
open Go.RowKit Go.Maps Go.WideMaps

/-- Behind the copy of a coin's keys. -/
theorem copy_mid {wr w2 : World} {lo j g gc : Nat} {v : Value} {f : Nat → Co} {kv : Nat → Value} {op oq ov : Int} {ol : List Int} {ox oy oh : Int} {om : Bool} {kb ko kc : Nat} (h : COwn wr lo wr.heap.size v j f kv) (hf : f j = (⟨op, oq, ov, ol, ox, oy, oh, om⟩ : Co)) (hj : j ≤ 1000) (hlo : lo ≤ wr.heap.size)
    (hb : Below (wr.alloc (.cells #[.int .i64 op, .int .i64 oq, .int .i64 ov, .slice (some ⟨kb, ko, none⟩) ol.length kc, .int .i64 ox, .int .i64 oy, .int .i64 oh, .bool om] 68)).heap.size (wr.alloc (.cells #[.int .i64 op, .int .i64 oq, .int .i64 ov, .slice (some ⟨kb, ko, none⟩) ol.length kc, .int .i64 ox, .int .i64 oy, .int .i64 oh, .bool om] 68)) w2) (hrow : w2.ownsRow ((wr.alloc (.cells #[.int .i64 op, .int .i64 oq, .int .i64 ov, .slice (some ⟨kb, ko, none⟩) ol.length kc, .int .i64 ox, .int .i64 oy, .int .i64 oh, .bool om] 68)).heap.size + 1 + 1) 2 1 (.slice (some ⟨g, 0, none⟩) ol.length gc) ol.length (ints ol)) :
    ∃ g5 cap w5, (Builtin.append_ #[29, 29] 29 #[v, .slice (some ⟨w2.heap.size, 0, none⟩) 1 1]).run Tryz.prog ((((w2.setCell ⟨wr.heap.size, 3, none⟩ (.slice (some ⟨g, 0, none⟩) ol.length gc)).setCell ⟨wr.heap.size, 4, none⟩ (.int .i64 ox)).setCell ⟨wr.heap.size, 5, none⟩ (.int .i64 oy)).alloc (.cells #[.int .i64 op, .int .i64 oq, .int .i64 ov, .slice (some ⟨g, 0, none⟩) ol.length gc, .int .i64 ox, .int .i64 oy, .int .i64 oh, .bool om] 68)) = .ok (.slice (some ⟨g5, 0, none⟩) (j + 1) cap) w5 ∧
      Hid ((∃ kv', COwn w5 lo w5.heap.size (.slice (some ⟨g5, 0, none⟩) (j + 1) cap) (j + 1) f kv') ∧ Below lo wr w5) := by
  have hsz : (wr.alloc (.cells #[.int .i64 op, .int .i64 oq, .int .i64 ov, .slice (some ⟨kb, ko, none⟩) ol.length kc, .int .i64 ox, .int .i64 oy, .int .i64 oh, .bool om] 68)).heap.size = wr.heap.size + 1 := by simp
  have hb1 : Below wr.heap.size wr w2 := (below_box _).trans (hb.mono (by omega))
  have h2 : COwn w2 lo wr.heap.size v j f kv := h.below hb1
  have nv : v.ownBlock ≠ some wr.heap.size := fun e => by have := h.top _ e; omega
  have nk : ∀ i, i < j → (kv i).ownBlock ≠ some wr.heap.size := fun i hi e => by have := (h.keys i hi).2 _ e; omega
  have h3 := ((h2.set2 nv nk 3 (.slice (some ⟨g, 0, none⟩) ol.length gc)).set2 nv nk 4 (.int .i64 ox)).set2 nv nk 5 (.int .i64 oy)
  have h4 : COwn ((((w2.setCell ⟨wr.heap.size, 3, none⟩ (.slice (some ⟨g, 0, none⟩) ol.length gc)).setCell ⟨wr.heap.size, 4, none⟩ (.int .i64 ox)).setCell ⟨wr.heap.size, 5, none⟩ (.int .i64 oy)).alloc (.cells #[.int .i64 op, .int .i64 oq, .int .i64 ov, .slice (some ⟨g, 0, none⟩) ol.length gc, .int .i64 ox, .int .i64 oy, .int .i64 oh, .bool om] 68)) lo wr.heap.size v j f kv := h3.below (below_box _)
  have hs2 : wr.heap.size ≤ w2.heap.size := hb1.size
  have hsz4 : ((((w2.setCell ⟨wr.heap.size, 3, none⟩ (.slice (some ⟨g, 0, none⟩) ol.length gc)).setCell ⟨wr.heap.size, 4, none⟩ (.int .i64 ox)).setCell ⟨wr.heap.size, 5, none⟩ (.int .i64 oy)).alloc (.cells #[.int .i64 op, .int .i64 oq, .int .i64 ov, .slice (some ⟨g, 0, none⟩) ol.length gc, .int .i64 ox, .int .i64 oy, .int .i64 oh, .bool om] 68)).heap.size = w2.heap.size + 1 := by simp
  have hX : ((((w2.setCell ⟨wr.heap.size, 3, none⟩ (.slice (some ⟨g, 0, none⟩) ol.length gc)).setCell ⟨wr.heap.size, 4, none⟩ (.int .i64 ox)).setCell ⟨wr.heap.size, 5, none⟩ (.int .i64 oy)).alloc (.cells #[.int .i64 op, .int .i64 oq, .int .i64 ov, .slice (some ⟨g, 0, none⟩) ol.length gc, .int .i64 ox, .int .i64 oy, .int .i64 oh, .bool om] 68)).heap[w2.heap.size]? = some (.cells #[.int .i64 op, .int .i64 oq, .int .i64 ov, .slice (some ⟨g, 0, none⟩) ol.length gc, .int .i64 ox, .int .i64 oy, .int .i64 oh, .bool om] 68 (0, 0)) := by
    have := heap_alloc_new (((w2.setCell ⟨wr.heap.size, 3, none⟩ (.slice (some ⟨g, 0, none⟩) ol.length gc)).setCell ⟨wr.heap.size, 4, none⟩ (.int .i64 ox)).setCell ⟨wr.heap.size, 5, none⟩ (.int .i64 oy)) (.cells #[.int .i64 op, .int .i64 oq, .int .i64 ov, .slice (some ⟨g, 0, none⟩) ol.length gc, .int .i64 ox, .int .i64 oy, .int .i64 oh, .bool om] 68)
    simpa using this
  have st : ∀ (W : World) (i : Nat) (z : Value), W.ownsRow (wr.heap.size + 1) 2 1 (.slice (some ⟨g, 0, none⟩) ol.length gc) ol.length (ints ol) → (W.setCell ⟨wr.heap.size, i, none⟩ z).ownsRow (wr.heap.size + 1) 2 1 (.slice (some ⟨g, 0, none⟩) ol.length gc) ol.length (ints ol) := fun W i z hW => ownsRow_setCell_below hW (a := ⟨wr.heap.size, i, none⟩) (show wr.heap.size < _ by omega) z
  have hr4 : ((((w2.setCell ⟨wr.heap.size, 3, none⟩ (.slice (some ⟨g, 0, none⟩) ol.length gc)).setCell ⟨wr.heap.size, 4, none⟩ (.int .i64 ox)).setCell ⟨wr.heap.size, 5, none⟩ (.int .i64 oy)).alloc (.cells #[.int .i64 op, .int .i64 oq, .int .i64 ov, .slice (some ⟨g, 0, none⟩) ol.length gc, .int .i64 ox, .int .i64 oy, .int .i64 oh, .bool om] 68)).ownsRow (wr.heap.size + 1) 2 1 (.slice (some ⟨g, 0, none⟩) ol.length gc) ol.length (ints ol) := (st _ _ _ (st _ _ _ (st _ _ _ (Joins.ownsRow_le hrow (by omega))))).alloc _
  have hgl := (hr4.lt g rfl).1
  obtain ⟨g5, cap, w5, hrun, HC⟩ := coin_added (o := (⟨op, oq, ov, ol, ox, oy, oh, om⟩ : Co)) (h4.mono (by omega)) hX rfl (Joins.ownsRow_le hr4 (by omega)) (fun i hi b hb e => by
    have h6 := (h.keys i hi).2 b hb
    have h7 : g = b := (by simpa [Value.ownBlock] using e)
    omega) hj (by omega) hf
  refine ⟨g5, cap, w5, hrun, ⟨_, HC.out.1⟩, ?_⟩
  have c1 : Below wr.heap.size wr ((((w2.setCell ⟨wr.heap.size, 3, none⟩ (.slice (some ⟨g, 0, none⟩) ol.length gc)).setCell ⟨wr.heap.size, 4, none⟩ (.int .i64 ox)).setCell ⟨wr.heap.size, 5, none⟩ (.int .i64 oy)).alloc (.cells #[.int .i64 op, .int .i64 oq, .int .i64 ov, .slice (some ⟨g, 0, none⟩) ol.length gc, .int .i64 ox, .int .i64 oy, .int .i64 oh, .bool om] 68)) := (((hb1.setCell (p := ⟨wr.heap.size, 3, none⟩) (Nat.le_refl _) _).setCell (p := ⟨wr.heap.size, 4, none⟩) (Nat.le_refl _) _).setCell (p := ⟨wr.heap.size, 5, none⟩) (Nat.le_refl _) _).trans ((below_box _).mono (by simpa using hs2))
  obtain ⟨xs, hv1, _⟩ := h.row
  exact (c1.mono hlo).grown HC.out.2 (by omega) (fun k hk => (hv1.lt k hk).1)

set_option maxRecDepth 20000 in
set_option maxHeartbeats 2000000 in
theorem l4Copy_any (n c : Nat) (a : Option Addr) (cs : List Co) (w : World) (hn : n ≤ 100) (hk : ∀ j, j < n → coinR (cs.getD j C0) = 0) (hC : CAt w a n cs) :
    Calls Tryz.prog 46 #[.slice a n c] w fun e w' => ∃ v kv, e = .returned v ∧ COwn w' w.heap.size w'.heap.size v n (fun j => cs.getD j C0) kv ∧ Below w.heap.size w w' := by
  have HC : Hid (CAt w a n cs) := hC
  have HKL : Hid (∀ j, j < n → coinR (cs.getD j C0) = 0) := hk
  have HE : Hid ((w.alloc (.cells #[] 68)).heap[w.heap.size]? = some (.cells #[] 68 (0, 0))) := heap_alloc_new _ _
  clear hC hk
  go_enter Tryz.func46, Tryz.ntmps46
  go_wp2
  go_loopw [3, 4] (fun v i wr => ∃ j : Nat, j ≤ n ∧ i = .int .i64 j ∧ Hid (∃ kv, COwn wr w.heap.size wr.heap.size v j (fun j => cs.getD j C0) kv) ∧ Below w.heap.size w wr) (fun _ i _ => n - (intOf i).toNat)
  case atStart =>
    refine ⟨0, Nat.zero_le _, rfl, ⟨fun _ => .slice none 0 0, ⟨[], own_empty HE.out (Nat.le_refl _), fun j hj => (by omega)⟩, fun b hb => ?_, fun j hj => (by omega), fun i j _ hj => (by omega)⟩, below_box _⟩
    cases hb
    exact lt_of_block HE.out
  case round =>
    obtain ⟨j, hj, rfl, HO, hbel⟩ := hrel
    by_cases hlt : j < n
    · rcases HC.out.2 with h0 | ⟨b, off, e0, l0, d0⟩
      · omega
      subst e0
      obtain ⟨o, ho⟩ : ∃ o, o = cs.getD j C0 := ⟨_, rfl⟩
      obtain ⟨ka, kc, p0, p4, p5⟩ := d0 j hlt
      have hcr := HKL.out j hlt
      rw [← ho] at p0 p4 p5 hcr
      obtain ⟨_, _, g3, g4⟩ := coin_more hcr
      obtain ⟨op, oq, ov, ol, ox, oy, oh, om⟩ := o
      have HS : Hid (cs.getD j C0 = (⟨op, oq, ov, ol, ox, oy, oh, om⟩ : Co)) := ho.symm
      simp only at p0 p4 p5 g3 g4
      rcases p5.2 with h0 | ⟨kb, ko, ek, hkl, _⟩
      · omega
      subst ek
      obtain ⟨x0, x1, x2, x3, x4, x5, x6, x7⟩ := p0.below hbel l0
      simp only at x0 x1 x2 x3 x4 x5 x6 x7
      have hbx : Below wr.heap.size wr (wr.alloc (.cells #[.int .i64 op, .int .i64 oq, .int .i64 ov, .slice (some ⟨kb, ko, none⟩) ol.length kc, .int .i64 ox, .int .i64 oy, .int .i64 oh, .bool om] 68)) := below_box _
      have hcp := l2Copy_any kb ko ol.length kc ol ox oy (wr.alloc (.cells #[.int .i64 op, .int .i64 oq, .int .i64 ov, .slice (some ⟨kb, ko, none⟩) ol.length kc, .int .i64 ox, .int .i64 oy, .int .i64 oh, .bool om] 68)) (by omega) ((p5.below hbel (Nat.le_refl _)).below hbx (Nat.le_refl _))
      have HX : Hid ((wr.alloc (.cells #[.int .i64 op, .int .i64 oq, .int .i64 ov, .slice (some ⟨kb, ko, none⟩) ol.length kc, .int .i64 ox, .int .i64 oy, .int .i64 oh, .bool om] 68)).heap[wr.heap.size]? = some (.cells #[.int .i64 op, .int .i64 oq, .int .i64 ov, .slice (some ⟨kb, ko, none⟩) ol.length kc, .int .i64 ox, .int .i64 oy, .int .i64 oh, .bool om] 68 (0, 0))) := heap_alloc_new _ _
      clear ho d0 p0 p4 p5 hcr g3 g4 hbx
      have hki : (j : Int) < (n : Int) := by omega
      go_wp2_with (first
        | (go_at_call 63; (with_reducible refine hcp.mono ?_); clear hcp; rintro e w2 ⟨g, gc, rfl, hrow, hb2⟩; obtain ⟨kv, hO⟩ := HO.out; obtain ⟨g5, cap, w5, hrun, HC5⟩ := copy_mid hO HS.out (by omega) hbel.size hb2 hrow; obtain ⟨⟨s0, s1, s2, s3, s4, s5, s6, s7⟩, f0, f1, f2, f3, f4, f5, f6, f7⟩ := cells8 (keepb HX.out hb2).out; clear hrow hb2 hO)
        | (at_builtin; go_must (refine wpList_append_runC (by rfl) _ _ _ (by rfl) (by rfl) (by rfl) hrun ?_); clear hrun))
      go_roundw
      case rel => exact ⟨j + 1, by omega, by go_num, HC5.out.1, hbel.trans HC5.out.2⟩
      case measure => simp [intOf]; omega
    · obtain rfl : j = n := by omega
      go_wp2
      go_ret
      obtain ⟨kv, hO⟩ := HO.out
      exact ⟨_, kv, rfl, hO, hbel⟩

end Go.Proofs.YtbpcabdbnolceaaGreatDoor
