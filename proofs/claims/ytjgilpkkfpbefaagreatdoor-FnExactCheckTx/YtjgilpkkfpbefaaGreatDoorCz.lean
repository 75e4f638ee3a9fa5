/- The specification's CoinAt. -/
import Derived.Test.YtjgilpkkfpbefaaGreatDoorJn4
namespace Go.Proofs.YtjgilpkkfpbefaaGreatDoor
open Go.RowKit Go.Maps Go.WideMaps

/-- Behind the copy of a coin's keys. -/
theorem copy_mid {wr w2 : World} {lo j g gc : Nat} {v : Value} {f : Nat → Co} {kv : Nat → Value} {op oq ov : Int} {ol : List Int} {ox oy oh : Int} {om : Bool} {kb ko kc : Nat} (h : COwn wr lo wr.heap.size v j f kv) (hf : f j = (⟨op, oq, ov, ol, ox, oy, oh, om⟩ : Co)) (hj : j ≤ 1000) (hlo : lo ≤ wr.heap.size)
    (hb : Below (wr.alloc (.cells #[.int .i64 op, .int .i64 oq, .int .i64 ov, .slice (some ⟨kb, ko, none⟩) ol.length kc, .int .i64 ox, .int .i64 oy, .int .i64 oh, .bool om] 86)).heap.size (wr.alloc (.cells #[.int .i64 op, .int .i64 oq, .int .i64 ov, .slice (some ⟨kb, ko, none⟩) ol.length kc, .int .i64 ox, .int .i64 oy, .int .i64 oh, .bool om] 86)) w2) (hrow : w2.ownsRow ((wr.alloc (.cells #[.int .i64 op, .int .i64 oq, .int .i64 ov, .slice (some ⟨kb, ko, none⟩) ol.length kc, .int .i64 ox, .int .i64 oy, .int .i64 oh, .bool om] 86)).heap.size + 1 + 1) 2 1 (.slice (some ⟨g, 0, none⟩) ol.length gc) ol.length (ints ol)) :
    ∃ g5 cap w5, (Builtin.append_ #[41, 41] 41 #[v, .slice (some ⟨w2.heap.size, 0, none⟩) 1 1]).run Tryz.prog ((((w2.setCell ⟨wr.heap.size, 3, none⟩ (.slice (some ⟨g, 0, none⟩) ol.length gc)).setCell ⟨wr.heap.size, 4, none⟩ (.int .i64 ox)).setCell ⟨wr.heap.size, 5, none⟩ (.int .i64 oy)).alloc (.cells #[.int .i64 op, .int .i64 oq, .int .i64 ov, .slice (some ⟨g, 0, none⟩) ol.length gc, .int .i64 ox, .int .i64 oy, .int .i64 oh, .bool om] 86)) = .ok (.slice (some ⟨g5, 0, none⟩) (j + 1) cap) w5 ∧
      Hid ((∃ kv', COwn w5 lo w5.heap.size (.slice (some ⟨g5, 0, none⟩) (j + 1) cap) (j + 1) f kv') ∧ Below lo wr w5) := by
  have hsz : (wr.alloc (.cells #[.int .i64 op, .int .i64 oq, .int .i64 ov, .slice (some ⟨kb, ko, none⟩) ol.length kc, .int .i64 ox, .int .i64 oy, .int .i64 oh, .bool om] 86)).heap.size = wr.heap.size + 1 := by simp
  have hb1 : Below wr.heap.size wr w2 := (below_box _).trans (hb.mono (by omega))
  have h2 : COwn w2 lo wr.heap.size v j f kv := h.below hb1
  have nv : v.ownBlock ≠ some wr.heap.size := fun e => by have := h.top _ e; omega
  have nk : ∀ i, i < j → (kv i).ownBlock ≠ some wr.heap.size := fun i hi e => by have := (h.keys i hi).2 _ e; omega
  have h3 := ((h2.set2 nv nk 3 (.slice (some ⟨g, 0, none⟩) ol.length gc)).set2 nv nk 4 (.int .i64 ox)).set2 nv nk 5 (.int .i64 oy)
  have h4 : COwn ((((w2.setCell ⟨wr.heap.size, 3, none⟩ (.slice (some ⟨g, 0, none⟩) ol.length gc)).setCell ⟨wr.heap.size, 4, none⟩ (.int .i64 ox)).setCell ⟨wr.heap.size, 5, none⟩ (.int .i64 oy)).alloc (.cells #[.int .i64 op, .int .i64 oq, .int .i64 ov, .slice (some ⟨g, 0, none⟩) ol.length gc, .int .i64 ox, .int .i64 oy, .int .i64 oh, .bool om] 86)) lo wr.heap.size v j f kv := h3.below (below_box _)
  have hs2 : wr.heap.size ≤ w2.heap.size := hb1.size
  have hsz4 : ((((w2.setCell ⟨wr.heap.size, 3, none⟩ (.slice (some ⟨g, 0, none⟩) ol.length gc)).setCell ⟨wr.heap.size, 4, none⟩ (.int .i64 ox)).setCell ⟨wr.heap.size, 5, none⟩ (.int .i64 oy)).alloc (.cells #[.int .i64 op, .int .i64 oq, .int .i64 ov, .slice (some ⟨g, 0, none⟩) ol.length gc, .int .i64 ox, .int .i64 oy, .int .i64 oh, .bool om] 86)).heap.size = w2.heap.size + 1 := by simp
  have hX : ((((w2.setCell ⟨wr.heap.size, 3, none⟩ (.slice (some ⟨g, 0, none⟩) ol.length gc)).setCell ⟨wr.heap.size, 4, none⟩ (.int .i64 ox)).setCell ⟨wr.heap.size, 5, none⟩ (.int .i64 oy)).alloc (.cells #[.int .i64 op, .int .i64 oq, .int .i64 ov, .slice (some ⟨g, 0, none⟩) ol.length gc, .int .i64 ox, .int .i64 oy, .int .i64 oh, .bool om] 86)).heap[w2.heap.size]? = some (.cells #[.int .i64 op, .int .i64 oq, .int .i64 ov, .slice (some ⟨g, 0, none⟩) ol.length gc, .int .i64 ox, .int .i64 oy, .int .i64 oh, .bool om] 86 (0, 0)) := by
    have := heap_alloc_new (((w2.setCell ⟨wr.heap.size, 3, none⟩ (.slice (some ⟨g, 0, none⟩) ol.length gc)).setCell ⟨wr.heap.size, 4, none⟩ (.int .i64 ox)).setCell ⟨wr.heap.size, 5, none⟩ (.int .i64 oy)) (.cells #[.int .i64 op, .int .i64 oq, .int .i64 ov, .slice (some ⟨g, 0, none⟩) ol.length gc, .int .i64 ox, .int .i64 oy, .int .i64 oh, .bool om] 86)
    simpa using this
  have st : ∀ (W : World) (i : Nat) (z : Value), W.ownsRow (wr.heap.size + 1) 2 1 (.slice (some ⟨g, 0, none⟩) ol.length gc) ol.length (ints ol) → (W.setCell ⟨wr.heap.size, i, none⟩ z).ownsRow (wr.heap.size + 1) 2 1 (.slice (some ⟨g, 0, none⟩) ol.length gc) ol.length (ints ol) := fun W i z hW => ownsRow_setCell_below hW (a := ⟨wr.heap.size, i, none⟩) (show wr.heap.size < _ by omega) z
  have hr4 : ((((w2.setCell ⟨wr.heap.size, 3, none⟩ (.slice (some ⟨g, 0, none⟩) ol.length gc)).setCell ⟨wr.heap.size, 4, none⟩ (.int .i64 ox)).setCell ⟨wr.heap.size, 5, none⟩ (.int .i64 oy)).alloc (.cells #[.int .i64 op, .int .i64 oq, .int .i64 ov, .slice (some ⟨g, 0, none⟩) ol.length gc, .int .i64 ox, .int .i64 oy, .int .i64 oh, .bool om] 86)).ownsRow (wr.heap.size + 1) 2 1 (.slice (some ⟨g, 0, none⟩) ol.length gc) ol.length (ints ol) := (st _ _ _ (st _ _ _ (st _ _ _ (Joins.ownsRow_le hrow (by omega))))).alloc _
  have hgl := (hr4.lt g rfl).1
  obtain ⟨g5, cap, w5, hrun, HC⟩ := coin_added (o := (⟨op, oq, ov, ol, ox, oy, oh, om⟩ : Co)) (h4.mono (by omega)) hX rfl (Joins.ownsRow_le hr4 (by omega)) (fun i hi b hb e => by
    have h6 := (h.keys i hi).2 b hb
    have h7 : g = b := (by simpa [Value.ownBlock] using e)
    omega) hj (by omega) hf
  refine ⟨g5, cap, w5, hrun, ⟨_, HC.out.1⟩, ?_⟩
  have c1 : Below wr.heap.size wr ((((w2.setCell ⟨wr.heap.size, 3, none⟩ (.slice (some ⟨g, 0, none⟩) ol.length gc)).setCell ⟨wr.heap.size, 4, none⟩ (.int .i64 ox)).setCell ⟨wr.heap.size, 5, none⟩ (.int .i64 oy)).alloc (.cells #[.int .i64 op, .int .i64 oq, .int .i64 ov, .slice (some ⟨g, 0, none⟩) ol.length gc, .int .i64 ox, .int .i64 oy, .int .i64 oh, .bool om] 86)) := (((hb1.setCell (p := ⟨wr.heap.size, 3, none⟩) (Nat.le_refl _) _).setCell (p := ⟨wr.heap.size, 4, none⟩) (Nat.le_refl _) _).setCell (p := ⟨wr.heap.size, 5, none⟩) (Nat.le_refl _) _).trans ((below_box _).mono (by simpa using hs2))
  obtain ⟨xs, hv1, _⟩ := h.row
  exact (c1.mono hlo).grown HC.out.2 (by omega) (fun k hk => (hv1.lt k hk).1)

set_option maxRecDepth 20000 in
set_option maxHeartbeats 2000000 in
theorem l4Copy_any (n c : Nat) (a : Option Addr) (cs : List Co) (w : World) (hn : n ≤ 100) (hk : ∀ j, j < n → coinR (cs.getD j C0) = 0) (hC : CAt w a n cs) :
    Calls Tryz.prog 77 #[.slice a n c] w fun e w' => ∃ v kv, e = .returned v ∧ COwn w' w.heap.size w'.heap.size v n (fun j => cs.getD j C0) kv ∧ Below w.heap.size w w' := by
  have HC : Hid (CAt w a n cs) := hC
  have HKL : Hid (∀ j, j < n → coinR (cs.getD j C0) = 0) := hk
  have HE : Hid ((w.alloc (.cells #[] 86)).heap[w.heap.size]? = some (.cells #[] 86 (0, 0))) := heap_alloc_new _ _
  clear hC hk
  go_enter Tryz.func77, Tryz.ntmps77
  go_wp2
  go_loopw [3, 4] (fun v i wr => ∃ j : Nat, j ≤ n ∧ i = .int .i64 j ∧ Hid (∃ kv, COwn wr w.heap.size wr.heap.size v j (fun j => cs.getD j C0) kv) ∧ Below w.heap.size w wr) (fun _ i _ => n - (intOf i).toNat)
  case atStart =>
    refine ⟨0, Nat.zero_le _, rfl, ⟨fun _ => .slice none 0 0, ⟨[], own_empty HE.out (Nat.le_refl _), fun j hj => (by omega)⟩, fun b hb => ?_, fun j hj => (by omega), fun i j _ hj => (by omega)⟩, below_box _⟩
    cases hb
    exact lt_of_block HE.out
  case round =>
    obtain ⟨j, hj, rfl, HO, hbel⟩ := hrel
    by_cases hlt : j < n
    · rcases HC.out.2 with h0 | ⟨b, off, e0, l0, d0⟩
      · omega
      subst e0
      obtain ⟨o, ho⟩ : ∃ o, o = cs.getD j C0 := ⟨_, rfl⟩
      obtain ⟨ka, kc, p0, p4, p5⟩ := d0 j hlt
      have hcr := HKL.out j hlt
      rw [← ho] at p0 p4 p5 hcr
      obtain ⟨_, _, g3, g4⟩ := coin_more hcr
      obtain ⟨op, oq, ov, ol, ox, oy, oh, om⟩ := o
      have HS : Hid (cs.getD j C0 = (⟨op, oq, ov, ol, ox, oy, oh, om⟩ : Co)) := ho.symm
      simp only at p0 p4 p5 g3 g4
      rcases p5.2 with h0 | ⟨kb, ko, ek, hkl, _⟩
      · omega
      subst ek
      obtain ⟨x0, x1, x2, x3, x4, x5, x6, x7⟩ := p0.below hbel l0
      simp only at x0 x1 x2 x3 x4 x5 x6 x7
      have hbx : Below wr.heap.size wr (wr.alloc (.cells #[.int .i64 op, .int .i64 oq, .int .i64 ov, .slice (some ⟨kb, ko, none⟩) ol.length kc, .int .i64 ox, .int .i64 oy, .int .i64 oh, .bool om] 86)) := below_box _
      have hcp := l2Copy_any kb ko ol.length kc ol ox oy (wr.alloc (.cells #[.int .i64 op, .int .i64 oq, .int .i64 ov, .slice (some ⟨kb, ko, none⟩) ol.length kc, .int .i64 ox, .int .i64 oy, .int .i64 oh, .bool om] 86)) (by omega) ((p5.below hbel (Nat.le_refl _)).below hbx (Nat.le_refl _))
      have HX : Hid ((wr.alloc (.cells #[.int .i64 op, .int .i64 oq, .int .i64 ov, .slice (some ⟨kb, ko, none⟩) ol.length kc, .int .i64 ox, .int .i64 oy, .int .i64 oh, .bool om] 86)).heap[wr.heap.size]? = some (.cells #[.int .i64 op, .int .i64 oq, .int .i64 ov, .slice (some ⟨kb, ko, none⟩) ol.length kc, .int .i64 ox, .int .i64 oy, .int .i64 oh, .bool om] 86 (0, 0))) := heap_alloc_new _ _
      clear ho d0 p0 p4 p5 hcr g3 g4 hbx
      have hki : (j : Int) < (n : Int) := by omega
      go_wp2_with (first
        | (go_at_call 102; (with_reducible refine hcp.mono ?_); clear hcp; rintro e w2 ⟨g, gc, rfl, hrow, hb2⟩; obtain ⟨kv, hO⟩ := HO.out; obtain ⟨g5, cap, w5, hrun, HC5⟩ := copy_mid hO HS.out (by omega) hbel.size hb2 hrow; obtain ⟨⟨s0, s1, s2, s3, s4, s5, s6, s7⟩, f0, f1, f2, f3, f4, f5, f6, f7⟩ := cells8 (keepb HX.out hb2).out; clear hrow hb2 hO)
        | (at_builtin; go_must (refine wpList_append_runC (by rfl) _ _ _ (by rfl) (by rfl) (by rfl) hrun ?_); clear hrun))
      go_roundw
      case rel => exact ⟨j + 1, by omega, by go_num, HC5.out.1, hbel.trans HC5.out.2⟩
      case measure => simp [intOf]; omega
    · obtain rfl : j = n := by omega
      go_wp2
      go_ret
      obtain ⟨kv, hO⟩ := HO.out
      exact ⟨_, kv, rfl, hO, hbel⟩

end Go.Proofs.YtjgilpkkfpbefaaGreatDoor
