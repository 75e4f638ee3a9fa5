/- SpendTx of the specification at coins that are no good coins; at what was drawn. -/
import Derived.Test.YthjolannlefbcaaGreatDoorIh
import Derived.Test.YthjolannlefbcaaGreatDoorIj
namespace Go.Proofs.YthjolannlefbcaaGreatDoor
open Go.RowKit Go.Shelf Go.Maps Go.WideMaps

set_option maxRecDepth 20000 in
set_option maxHeartbeats 4000000 in
theorem sSpentBy_bad (nc cc : Nat) (ca : Option Addr) (cs : List Co) (n c m d : Nat) (ia oa : Option Addr) (k f : Int) (w : World) (hnc : nc ≤ 1048576) (hkc : ∀ j, j < nc → (cs.getD j C0).l.length ≤ 1048576) (hC : CAt w ca nc cs) (h0 : coinsR cs ≠ 0) :
    Calls Tryz.prog 20 #[.slice ca nc cc, .agg #[.int .i64 k, .int .i64 f, .slice ia n c, .slice oa m d]] w fun e w' => e = .returned (.agg #[.int .i64 (coinsR cs), .slice none 0 0]) ∧ Below w.heap.size w w' := by
  have HW0 : Hid (UBx w ((w.alloc (.cells #[.int .i64 k, .int .i64 f, .slice ia n c, .slice oa m d] 28)).alloc (.cells #[.int .i64 0, .slice none 0 0] 32)) k f ia n c oa m d) := UBx.start
  obtain ⟨y0, y1⟩ := cells2 HW0.out.res
  have f0 := Joins.unfrozen_of_block HW0.out.res 0
  have f1 := Joins.unfrozen_of_block HW0.out.res 1
  have hF1 := l4Fault_any nc cc ca cs ((w.alloc (.cells #[.int .i64 k, .int .i64 f, .slice ia n c, .slice oa m d] 28)).alloc (.cells #[.int .i64 0, .slice none 0 0] 32)) hnc hkc (hC.below HW0.out.bel (Nat.le_refl _))
  obtain ⟨cd, hcd⟩ : ∃ r, r = coinsR cs := ⟨_, rfl⟩
  rw [← hcd] at h0 hF1 ⊢
  clear hcd hC hkc
  go_enter Tryz.func20, Tryz.ntmps20
  go_wp2_with (first
      | (go_at_call 43; (with_reducible refine hF1.mono ?_); clear hF1; rintro e w2 ⟨rfl, hb⟩; have Hw2 : Hid (UBx w w2 k f ia n c oa m d) := HW0.out.step hb; clear hb; clear y0 y1 f0 f1; obtain ⟨y0, y1⟩ := cells2 Hw2.out.res; have f0 := Joins.unfrozen_of_block Hw2.out.res 0; have f1 := Joins.unfrozen_of_block Hw2.out.res 1))
  obtain ⟨j0, j1⟩ := two_set Hw2.out.res (.int .i64 cd) (.slice none 0 0)
  refine bodyPost_ret (v := .agg #[.int .i64 cd, .slice none 0 0]) (by simp [results, Tryz.results20, go_sem, j1]) rfl ?_
  obtain ⟨v, kv, e1, _, e3⟩ := out_code (R := w.heap.size + 1) (cd := cd) (by omega) Hw2.out.bel
  exact ⟨rfl, e3⟩
set_option maxRecDepth 20000 in
set_option maxHeartbeats 4000000 in
theorem sSpendTx_bad (nc cc : Nat) (ca : Option Addr) (cs : List Co) (n c m d : Nat) (ia oa : Option Addr) (k f : Int) (id h : Int) (w : World) (hnc : nc ≤ 1048576) (hkc : ∀ j, j < nc → (cs.getD j C0).l.length ≤ 1048576) (hC : CAt w ca nc cs) (h0 : coinsR cs ≠ 0) :
    Calls Tryz.prog 7 #[.slice ca nc cc, .agg #[.int .i64 k, .int .i64 f, .slice ia n c, .slice oa m d], .int .i64 id, .int .i64 h] w fun e w' => ∃ xv, e = .returned (.agg #[.int .i64 (coinsR cs), xv]) ∧ Below w.heap.size w w' := by
  have HW0 : Hid (UBx w ((w.alloc (.cells #[.int .i64 k, .int .i64 f, .slice ia n c, .slice oa m d] 28)).alloc (.cells #[.int .i64 0, .slice none 0 0] 32)) k f ia n c oa m d) := UBx.start
  obtain ⟨y0, y1⟩ := cells2 HW0.out.res
  have f0 := Joins.unfrozen_of_block HW0.out.res 0
  have f1 := Joins.unfrozen_of_block HW0.out.res 1
  obtain ⟨p0, p1, p2, p3, _⟩ := cells4 HW0.out.tx
  have hS1 := sSpentBy_bad nc cc ca cs n c m d ia oa k f ((w.alloc (.cells #[.int .i64 k, .int .i64 f, .slice ia n c, .slice oa m d] 28)).alloc (.cells #[.int .i64 0, .slice none 0 0] 32)) hnc hkc (hC.below HW0.out.bel (Nat.le_refl _)) h0
  obtain ⟨cd, hcd⟩ : ∃ r, r = coinsR cs := ⟨_, rfl⟩
  rw [← hcd] at h0 hS1 ⊢
  clear hcd hC hkc
  go_enter Tryz.func7, Tryz.ntmps7
  go_wp2_with (first
          | (go_at_call 20; (with_reducible refine hS1.mono ?_); clear hS1; rintro e w2 ⟨rfl, hb⟩; have HW2 : Hid (UBx w (w2.alloc (.cells #[.int .i64 cd, .slice none 0 0] 32)) k f ia n c oa m d) := (HW0.out.step hb).step (below_box _); clear hb; obtain ⟨q0, q1⟩ := cells2 (heap_alloc_new w2 (.cells #[.int .i64 cd, .slice none 0 0] 32)); clear y0 y1 f0 f1; obtain ⟨y0, y1⟩ := cells2 HW2.out.res; have f0 := Joins.unfrozen_of_block HW2.out.res 0; have f1 := Joins.unfrozen_of_block HW2.out.res 1; clear p0 p1 p2 p3; obtain ⟨p0, p1, p2, p3, _⟩ := cells4 HW2.out.tx))
  obtain ⟨j0, j1⟩ := two_set HW2.out.res (.int .i64 cd) (.slice none 0 0)
  refine bodyPost_ret (v := .agg #[.int .i64 cd, .slice none 0 0]) (by simp [results, Tryz.results7, go_sem, j1]) rfl ?_
  obtain ⟨v, kv, e1, _, e3⟩ := out_code (R := w.heap.size + 1) (cd := cd) (by omega) HW2.out.bel
  exact ⟨_, rfl, e3⟩
theorem DrQ.bad {V : World} {B : Nat} {z : Wr} (h : DrQ V B z) : (∃ kv lo hi, COwn V lo hi (.slice z.va z.cs.length z.vc) z.cs.length (fun j => z.cs.getD j C0) kv ∧ B ≤ lo ∧ hi ≤ V.heap.size) ∨ coinsR z.cs ≠ 0 := by
  rcases h.own with q | ⟨_, cs0, h1, h2⟩
  · exact .inl q
  · right
    rw [h2]
    exact twice_bad h1
theorem DrQ.caps {V : World} {B : Nat} {z : Wr} (h : DrQ V B z) : z.rs.length ≤ z.ic ∧ z.ic ≤ maxLen := by
  rcases h.ref.2 with ⟨q, h0⟩ | ⟨g, cap, cur, q, _, _, h1, h2, _⟩
  · injection q with _ _ e3
    rw [e3, h0]; exact ⟨Nat.le_refl _, Nat.zero_le _⟩
  · injection q with _ _ e3
    rw [e3]; exact ⟨h1, h2⟩
theorem spendR_bad {cs : List Co} {k f : Int} {rs : List (Int × Int)} {os : List Ou} {id h : Int} (h0 : coinsR cs ≠ 0) : (spendR cs k f rs os id h).1 = coinsR cs := by
  have h1 : (spentR cs k f rs os).1 = coinsR cs := by unfold spentR; rw [if_pos h0]
  unfold spendR
  rw [if_pos (by rw [h1]; exact h0)]
  exact h1
theorem COwn.lowC {w : World} {lo lo' hi n : Nat} {v : Value} {f : Nat → Co} {kv : Nat → Value} (h : COwn w lo hi v n f kv) (hle : lo' ≤ lo) : COwn w lo' hi v n f kv := by
  obtain ⟨xs, h1, h2⟩ := h.row
  exact ⟨⟨xs, Joins.ownsRow_le h1 hle, h2⟩, h.top, fun j hj => ⟨Joins.ownsRow_le (h.keys j hj).1 hle, (h.keys j hj).2⟩, h.apart⟩
/-- SpendTx of the specification at what was drawn. -/
theorem sSpendTx_dr {V W : World} {B : Nat} {z : Wr} (hq : DrQ V B z) (hW : Below V.heap.size V W) (id hh : Int) :
    Calls Tryz.prog 7 #[.slice z.va z.cs.length z.vc, .agg #[.int .i64 z.k, .int .i64 z.f, .slice z.ia z.rs.length z.ic, .slice z.oa z.os.length z.oc], .int .i64 id, .int .i64 hh] W fun e w' => ∃ xv, e = .returned (.agg #[.int .i64 (spendR z.cs z.k z.f z.rs z.os id hh).1, xv]) ∧ Below W.heap.size W w' := by
  have hT := hq.tx.below hW (Nat.le_refl _)
  have hC := hq.cat.below hW (Nat.le_refl _)
  have hz := hq.zc
  have hk := hq.zk
  have hcap := hq.caps
  have hkc : ∀ j, j < z.cs.length → (z.cs.getD j C0).l.length ≤ 1048576 := fun j hj => by have := hz.2 j hj; omega
  have hko : ∀ j, j < z.os.length → (z.os.getD j O0).l.length ≤ 1048576 := fun j hj => by have := hk.2.2 _ (getD_mem (d := O0) hj); omega
  rcases hq.bad with ⟨kv, lo, hi, hO, h1, h2⟩ | hb
  · refine (sSpendTx_any 0 hi kv z.cs.length z.vc z.va z.cs z.rs.length z.ic z.os.length z.oc z.ia z.oa z.k z.f z.rs z.os id hh W (by omega) hkc (by have := hk.1; omega) (by have := hk.2.1; omega) hcap.1 hcap.2 hko rfl ((hO.below hW).lowC (Nat.zero_le _)) (Nat.zero_le _) hT).mono fun e w' q => ?_
    obtain ⟨v, _, e1, _, e3⟩ := q
    exact ⟨v, e1, e3⟩
  · rw [spendR_bad hb]
    exact sSpendTx_bad z.cs.length z.vc z.va z.cs z.rs.length z.ic z.os.length z.oc z.ia z.oa z.k z.f id hh W (by omega) hkc hC hb
end Go.Proofs.YthjolannlefbcaaGreatDoor
