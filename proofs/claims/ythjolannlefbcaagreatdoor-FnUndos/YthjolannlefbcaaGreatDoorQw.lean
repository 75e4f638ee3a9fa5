/- The specification's SpendTx keeps its contract. -/
import Derived.Test.YthjolannlefbcaaGreatDoorQm
import Derived.Test.YthjolannlefbcaaGreatDoorQq
import Derived.Test.YthjolannlefbcaaGreatDoorQr
import Derived.Test.YthjolannlefbcaaGreatDoorJn8
import Derived.Test.YthjolannlefbcaaGreatDoorJn7
namespace Go.Proofs.YthjolannlefbcaaGreatDoor
open Go.RowKit Go.Maps Go.WideMaps

/-- A code and coins of their own, in the result's block. -/
theorem out_both {w W : World} {R lo : Nat} {cd : Int} {cs : List Co} {va : Option Addr} {vc : Nat} (hR : w.heap.size ≤ R) (hlo : R < lo) (hb : Below w.heap.size w W) (hO : ∃ kv, COwn W lo W.heap.size (.slice va cs.length vc) cs.length (fun j => cs.getD j C0) kv) :
    OutCs w ((W.setCell ⟨R, 0, none⟩ (.int .i64 cd)).setCell ⟨R, 1, none⟩ (.slice va cs.length vc)) (.returned (.agg #[.int .i64 cd, .slice va cs.length vc])) cd cs := by
  obtain ⟨kv, hO⟩ := hO
  have nv : (Value.slice va cs.length vc).ownBlock ≠ some R := fun e => by
    obtain ⟨xs, h1, _⟩ := hO.row
    have := (h1.lt _ e).1
    omega
  have nk : ∀ j, j < cs.length → (kv j).ownBlock ≠ some R := fun j hj e => by have := ((hO.keys j hj).1.lt _ e).1; omega
  exact ⟨_, kv, rfl, ((hO.set2 nv nk 0 (.int .i64 cd)).set2 nv nk 1 (.slice va cs.length vc)).lower (by omega) (by simp), (hb.setCell (p := ⟨R, 0, none⟩) hR _).setCell (p := ⟨R, 1, none⟩) hR _⟩
theorem spentR_none {cs : List Co} {k f : Int} {rs : List (Int × Int)} {os : List Ou} (h : (spentR cs k f rs os).1 ≠ 0) : (spentR cs k f rs os).2 = [] := by
  unfold spentR at h ⊢
  by_cases h1 : coinsR cs ≠ 0
  · rw [if_pos h1]
  rw [if_neg h1] at h ⊢
  by_cases h2 : txR k f rs os ≠ 0
  · rw [if_pos h2]
  rw [if_neg h2] at h ⊢
  by_cases h3 : rs.all (hasC cs) = true
  · rw [if_pos h3] at h; exact absurd rfl h
  · rw [if_neg h3]
theorem spentR_facts {cs : List Co} {k f : Int} {rs : List (Int × Int)} {os : List Ou} (h : (spentR cs k f rs os).1 = 0) : coinsR cs = 0 ∧ txR k f rs os = 0 ∧ rs.all (hasC cs) = true := by
  unfold spentR at h
  by_cases h1 : coinsR cs ≠ 0
  · rw [if_pos h1] at h; exact absurd h h1
  rw [if_neg h1] at h
  by_cases h2 : txR k f rs os ≠ 0
  · rw [if_pos h2] at h; exact absurd h h2
  rw [if_neg h2] at h
  by_cases h3 : rs.all (hasC cs) = true
  · exact ⟨by simpa using h1, by simpa using h2, h3⟩
  · rw [if_neg h3] at h; cases h

set_option maxRecDepth 20000 in
set_option maxHeartbeats 4000000 in
theorem sSpendTx_any (lo hi : Nat) (kv : Nat → Value) (nc cc : Nat) (ca : Option Addr) (cs : List Co) (n c m d : Nat) (ia oa : Option Addr) (k f : Int) (rs : List (Int × Int)) (os : List Ou) (id h : Int) (w : World) (hnc : nc ≤ 1048576) (hkc : ∀ j, j < nc → (cs.getD j C0).l.length ≤ 1048576)
    (hn : n ≤ 1048576) (hm : m ≤ 1048576) (hc1 : n ≤ c) (hc2 : c ≤ maxLen) (hk : ∀ j, j < m → (os.getD j O0).l.length ≤ 1048576) (hlc : cs.length = nc) (hO : COwn w lo hi (.slice ca nc cc) nc (fun j => cs.getD j C0) kv) (hlo : lo ≤ w.heap.size) (hT : TxAt w ia n oa m rs os) :
    Calls Tryz.prog 7 #[.slice ca nc cc, .agg #[.int .i64 k, .int .i64 f, .slice ia n c, .slice oa m d], .int .i64 id, .int .i64 h] w fun e w' => OutCs w w' e (spendR cs k f rs os id h).1 (spendR cs k f rs os id h).2 := by
  have HW0 : Hid (UBx w ((w.alloc (.cells #[.int .i64 k, .int .i64 f, .slice ia n c, .slice oa m d] 28)).alloc (.cells #[.int .i64 0, .slice none 0 0] 32)) k f ia n c oa m d) := UBx.start
  obtain ⟨y0, y1⟩ := cells2 HW0.out.res
  have f0 := Joins.unfrozen_of_block HW0.out.res 0
  have f1 := Joins.unfrozen_of_block HW0.out.res 1
  obtain ⟨p0, p1, p2, p3, _⟩ := cells4 HW0.out.tx
  have hC : CAt w ca nc cs := own_at2 hO hlc hkc
  obtain ⟨cd, hcd⟩ : ∃ x, x = (spentR cs k f rs os).1 := ⟨_, rfl⟩
  obtain ⟨ts, hts⟩ : ∃ x, x = (spentR cs k f rs os).2 := ⟨_, rfl⟩
  have hS1 : Calls Tryz.prog 20 #[.slice ca nc cc, .agg #[.int .i64 k, .int .i64 f, .slice ia n c, .slice oa m d]] ((w.alloc (.cells #[.int .i64 k, .int .i64 f, .slice ia n c, .slice oa m d] 28)).alloc (.cells #[.int .i64 0, .slice none 0 0] 32)) fun e w' => ∃ xa xc, e = .returned (.agg #[.int .i64 cd, .slice xa ts.length xc]) ∧ Hid (∃ kv, COwn w' ((w.alloc (.cells #[.int .i64 k, .int .i64 f, .slice ia n c, .slice oa m d] 28)).alloc (.cells #[.int .i64 0, .slice none 0 0] 32)).heap.size w'.heap.size (.slice xa ts.length xc) ts.length (fun j => ts.getD j C0) kv) ∧ Below ((w.alloc (.cells #[.int .i64 k, .int .i64 f, .slice ia n c, .slice oa m d] 28)).alloc (.cells #[.int .i64 0, .slice none 0 0] 32)).heap.size ((w.alloc (.cells #[.int .i64 k, .int .i64 f, .slice ia n c, .slice oa m d] 28)).alloc (.cells #[.int .i64 0, .slice none 0 0] 32)) w' := (sSpentBy_any nc cc lo hi ca cs kv n c m d ia oa k f rs os ((w.alloc (.cells #[.int .i64 k, .int .i64 f, .slice ia n c, .slice oa m d] 28)).alloc (.cells #[.int .i64 0, .slice none 0 0] 32)) hnc hkc hn hm hc1 hc2 hk hlc (hO.below HW0.out.bel) (Nat.le_trans hlo HW0.out.bel.size) (hT.below HW0.out.bel (Nat.le_refl _))).mono fun e w' ⟨v, kv', e1, hO', hb⟩ => by
    rw [← hcd] at e1
    rw [← hts] at hO'
    obtain ⟨va, vc, hv⟩ := own_slice3 ⟨kv', hO'⟩
    subst hv
    exact ⟨va, vc, e1, ⟨kv', hO'⟩, hb⟩
  have HOF : ∀ v, UBx w v k f ia n c oa m d → Calls Tryz.prog 21 #[.slice ca nc cc, .int .i64 id] v fun e w' => e = .returned (.bool (hasT cs id)) ∧ w' = v := fun v hv => l4Of_any nc cc ca cs id v hnc (hC.below hv.bel (Nat.le_refl _))
  unfold spendR
  rw [← hcd]
  by_cases h0 : cd = 0
  · rw [if_neg (by simp [h0])]
    obtain ⟨g1, g2, g3⟩ := spentR_facts (hcd.symm.trans h0)
    subst h0
    obtain ⟨hb, hhb⟩ : ∃ b, b = hasT cs id := ⟨_, rfl⟩
    rw [← hhb] at HOF ⊢
    cases hb
    · rw [if_neg (by simp)]
      obtain ⟨hc40, hcg, hcr⟩ := coins_rise g1
      obtain ⟨hrb, hrd, hr4, ho4⟩ := tx_facts g2
      rw [hlc] at hc40
      rw [hT.r.1] at hr4
      obtain ⟨zs, hzs⟩ : ∃ z, z = outC2 cs rs := ⟨_, rfl⟩
      have hzl : zs.length ≤ 40 := by rw [hzs, ← hlc] at *; exact Nat.le_trans (List.length_filter_le _ _) hc40
      have hzg : ∀ j, j < zs.length → (zs.getD j C0).l.length ≤ 1048576 := fun j hj => by
        have := getC_mem hj
        rw [hzs] at this
        have := (coin_more (hcg _ (List.mem_filter.1 this).1)).2.2.2
        rw [hzs]
        omega
      have HTK : ∀ v, UBx w v k f ia n c oa m d → Calls Tryz.prog 22 #[.slice ca nc cc, .slice ia n c] v fun e w' => ∃ ra rc, e = .returned (.tuple #[.slice ra zs.length rc, .bool true]) ∧ Hid (CAt w' ra zs.length zs) ∧ Below v.heap.size v w' := fun v hv =>
        (l4Take_any nc cc n c ca ia cs rs v hc40 hcg hcr hr4 (hC.below hv.bel (Nat.le_refl _)) (hT.r.below hv.bel (Nat.le_refl _))).mono fun e w' q => by
          rw [go_out hrd (List.all_eq_true.1 g3), ← hzs] at q
          rcases q.2 with ⟨ts', e1, va, vc, e2, kv', e3⟩ | ⟨e1, _⟩
          · have := (Prod.mk.inj e1).2
            subst this
            exact ⟨va, vc, e2, own_at2 e3 rfl hzg, q.1⟩
          · cases (Prod.mk.inj e1).1
      obtain ⟨u, hu⟩ : ∃ u, u = (putR zs id os h false).1 := ⟨_, rfl⟩
      obtain ⟨qs, hqs⟩ : ∃ u, u = (putR zs id os h false).2 := ⟨_, rfl⟩
      have HPT : ∀ v ra rc, UBx w v k f ia n c oa m d → CAt v ra zs.length zs → Calls Tryz.prog 23 #[.slice ra zs.length rc, .int .i64 id, .slice oa m d, .int .i64 h, .bool false] v fun e w' => ∃ va vc, e = .returned (.agg #[.int .i64 u, .slice va qs.length vc]) ∧ Hid (∃ kv, COwn w' v.heap.size w'.heap.size (.slice va qs.length vc) qs.length (fun j => qs.getD j C0) kv) ∧ Below v.heap.size v w' := fun v ra rc hv hc =>
        (sPutCoins_any zs.length rc m d ra oa zs id h false os v (by omega) hzg hm hk hc (hT.o.below hv.bel (Nat.le_refl _))).mono fun e w' ⟨v', kv', e1, hO', hb⟩ => by
          rw [← hu] at e1
          rw [← hqs] at hO'
          obtain ⟨va, vc, hv⟩ := own_slice3 ⟨kv', hO'⟩
          subst hv
          exact ⟨va, vc, e1, ⟨kv', hO'⟩, hb⟩
      rw [← hzs, ← hu, ← hqs]
      clear hcd hts hT hk hC hkc hO hu hqs hzs hzg hhb g1 g2 g3 hcg hcr hrb hrd
      go_enter Tryz.func7, Tryz.ntmps7
      go_wp2_with (first
          | (go_at_call 20; (with_reducible refine hS1.mono ?_); clear hS1; rintro e w2 ⟨xa, xc, rfl, HO2, hb⟩; have HW2 : Hid (UBx w (w2.alloc (.cells #[.int .i64 0, .slice xa ts.length xc] 32)) k f ia n c oa m d) := (HW0.out.step hb).step (below_box _); clear hb; obtain ⟨q0, q1⟩ := cells2 (heap_alloc_new w2 (.cells #[.int .i64 0, .slice xa ts.length xc] 32)); clear y0 y1 f0 f1; obtain ⟨y0, y1⟩ := cells2 HW2.out.res; have f0 := Joins.unfrozen_of_block HW2.out.res 0; have f1 := Joins.unfrozen_of_block HW2.out.res 1; clear p0 p1 p2 p3; obtain ⟨p0, p1, p2, p3, _⟩ := cells4 HW2.out.tx; have hOf := HOF (w2.alloc (.cells #[.int .i64 0, .slice xa ts.length xc] 32)) HW2.out)
          | (go_at_call 21; (with_reducible refine hOf.mono ?_); clear hOf; rintro e w3 ⟨rfl, hw3⟩; have hw4 := hw3.symm; subst hw4; have hTk := HTK (w2.alloc (.cells #[.int .i64 0, .slice xa ts.length xc] 32)) HW2.out)
          | (go_at_call 22; (with_reducible refine hTk.mono ?_); clear hTk; rintro e w4 ⟨ra, rc, rfl, HCR, hb⟩; have HW4 : Hid (UBx w w4 k f ia n c oa m d) := HW2.out.step hb; clear hb; clear p0 p1 p2 p3; obtain ⟨p0, p1, p2, p3, _⟩ := cells4 HW4.out.tx; have hPt := HPT w4 ra rc HW4.out HCR.out)
          | (go_at_call 23; (with_reducible refine hPt.mono ?_); clear hPt; rintro e w5 ⟨va, vc, rfl, HO5, hb⟩; have HW5 : Hid (UBx w w5 k f ia n c oa m d) := HW4.out.step hb; clear hb; clear y0 y1 f0 f1 p0 p1 p2 p3; obtain ⟨y0, y1⟩ := cells2 HW5.out.res; have f0 := Joins.unfrozen_of_block HW5.out.res 0; have f1 := Joins.unfrozen_of_block HW5.out.res 1))
      have hbg := HW4.out.big
      obtain ⟨_, j1⟩ := two_set HW5.out.res (.int .i64 u) (.slice va qs.length vc)
      exact bodyPost_ret (v := .agg #[.int .i64 u, .slice va qs.length vc]) (by simp [results, Tryz.results7, go_sem, j1]) rfl (out_both (lo := w4.heap.size) (by omega) (by omega) HW5.out.bel HO5.out)
    · rw [if_pos rfl]
      have HTK : ∀ v, UBx w v k f ia n c oa m d → True := fun _ _ => trivial
      clear hcd hts hT hk hC hkc hO hhb g1 g2 g3
      go_enter Tryz.func7, Tryz.ntmps7
      go_wp2_with (first
          | (go_at_call 20; (with_reducible refine hS1.mono ?_); clear hS1; rintro e w2 ⟨xa, xc, rfl, HO2, hb⟩; have HW2 : Hid (UBx w (w2.alloc (.cells #[.int .i64 0, .slice xa ts.length xc] 32)) k f ia n c oa m d) := (HW0.out.step hb).step (below_box _); clear hb; obtain ⟨q0, q1⟩ := cells2 (heap_alloc_new w2 (.cells #[.int .i64 0, .slice xa ts.length xc] 32)); clear y0 y1 f0 f1; obtain ⟨y0, y1⟩ := cells2 HW2.out.res; have f0 := Joins.unfrozen_of_block HW2.out.res 0; have f1 := Joins.unfrozen_of_block HW2.out.res 1; clear p0 p1 p2 p3; obtain ⟨p0, p1, p2, p3, _⟩ := cells4 HW2.out.tx; have hOf := HOF (w2.alloc (.cells #[.int .i64 0, .slice xa ts.length xc] 32)) HW2.out)
          | (go_at_call 21; (with_reducible refine hOf.mono ?_); clear hOf; rintro e w3 ⟨rfl, hw3⟩; have hw4 := hw3.symm; subst hw4; have hTk := HTK (w2.alloc (.cells #[.int .i64 0, .slice xa ts.length xc] 32)) HW2.out))
      obtain ⟨_, j1⟩ := two_set HW2.out.res (.int .i64 7) (.slice none 0 0)
      exact bodyPost_ret (v := .agg #[.int .i64 7, .slice none 0 0]) (by simp [results, Tryz.results7, go_sem, j1]) rfl (out_code (by omega) HW2.out.bel)
  · rw [if_pos h0]
    have hn0 : ts = [] := by rw [hts]; exact spentR_none (by rw [← hcd]; exact h0)
    subst hn0
    clear hcd hts hT hk hC hkc hO
    go_enter Tryz.func7, Tryz.ntmps7
    go_wp2_with (first
          | (go_at_call 20; (with_reducible refine hS1.mono ?_); clear hS1; rintro e w2 ⟨xa, xc, rfl, HO2, hb⟩; have HW2 : Hid (UBx w (w2.alloc (.cells #[.int .i64 cd, .slice xa 0 xc] 32)) k f ia n c oa m d) := (HW0.out.step hb).step (below_box _); clear hb; obtain ⟨q0, q1⟩ := cells2 (heap_alloc_new w2 (.cells #[.int .i64 cd, .slice xa 0 xc] 32)); clear y0 y1 f0 f1; obtain ⟨y0, y1⟩ := cells2 HW2.out.res; have f0 := Joins.unfrozen_of_block HW2.out.res 0; have f1 := Joins.unfrozen_of_block HW2.out.res 1; clear p0 p1 p2 p3; obtain ⟨p0, p1, p2, p3, _⟩ := cells4 HW2.out.tx; have hOf := HOF (w2.alloc (.cells #[.int .i64 cd, .slice xa 0 xc] 32)) HW2.out))
    obtain ⟨_, j1⟩ := two_set HW2.out.res (.int .i64 cd) (.slice xa 0 xc)
    have HO3 : Hid (∃ kv, COwn (w2.alloc (.cells #[.int .i64 cd, .slice xa 0 xc] 32)) ((w.alloc (.cells #[.int .i64 k, .int .i64 f, .slice ia n c, .slice oa m d] 28)).alloc (.cells #[.int .i64 0, .slice none 0 0] 32)).heap.size (w2.alloc (.cells #[.int .i64 cd, .slice xa 0 xc] 32)).heap.size (.slice xa ([] : List Co).length xc) ([] : List Co).length (fun j => ([] : List Co).getD j C0) kv) := own_step (ts := []) HO2 (below_box _)
    exact bodyPost_ret (v := .agg #[.int .i64 cd, .slice xa 0 xc]) (by simp [results, Tryz.results7, go_sem, j1]) rfl (out_both (cs := []) (lo := ((w.alloc (.cells #[.int .i64 k, .int .i64 f, .slice ia n c, .slice oa m d] 28)).alloc (.cells #[.int .i64 0, .slice none 0 0] 32)).heap.size) (by omega) (by rw [(blocks2 w _ _).2.2]; omega) HW2.out.bel HO3.out)

end Go.Proofs.YthjolannlefbcaaGreatDoor
