/- The law FnCoins answers true, whatever bytes come in, and writes nothing that was there. -/
import Derived.Test.YtdfijlcjmllplaaOq
import Derived.Test.YtdfijlcjmllplaaOs
import Derived.Test.YtdfijlcjmllplaaEd
import Derived.Test.YtdfijlcjmllplaaLPutCoins
import Derived.Test.YtdfijlcjmllplaaJn5
import Derived.Test.YtdfijlcjmllplaaJn3
import Derived.Test.YtdfijlcjmllplaaCnX
import Derived.Test.YtdfijlcjmllplaaLCoinAt
import Derived.Deep.CutRange
import Derived.Lib.QuietBelow
namespace Go.Proofs.Ytdfijlcjmllplaa
open Go.RowKit Go.Shelf Go.Maps Go.WideMaps Go.Sort

theorem lwBigC_any (cn cc : Nat) (ca : Option Addr) (w : World) : Calls Try.prog 4 #[.slice ca cn cc] w fun e w' => e = .returned (.bool (decide ((1048576 : Int) < (cn : Int)))) ∧ w' = w := by
  go_enter Try.func4, Try.ntmps4
  go_wp2
  go_ret
  exact ⟨rfl, rfl⟩
theorem fieldCs0 (c : Int) (v : Value) (W : World) : (Instr.field 29 (.agg #[.int .i64 c, v]) 0).run Try.prog W = .ok (.int .i64 c) W := by kernel_rfl
theorem fieldI1 (c d : Int) (W : World) : (Instr.field 44 (.agg #[.int .i64 c, .int .i64 d]) 1).run Try.prog W = .ok (.int .i64 d) W := by kernel_rfl
theorem outV_top {os : List Ou} (ho : outsR os = 0) : ∀ k, k ≤ os.length → 0 ≤ outV os k ∧ outV os k ≤ 1000000 * (k : Int)
  | 0, _ => ⟨Int.le_refl _, Int.le_refl _⟩
  | k + 1, hk => by
    have h1 := outV_top ho k (by omega)
    have hm : os.getD k O0 ∈ os := by
      rw [List.getD_eq_getElem?_getD, List.getElem?_eq_getElem (by omega : k < os.length)]; exact List.getElem_mem _
    have h2 := (outs_each ho _ hm).1
    rw [outV_succ]
    omega
theorem val_of {os : List Ou} (ho : outsR os = 0) {k : Nat} (hk : k < os.length) : 1 ≤ (os.getD k O0).v ∧ (os.getD k O0).v ≤ 1000000 := by
  have hm : os.getD k O0 ∈ os := by
    rw [List.getD_eq_getElem?_getD, List.getElem?_eq_getElem hk]; exact List.getElem_mem _
  exact (outs_each ho _ hm).1
/-- The refs that the loop has gathered, in memory of their own. -/
def RefsW (V W : World) (ra : Option Addr) (rc k : Nat) (t : Int) : Prop :=
  Below V.heap.size V W ∧ W.ownsRow V.heap.size 38 2 (.slice ra k rc) k (gcells (newRs t k))
theorem refsW_start (V : World) (t : Int) : RefsW V (V.alloc (.cells #[] 38)) (some ⟨V.heap.size, 0, none⟩) 0 0 t :=
  ⟨below_box _, ⟨rfl, .inr ⟨V.heap.size, 0, #[], rfl, Nat.le_refl _, heap_alloc_new _ _, Nat.le_refl _, by unfold maxLen; omega, rfl, rfl⟩⟩⟩
theorem RefsW.step {V W W' : World} {ra : Option Addr} {rc k : Nat} {t : Int} (h : RefsW V W ra rc k t) (hb : Below W.heap.size W W') : RefsW V W' ra rc k t :=
  ⟨h.1.trans (hb.mono h.1.size), h.2.kept (grown_of_below hb) (by cases Value.ownBlock (.slice ra k rc) <;> simp)⟩
theorem RefsW.more {V W : World} {ra : Option Addr} {rc k : Nat} {t : Int} (h : RefsW V W ra rc k t) (hk : k ≤ 100) :
    ∃ g cap w5, (Builtin.append_ #[31, 31] 31 #[.slice ra k rc, .slice (some ⟨W.heap.size, 0, none⟩) 1 1]).run Try.prog (W.alloc (.cells #[.int .i64 t, .int .i64 (k : Int)] 38)) = .ok (.slice (some ⟨g, 0, none⟩) (k + 1) cap) w5 ∧ Hid (RefsW V w5 (some ⟨g, 0, none⟩) cap (k + 1) t) := by
  have hs := h.step (below_box (.cells #[.int .i64 t, .int .i64 (k : Int)] 38))
  obtain ⟨g, cap, w5, hrun, hX⟩ := ref_added hs.2 (heap_alloc_new W (.cells #[.int .i64 t, .int .i64 (k : Int)] 38)) (by omega) hs.1.size
  refine ⟨g, cap, w5, hrun, ?_, ?_⟩
  · exact hs.1.grown hX.out.2 hs.1.size (fun b hb => (hs.2.lt b hb).1)
  · rw [newRs_succ]; exact hX.out.1

set_option maxRecDepth 20000 in
set_option maxHeartbeats 8000000 in
theorem lawCoins (cn cc : Nat) (ca : Option Addr) (l : List Int) (w : World) (hB : BAt w ca cn l) :
    Calls Try.prog 3 #[.slice ca cn cc] w fun e w' => e = .returned (.bool true) ∧ Below w.heap.size w w' := by
  have hmix : Try.prog.follows .mixedOrders = true := by kernel_rfl
  have hbig := lwBigC_any cn cc ca w
  by_cases hb : 1048576 < cn
  · have hd : decide ((1048576 : Int) < (cn : Int)) = true := decide_eq_true (by omega)
    rw [hd] at hbig
    go_enter Try.func3, Try.ntmps3
    go_wp2_with (go_at_call 4; (with_reducible refine hbig.mono ?_); clear hbig; rintro e w1 ⟨rfl, hw⟩; have hw2 := hw.symm; subst hw2)
    go_ret
    exact ⟨rfl, Below.refl _ _⟩
  have hd : decide ((1048576 : Int) < (cn : Int)) = false := decide_eq_false (by omega)
  rw [hd] at hbig
  have hdr := drawPutCoins_any cn cc ca l w (by omega) hB
  clear hB hd
  go_enter Try.func3, Try.ntmps3
  go_wp2_with (first
    | (go_at_call 4; (with_reducible refine hbig.mono ?_); clear hbig; rintro e w1 ⟨rfl, hw⟩; have hw2 := hw.symm; subst hw2))
  refine hdr.mono ?_
  rintro e v ⟨cs, os, va, oa, n, vc, m, oc, t, h, mn, rfl, hn, hm, ht, hh, HV, HBV⟩
  have HN : Hid (n = cs.length) := hn
  have HM : Hid (m = os.length) := hm
  have hm5 : m ≤ 5 := HV.out.2.2.2.2.1
  have hn43 : n ≤ 43 := HV.out.2.1
  have HKL : Hid (∀ j, j < n → (cs.getD j C0).l.length ≤ 1048576) := fun j hj => by have := HV.out.2.2.1 j hj; omega
  have HOL : Hid (∀ j, j < m → (os.getD j O0).l.length ≤ 1048576) := fun j hj => by have := HV.out.2.2.2.2.2 j hj; omega
  have HCV : Hid (∀ W, Below v.heap.size v W → CAt W va n cs) := fun W hW => HV.out.1.below hW (Nat.le_refl _)
  have HOV : Hid (∀ W, Below v.heap.size v W → OAt W oa m os) := fun W hW => HV.out.2.2.2.1.below hW (Nat.le_refl _)
  have hi := iPutCoins_any n vc m oc va oa cs t h mn os v (by omega) HKL.out (by omega) HOL.out HV.out.1 HV.out.2.2.2.1
  obtain ⟨cd, hcd⟩ : ∃ q, q = (putR cs t os h mn).1 := ⟨_, rfl⟩
  obtain ⟨rs, hrs⟩ : ∃ q, q = (putR cs t os h mn).2 := ⟨_, rfl⟩
  have HFW : Hid (rs.length ≤ 40 ∧ ∀ j, j < rs.length → (rs.getD j C0).l.length ≤ 1048576) := by rw [hrs]; exact putR_few cs t os h mn
  have HPR : Hid ((putR cs t os h mn).1 = cd ∧ (putR cs t os h mn).2 = rs) := ⟨hcd.symm, hrs.symm⟩
  rw [← hcd, ← hrs] at hi
  clear hn hm hdr HV hcd hrs
  by_cases h0 : cd = 0
  rotate_left
  · have hcb : (cd != 0) = true := by simpa using h0
    have hsp : Hid (∀ W, Below v.heap.size v W → Calls Try.prog 7 #[.slice va n vc, .int .i64 t, .slice oa m oc, .int .i64 h, .bool mn] W fun e w' => ∃ xv, e = .returned (.agg #[.int .i64 cd, xv]) ∧ Below W.heap.size W w') := fun W hW => by
      have := sPutCoins_any n vc m oc va oa cs t h mn os W (by omega) HKL.out (by omega) HOL.out (HCV.out W hW) (HOV.out W hW)
      rw [HPR.out.1] at this
      exact this.mono fun e w' ⟨xv, kv, h1, _, h3⟩ => ⟨xv, h1, h3⟩
    have hf0 := fieldCs0 cd
    go_wp2_with (first
      | (go_at_call 6; have hq := hi; clear hi; (with_reducible refine hq.mono ?_); clear hq; rintro e v3 ⟨pv, kv, rfl, hO3, hb3⟩; obtain ⟨pa, pc, rfl⟩ := own_slice hO3; obtain ⟨pn, hpn⟩ : ∃ q, q = rs.length := ⟨_, rfl⟩; have HPN : Hid (pn = rs.length) := hpn; rw [← hpn] at hO3 ⊢; have HP3 : Hid (CAt v3 pa pn rs) := own_at hO3 HPN.out.symm (fun j hj => HFW.out.2 j (by rw [← HPN.out]; exact hj)); have HB3 : Hid (Below v.heap.size v (v3.alloc (.cells #[.int .i64 cd, .slice pa pn pc] 29))) := hb3.trans ((below_box _).mono hb3.size); have HX3 : Hid ((v3.alloc (.cells #[.int .i64 cd, .slice pa pn pc] 29)).heap[v3.heap.size]? = some (.cells #[.int .i64 cd, .slice pa pn pc] 29 (0, 0))) := heap_alloc_new _ _; have HPV : Hid (CAt (v3.alloc (.cells #[.int .i64 cd, .slice pa pn pc] 29)) pa pn rs) := HP3.out.below (below_box _) (Nat.le_refl _); obtain ⟨q0, q1⟩ := cells2 HX3.out; clear hO3 hb3 hpn HP3))
    obtain ⟨V, hV⟩ : ∃ V, V = v3.alloc (.cells #[.int .i64 cd, .slice pa pn pc] 29) := ⟨_, rfl⟩
    rw [← hV] at HB3 HX3 HPV q0 q1 ⊢
    obtain ⟨X, hX⟩ : ∃ X, X = v3.heap.size := ⟨_, rfl⟩
    rw [← hX] at HX3 q0 q1 ⊢
    clear hV hX
    have hXl : X < V.heap.size := lt_of_block HX3.out
    go_region_held3 (fun w' => w'.cell? ⟨X, 0, none⟩ = some (.int .i64 cd)) (first | (with_reducible assumption) | go_keep)
      (first
        | (go_at_call 7; (with_reducible refine (hsp.out _ (HB3.out.trans ((Below.refl _ _).drew.mono HB3.out.size))).mono ?_); rintro e v5 ⟨xv, rfl, hb5⟩; have z1 := ((show Below V.heap.size V v5 from (Below.refl _ _).drew.trans hb5).cell (p := ⟨X, 0, none⟩) hXl).trans q0))
    all_goals (try go_wp2)
    all_goals go_ret
    all_goals exact ⟨by simp, HBV.out.trans ((HB3.out.mono HBV.out.size).trans (((show Below V.heap.size V v5 from (Below.refl _ _).drew.trans hb5)).mono (Nat.le_trans HBV.out.size HB3.out.size)))⟩
  subst h0
  have HPO : Hid (PutOk cs t h mn os rs) := by
    have := putOk (cs := cs) (t := t) (h := h) (m := mn) (os := os) HPR.out.1
    rw [HPR.out.2] at this
    exact this
  have hm4 : m ≤ 4 := by rw [HM.out]; exact HPO.out.n
  go_wp2_with (first
    | (go_at_call 6; have hq := hi; clear hi; (with_reducible refine hq.mono ?_); clear hq; rintro e v3 ⟨pv, kv, rfl, hO3, hb3⟩; obtain ⟨pa, pc, rfl⟩ := own_slice hO3; obtain ⟨pn, hpn⟩ : ∃ q, q = rs.length := ⟨_, rfl⟩; have HPN : Hid (pn = rs.length) := hpn; rw [← hpn] at hO3 ⊢; have HP3 : Hid (CAt v3 pa pn rs) := own_at hO3 HPN.out.symm (fun j hj => HFW.out.2 j (by rw [← HPN.out]; exact hj)); have HB3 : Hid (Below v.heap.size v (v3.alloc (.cells #[.int .i64 0, .slice pa pn pc] 29))) := hb3.trans ((below_box _).mono hb3.size); have HX3 : Hid ((v3.alloc (.cells #[.int .i64 0, .slice pa pn pc] 29)).heap[v3.heap.size]? = some (.cells #[.int .i64 0, .slice pa pn pc] 29 (0, 0))) := heap_alloc_new _ _; have HPV : Hid (CAt (v3.alloc (.cells #[.int .i64 0, .slice pa pn pc] 29)) pa pn rs) := HP3.out.below (below_box _) (Nat.le_refl _); obtain ⟨q0, q1⟩ := cells2 HX3.out; clear hO3 hb3 hpn HP3))
  obtain ⟨V, hV⟩ : ∃ V, V = v3.alloc (.cells #[.int .i64 0, .slice pa pn pc] 29) := ⟨_, rfl⟩
  rw [← hV] at HB3 HX3 HPV q0 q1 ⊢
  obtain ⟨X, hX⟩ : ∃ X, X = v3.heap.size := ⟨_, rfl⟩
  rw [← hX] at HX3 q0 q1 ⊢
  have hXl : X < V.heap.size := lt_of_block HX3.out
  have HVX : Hid (V.heap.size = X + 1) := by show _ = _; rw [hV, hX]; simp
  clear hV hX
  go_loopw [9, 10, 11] (fun s r i wr => ∃ k : Nat, k ≤ m ∧ i = .int .i64 k ∧ s = .int .i64 (outV os k) ∧ ∃ (ra : Option Addr) (rc : Nat), r = .slice ra k rc ∧ Hid (RefsW V wr ra rc k t)) (fun _ _ i _ => m - (intOf i).toNat)
  case atStart => exact ⟨0, Nat.zero_le _, rfl, rfl, _, _, rfl, by have := refsW_start V t; rw [HVX.out] at this; exact this⟩
  case round =>
    obtain ⟨k, hk, rfl, rfl, ra, rc, rfl, HR⟩ := hrel
    have q0w := (HR.out.1.cell (p := ⟨X, 0, none⟩) hXl).trans q0
    have q1w := (HR.out.1.cell (p := ⟨X, 1, none⟩) hXl).trans q1
    have hov := outV_top HPO.out.o k (by rw [← HM.out]; exact hk)
    by_cases hlt : k < m
    · have hki : (k : Int) < (m : Int) := by omega
      have hval := val_of HPO.out.o (k := k) (by rw [← HM.out]; exact hlt)
      have hOW : OAt V oa m os := HOV.out V HB3.out
      obtain ⟨_, hz | ⟨b, off, hoa, hbl, hcl⟩⟩ := hOW
      · omega
      subst hoa
      obtain ⟨ka, kn, kc, yV, -, -, -, -, -⟩ := hcl k hlt
      have y0 := (HR.out.1.cell (p := ⟨b, off + k * 4, none⟩) hbl).trans yV
      obtain ⟨x, hx⟩ : ∃ x, x = (os.getD k O0).v := ⟨_, rfl⟩
      rw [← hx] at y0 yV hval
      have HXV : Hid (x = (os.getD k O0).v) := hx
      obtain ⟨s, hs⟩ : ∃ s, s = outV os k := ⟨_, rfl⟩
      rw [← hs] at hov ⊢
      have HSV : Hid (s = outV os k) := hs
      have hw1 : IntKind.i64.wrap (s + x) = s + x := IntWalk.i64_in _ (by omega)
      obtain ⟨g5, c5, v5, hrun, HR5⟩ := HR.out.more (by omega)
      have hgr := gat_ref HR5.out.2 (by simp [newRs])
      obtain ⟨_, hz | ⟨b2, off2, hb2, hb2l, hcr⟩⟩ := hgr
      · omega
      cases hb2
      obtain ⟨z0, z1⟩ := hcr k (by omega)
      rw [show (newRs t (k + 1)).getD k G0 = (t, (k : Int)) by rw [newRs_succ]; simp [newRs, List.getD]] at z0 z1
      simp only [Nat.zero_add] at z0 z1
      have q0v := (HR5.out.1.cell (p := ⟨X, 0, none⟩) hXl).trans q0
      have q1v := (HR5.out.1.cell (p := ⟨X, 1, none⟩) hXl).trans q1
      have yv := (HR5.out.1.cell (p := ⟨b, off + k * 4, none⟩) hbl).trans yV
      obtain ⟨c, hc⟩ : ∃ c, c = newC t h mn (os.getD k O0) k := ⟨_, rfl⟩
      have HCC : Hid (c = newC t h mn (os.getD k O0) k) := hc
      have HAR : Hid (atR rs (t, (k : Int)) = (0, [c])) := by rw [hc]; exact putOk_at HPO.out (by rw [← HM.out]; exact hlt)
      have HCL : Hid (∀ j, j < [c].length → ([c].getD j C0).l.length ≤ 1048576) := fun j hj => by
        obtain rfl : j = 0 := by simp at hj; omega
        rw [hc]
        exact HOL.out k hlt
      have hAT : Hid (∀ W, Below v5.heap.size v5 W → Calls Try.prog 8 #[.slice pa pn pc, .agg #[.int .i64 t, .int .i64 (k : Int)]] W fun e w' => ∃ ga gc, e = .returned (.agg #[.int .i64 0, .slice ga [c].length gc]) ∧ Hid (∃ kv, COwn w' W.heap.size w'.heap.size (.slice ga [c].length gc) [c].length (fun j => [c].getD j C0) kv) ∧ Hid (Below W.heap.size W w') ∧ Hid (Below v5.heap.size v5 w')) := fun W hW => by
        have := iCoinAt_any pn pc pa rs t k W (by have := HFW.out.1; have := HPN.out; omega) (fun j hj => HFW.out.2 j (by rw [← HPN.out]; exact hj)) (WalkArith.wf_i64 (by omega)) (WalkArith.wf_i64 (by omega)) (HPV.out.below (HR5.out.1.trans (hW.mono HR5.out.1.size)) (Nat.le_refl _))
        rw [HAR.out] at this
        refine this.mono fun e w' ⟨v, kv, e1, hO, hb⟩ => ?_
        obtain ⟨ga, gc, rfl⟩ := own_slice hO
        exact ⟨ga, gc, e1, ⟨kv, hO⟩, hb, hW.trans (hb.mono hW.size)⟩
      have d0 : Below v5.heap.size v5 v5.drew := (Below.refl _ _).drew
      have d1 : Below v5.heap.size v5 (v5.alloc (.cells #[.int .i64 0, .slice none 0 0] 29)).drew := (below_box (.cells #[.int .i64 0, .slice none 0 0] 29)).trans ((Below.refl _ _).drew)
      have HZ0 : Hid ((v5.alloc (.cells #[.int .i64 0, .slice none 0 0] 29)).drew.heap[v5.heap.size]? = some (.cells #[.int .i64 0, .slice none 0 0] 29 (0, 0))) := heap_alloc_new _ _
      have hX5 : X < v5.heap.size := Nat.lt_of_lt_of_le hXl HR5.out.1.size
      obtain ⟨k1, hk1⟩ : ∃ q, q = k + 1 := ⟨_, rfl⟩
      rw [← hk1] at hrun HR5
      have HK1 : Hid (k1 = k + 1) := hk1
      have hk0i : (0 : Int) ≤ (k : Int) := by omega
      have hk1i : (k : Int) < (k1 : Int) := by omega
      clear hc hk1
      clear hcl hx hs
      go_wp2_with (first
        | (at_builtin; go_must (refine wpList_append_runC (by rfl) _ _ _ (by rfl) (by rfl) (by rfl) hrun ?_); clear hrun))
      go_cut [12] from 45 to 105 (fun s wc => ∃ R, s = .pointer (some ⟨R, 0, none⟩) ∧ Hid (SR v5 wc R 0 [c]))
      case first =>
        go_region_held3 (fun w' => w'.cell? ⟨X, 1, none⟩ = some (.slice pa pn pc) ∧ w'.cell? ⟨g5, k * 2, none⟩ = some (.int .i64 t) ∧ w'.cell? ⟨g5, k * 2 + 1, none⟩ = some (.int .i64 (k : Int))) (first | go_keep | exact ⟨keepS x1 (by omega), keepS x2 (by omega), keepS x3 (by omega)⟩ | exact ⟨keepS q1v (by omega), keepS z0 (by omega), keepS z1 (by omega)⟩)
          (first
            | (go_at_call 8; (first
                | ((with_reducible refine (hAT.out v5.drew d0).mono ?_); rintro e uC ⟨ga, gc, rfl, HOC, HCu, HCB⟩; have x1 := (HCB.out.cell (p := ⟨X, 1, none⟩) hX5).trans q1v; have x2 := (HCB.out.cell (p := ⟨g5, k * 2, none⟩) hb2l).trans z0; have x3 := (HCB.out.cell (p := ⟨g5, k * 2 + 1, none⟩) hb2l).trans z1)
                | ((with_reducible refine (hAT.out (v5.alloc (.cells #[.int .i64 0, .slice none 0 0] 29)).drew d1).mono ?_); rintro e uC ⟨ga, gc, rfl, HOC, HCu, HCB⟩; have x1 := (HCB.out.cell (p := ⟨X, 1, none⟩) hX5).trans q1v; have x2 := (HCB.out.cell (p := ⟨g5, k * 2, none⟩) hb2l).trans z0; have x3 := (HCB.out.cell (p := ⟨g5, k * 2 + 1, none⟩) hb2l).trans z1; have HZC := keepb HZ0.out HCu.out; obtain ⟨yz0, yz1⟩ := cells2 HZC.out; have f0 := Joins.unfrozen_of_block HZC.out 0; have f1 := Joins.unfrozen_of_block HZC.out 1))))
        all_goals
          go_wp2
          go_meet
          first
            | exact ⟨_, rfl, sr_set HCL.out HOC HCB HZC (Nat.le_refl _) (by simp)⟩
            | exact ⟨_, rfl, sr_new HCL.out HOC HCB⟩
      case rest =>
        obtain ⟨wq, hwq⟩ : ∃ wq, wq = wc := ⟨_, rfl⟩
        subst hwq
        obtain ⟨R6, hs6, HS6⟩ := hcut
        subst hs6
        obtain ⟨hR6, hB6, va6, vc6, hb6, hC6⟩ := HS6.out
        obtain ⟨p0, p1⟩ := cells2 hb6
        have yq := (hB6.cell (p := ⟨b, off + k * 4, none⟩) (Nat.lt_of_lt_of_le hbl HR5.out.1.size)).trans yv
        obtain ⟨_, hz | ⟨g7, o7, hg7, hg7l, hcc⟩⟩ := hC6
        · simp at hz
        subst hg7
        obtain ⟨ka7, kc7, ⟨-, -, u2, -, -, -, u6, u7⟩, _, _⟩ := hcc 0 (by simp)
        have ec : [c].getD 0 C0 = c := rfl
        have e2 : c.v = x := by rw [HXV.out, HCC.out]; rfl
        have e6 : c.h = h := by rw [HCC.out]; rfl
        have e7 : c.m = mn := by rw [HCC.out]; rfl
        rw [ec] at u2 u6 u7
        rw [e2] at u2
        rw [e6] at u6
        rw [e7] at u7
        simp only [Nat.zero_mul, Nat.add_zero] at u2 u6 u7
        have t2 : (x != x) = false := by simp
        have t6 : (h != h) = false := by simp
        have t7 : (mn != mn) = false := by simp
        have n2 : ([c] : List Co).length = 1 := rfl
        rw [n2] at p1
        have P0 := cell_regrown p0
        have P1 := cell_regrown p1
        have Q0 := cell_regrown yq
        have U2 := cell_regrown u2
        have U6 := cell_regrown u6
        have U7 := cell_regrown u7
        have HB6 : Hid (Below v5.heap.size v5 wq) := hB6
        clear hcc hAT hb6 hB6 HS6 hR6
        go_wp2
        refine wp_region_quiet_below hmix (by kernel_rfl) ?_
        repeat (go_big_quiet_step (fail))
        refine wpQuiet_nil ?_
        intro _ hw'
        obtain ⟨⟨dq, osq⟩, hw''⟩ := hw'
        subst hw''
        have HR9 : Hid (RefsW V (grow (redrawn wq dq) osq) (some ⟨g5, 0, none⟩) c5 k1 t) := HR5.out.step (HB6.out.trans ((below_regrown wq dq osq).mono HB6.out.size))
        go_wp2
        go_roundw
        case rel => exact ⟨k1, by have := HK1.out; omega, by rw [HK1.out]; go_num, by rw [HK1.out, outV_succ, ← HSV.out, ← HXV.out], _, _, rfl, HR9⟩
        case measure => have := HK1.out; simp [intOf]; omega
    · obtain rfl : k = m := by omega
      have htk : takeR rs (newRs t k) = (0, cs) := by rw [HM.out]; exact putOk_take HPO.out
      have hnr : (newRs t k).length = k := by simp [newRs]
      have hpn : pn ≤ 40 := by have := HFW.out.1; have := HPN.out; omega
      have HKR : Hid (∀ j, j < pn → (rs.getD j C0).l.length ≤ 1048576) := fun j hj => HFW.out.2 j (by rw [← HPN.out]; exact hj)
      have HRW : Hid (∀ W, Below V.heap.size V W → CAt W pa pn rs) := fun W hW => HPV.out.below hW (Nat.le_refl _)
      have HC0 : Hid (coinsR rs = 0) := putOk_right HPO.out
      have hTK := iTakeCoins_any pn pc k rc pa ra rs (newRs t k) wr (by omega) HKR.out (by omega) (fun j hj => by
        have e : (newRs t k).getD j G0 = (t, (j : Int)) := by simp [newRs, List.getD, hj]
        rw [e]
        exact ⟨WalkArith.wf_i64 (by omega), WalkArith.wf_i64 (by omega)⟩) (HRW.out wr HR.out.1) (gat_ref HR.out.2 hnr)
      rw [htk] at hTK
      clear htk hnr
      obtain ⟨sv, hsv⟩ : ∃ q, q = valsR cs := ⟨_, rfl⟩
      obtain ⟨ow, how⟩ : ∃ q, q = ownsR 2 rs := ⟨_, rfl⟩
      have hvr : valsR rs = sv + outV os k := by rw [putOk_vals HPO.out, hsv, HM.out]
      have hrv := vals_right HC0.out
      have hp2 := vals_part (cs := rs) (fun c => aloneB c 2) (fun c hc => by have := hrv c hc; omega)
      rw [hvr] at hp2
      have hcs := coins_rise HPO.out.c
      have hcv := vals_right HPO.out.c
      have hsv1 := vals_top (cs := cs) (fun c hc => (hcv c hc).2)
      have hsv0 := (vals_part (cs := cs) (fun _ => true) (fun c hc => by have := hcv c hc; omega))
      have hsb : 0 ≤ sv ∧ sv ≤ 40000000 := by rw [hsv]; have := hcs.1; constructor <;> omega
      have hob : 0 ≤ ow ∧ ow ≤ sv + outV os k := by rw [how]; exact hp2
      have hOR : ownedR rs 2 = (0, ow) := by unfold ownedR; rw [if_pos HC0.out, how]
      have HOR : Hid (ownedR rs 2 = (0, ow)) := hOR
      have HS1 : Hid (coinSumR rs = (0, sv + outV os k)) := by show _ = _; unfold coinSumR; rw [if_pos HC0.out, hvr]
      have HS2 : Hid (coinSumR cs = (0, sv)) := by show _ = _; unfold coinSumR; rw [if_pos HPO.out.c, hsv]
      clear hsv how hvr hrv hp2 hcs hcv hsv1 hsv0
      have hXw : X < wr.heap.size := Nat.lt_of_lt_of_le hXl HR.out.1.size
      go_wp2_with (first
        | (go_at_call 9; have hq := hTK; clear hTK; (with_reducible refine hq.mono ?_); clear hq; rintro e v7 ⟨bv, kv7, rfl, hO7, hb7⟩; obtain ⟨ba, bc, rfl⟩ := own_slice hO7; rw [← HN.out] at hO7 ⊢; have HBC : Hid (CAt v7 ba n cs) := own_at hO7 HN.out.symm HKL.out; have H7 : Hid (Below wr.heap.size wr (v7.alloc (.cells #[.int .i64 0, .slice ba n bc] 29))) := hb7.trans ((below_box _).mono hb7.size); have X7 : Hid ((v7.alloc (.cells #[.int .i64 0, .slice ba n bc] 29)).heap[v7.heap.size]? = some (.cells #[.int .i64 0, .slice ba n bc] 29 (0, 0))) := heap_alloc_new _ _; have q0x := (H7.out.cell (p := ⟨X, 0, none⟩) hXw).trans q0w; have q1x := (H7.out.cell (p := ⟨X, 1, none⟩) hXw).trans q1w; have hOB := iOwnedBy_any pn pc pa rs 2 (v7.alloc (.cells #[.int .i64 0, .slice ba n bc] 29)) (by omega) HKR.out (HRW.out _ (HR.out.1.trans (H7.out.mono HR.out.1.size))); rw [hOR] at hOB; clear hO7 hb7)
        | (go_at_call 10; have hq := hOB; clear hOB; (with_reducible refine hq.mono ?_); clear hq; rintro e v8 ⟨rfl, hb8⟩; have hbx8 := below_box (w := v8) (.cells #[.int .i64 0, .int .i64 ow] 44); have H8b : Hid (Below (v7.alloc (.cells #[.int .i64 0, .slice ba n bc] 29)).heap.size (v7.alloc (.cells #[.int .i64 0, .slice ba n bc] 29)) (v8.alloc (.cells #[.int .i64 0, .int .i64 ow] 44))) := hb8.trans (hbx8.mono hb8.size); have H8 : Hid (Below wr.heap.size wr (v8.alloc (.cells #[.int .i64 0, .int .i64 ow] 44))) := H7.out.trans (H8b.out.mono H7.out.size); have X78 := keepb X7.out H8b.out; have X8 : Hid ((v8.alloc (.cells #[.int .i64 0, .int .i64 ow] 44)).heap[v8.heap.size]? = some (.cells #[.int .i64 0, .int .i64 ow] 44 (0, 0))) := heap_alloc_new _ _; clear hb8 hbx8 q0x q1x; have q0x := (H8.out.cell (p := ⟨X, 0, none⟩) hXw).trans q0w; have q1x := (H8.out.cell (p := ⟨X, 1, none⟩) hXw).trans q1w; obtain ⟨b0, b1⟩ := cells2 X78.out; obtain ⟨o0, o1⟩ := cells2 X8.out; have HB8 : Hid (CAt (v8.alloc (.cells #[.int .i64 0, .int .i64 ow] 44)) ba n cs) := HBC.out.below ((below_box (.cells #[.int .i64 0, .slice ba n bc] 29)).trans (H8b.out.mono (below_box (.cells #[.int .i64 0, .slice ba n bc] 29)).size)) (Nat.le_refl _)))
      obtain ⟨U, hU⟩ : ∃ U, U = v8.alloc (.cells #[.int .i64 0, .int .i64 ow] 44) := ⟨_, rfl⟩
      rw [← hU] at H8 H8b X78 X8 HB8 q0x q1x b0 b1 o0 o1 ⊢
      clear hU
      have HVU : Hid (Below V.heap.size V U) := HR.out.1.trans (H8.out.mono HR.out.1.size)
      have HvU : Hid (Below v.heap.size v U) := HB3.out.trans (HVU.out.mono HB3.out.size)
      have cF : ∀ dd oss, Calls Try.prog 11 #[.slice pa pn pc] (grow (redrawn U dd) oss) fun e w'' => e = .returned (.int .i64 0) ∧ ∃ p : Regrown, w'' = grow (redrawn U p.d) p.os := fun dd oss => Calls.regrown_of (by
        have := iCoinsFault_any pn pc pa rs (grow (redrawn U dd) oss) (by omega) HKR.out (HRW.out _ (HVU.out.trans ((below_regrown U dd oss).mono HVU.out.size)))
        rw [HC0.out] at this
        exact this)
      have cS1 : ∀ dd oss, Calls Try.prog 12 #[.slice pa pn pc] (grow (redrawn U dd) oss) fun e w'' => e = .returned (.agg #[.int .i64 0, .int .i64 (sv + outV os k)]) ∧ ∃ p : Regrown, w'' = grow (redrawn U p.d) p.os := fun dd oss => Calls.regrown_of (by
        have := iCoinSum_any pn pc pa rs (grow (redrawn U dd) oss) (by omega) HKR.out (HRW.out _ (HVU.out.trans ((below_regrown U dd oss).mono HVU.out.size)))
        rw [HS1.out] at this
        exact this)
      have cS2 : ∀ dd oss, Calls Try.prog 12 #[.slice va n vc] (grow (redrawn U dd) oss) fun e w'' => e = .returned (.agg #[.int .i64 0, .int .i64 sv]) ∧ ∃ p : Regrown, w'' = grow (redrawn U p.d) p.os := fun dd oss => Calls.regrown_of (by
        have := iCoinSum_any n vc va cs (grow (redrawn U dd) oss) (by omega) HKL.out (HCV.out _ (HvU.out.trans ((below_regrown U dd oss).mono HvU.out.size)))
        rw [HS2.out] at this
        exact this)
      have cX1 : ∀ dd oss, Calls Try.prog 13 #[.slice ba n bc, .slice va n vc] (grow (redrawn U dd) oss) fun e w'' => e = .returned (.bool true) ∧ ∃ p : Regrown, w'' = grow (redrawn U p.d) p.os := fun dd oss => Calls.regrown_of (by
        have := iSameCoins_any ba va n n bc vc cs cs (grow (redrawn U dd) oss) (by omega) (by omega) HKL.out HKL.out (HB8.out.below (below_regrown U dd oss) (Nat.le_refl _)) (HCV.out _ (HvU.out.trans ((below_regrown U dd oss).mono HvU.out.size)))
        rw [sameCs_refl] at this
        exact this)
      have cX2 : ∀ dd oss, Calls Try.prog 13 #[.slice pa pn pc, .slice pa pn pc] (grow (redrawn U dd) oss) fun e w'' => e = .returned (.bool true) ∧ ∃ p : Regrown, w'' = grow (redrawn U p.d) p.os := fun dd oss => Calls.regrown_of (by
        have h := HRW.out _ (HVU.out.trans ((below_regrown U dd oss).mono HVU.out.size))
        have := iSameCoins_any pa pa pn pn pc pc rs rs (grow (redrawn U dd) oss) (by omega) (by omega) HKR.out HKR.out h h
        rw [sameCs_refl] at this
        exact this)
      have cO : ∀ dd oss, Calls Try.prog 14 #[.slice pa pn pc, .int .i64 2] (grow (redrawn U dd) oss) fun e w'' => e = .returned (.agg #[.int .i64 0, .int .i64 ow]) ∧ ∃ p : Regrown, w'' = grow (redrawn U p.d) p.os := fun dd oss => Calls.regrown_of (by
        have := sOwnedBy_any pn pc pa rs 2 (grow (redrawn U dd) oss) (by omega) HKR.out (HRW.out _ (HVU.out.trans ((below_regrown U dd oss).mono HVU.out.size)))
        rw [HOR.out] at this
        exact this)
      have hfi := fieldI1
      have y0 := cell_regrown q0x
      have y1 := cell_regrown q1x
      have y2 := cell_regrown b0
      have y3 := cell_regrown b1
      have y4 := cell_regrown o0
      have y5 := cell_regrown o1
      have hsw : IntKind.i64.wrap (sv + outV os k) = sv + outV os k := IntWalk.i64_in _ (by omega)
      have hle : decide (ow ≤ sv + outV os k) = true := decide_eq_true (by omega)
      obtain ⟨s, hs⟩ : ∃ s, s = outV os k := ⟨_, rfl⟩
      rw [← hs] at hsw hle cS1 ⊢
      clear hs q0x q1x b0 b1 o0 o1 q0w q1w
      refine wp_region_quiet_below hmix (by kernel_rfl) ?_
      repeat (go_big_quiet_step (first | (with_reducible exact cF _ _) | (with_reducible exact cS1 _ _) | (with_reducible exact cS2 _ _) | (with_reducible exact cX1 _ _) | (with_reducible exact cX2 _ _) | (with_reducible exact cO _ _)))
      refine wpQuiet_nil ?_
      intro _ hw'
      obtain ⟨⟨dq, osq⟩, hw''⟩ := hw'
      subst hw''
      have HE : Hid (Below w.heap.size w (grow (redrawn U dq) osq)) := HBV.out.trans ((HvU.out.trans ((below_regrown U dq osq).mono HvU.out.size)).mono HBV.out.size)
      go_wp2
      go_ret
      exact ⟨by simp, HE.out⟩

end Go.Proofs.Ytdfijlcjmllplaa
