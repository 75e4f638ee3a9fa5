/- The law FnChooses answers true, whatever bytes come in, where the draw tells what it tells. -/
import Derived.Test.YtpcgkgjmcnncdaaZt
import Derived.Test.YtpcgkgjmcnncdaaZn
import Derived.Test.YtpcgkgjmcnncdaaZg
import Derived.Test.YtpcgkgjmcnncdaaZj
import Derived.Test.YtpcgkgjmcnncdaaDr
import Derived.Test.YtpcgkgjmcnncdaaDrR
import Derived.Deep.RegionHeld3
namespace Go.Proofs.Ytpcgkgjmcnncdaa
open Go.RowKit Go.Maps Go.WideMaps

theorem lwBigV_any (cn cc : Nat) (ca : Option Addr) (w : World) : Calls Try.prog 4 #[.slice ca cn cc] w fun e w' => e = .returned (.bool (decide ((1048576 : Int) < (cn : Int)))) ∧ w' = w := by
  go_enter Try.func4, Try.ntmps4
  go_wp2
  go_ret
  exact ⟨rfl, rfl⟩
theorem out_bad {w w' : World} {e : Ending} {c : Int} (h : OutVr w w' e (vrBad c)) : ∃ a d, e = .returned (.agg #[.int .i64 c, .int .i64 0, .int .i64 0, .int .i64 0, .int .i64 0, .int .i64 0, .int .i64 0, .int .i64 0, .int .i64 0, .slice a 0 d]) ∧ Hid (w'.ownsRow w.heap.size 44 3 (.slice a 0 d) 0 (mcells [])) ∧ Hid (Below w.heap.size w w') := h
theorem out_vote {w w' : World} {e : Ending} {k l p q x : Int} {ms : List Mb} {m : Nat} (hm : ms.length = m) (h : OutVr w w' e ⟨0, ⟨k, 2, 0, p, q, x⟩, k, l, ms⟩) : ∃ a d, e = .returned (.agg #[.int .i64 0, .int .i64 k, .int .i64 2, .int .i64 0, .int .i64 p, .int .i64 q, .int .i64 x, .int .i64 k, .int .i64 l, .slice a m d]) ∧ Hid (w'.ownsRow w.heap.size 44 3 (.slice a m d) m (mcells ms)) ∧ Hid (Below w.heap.size w w') := by
  subst hm
  exact h
theorem out_new {w w' : World} {e : Ending} {k : Int} (h : OutVr w w' e ⟨0, V0, k, 0, []⟩) : ∃ a d, e = .returned (.agg #[.int .i64 0, .int .i64 0, .int .i64 0, .int .i64 0, .int .i64 0, .int .i64 0, .int .i64 0, .int .i64 k, .int .i64 0, .slice a 0 d]) ∧ Hid (w'.ownsRow w.heap.size 44 3 (.slice a 0 d) 0 (mcells [])) ∧ Hid (Below w.heap.size w w') := h

set_option maxRecDepth 20000 in
set_option maxHeartbeats 6000000 in
theorem lawChooses (hDR : ∀ (cn cc : Nat) (ca : Option Addr) (lst : List Int) (w : World), cn ≤ 1048576 → BAt w ca cn lst → Calls Try.prog 5 #[.slice ca cn cc] w fun e w' => OutCf w w' e) (cn cc : Nat) (ca : Option Addr) (lst : List Int) (w : World) (hB : BAt w ca cn lst) :
    Calls Try.prog 3 #[.slice ca cn cc] w fun e w' => e = .returned (.bool true) ∧ Below w.heap.size w w' := by
  have hbg := lwBigV_any cn cc ca w
  by_cases hbig : 1048576 < cn
  · rw [decide_eq_true (by omega)] at hbg
    clear hB hDR
    go_enter Try.func3, Try.ntmps3
    go_wp2_with (go_at_call 4; (with_reducible refine hbg.mono ?_); clear hbg; rintro e w' ⟨rfl, hw⟩; have hw2 := hw.symm; subst hw2)
    go_ret
    exact ⟨rfl, Below.refl _ _⟩
  have hcn : cn ≤ 1048576 := by omega
  rw [decide_eq_false (by omega)] at hbg
  have hdr := hDR cn cc ca lst w hcn hB
  clear hB hDR hbig
  go_enter Try.func3, Try.ntmps3
  go_wp2_with (first
    | (go_at_call 4; (with_reducible refine hbg.mono ?_); clear hbg; rintro e w' ⟨rfl, hw⟩; have hw2 := hw.symm; subst hw2)
    | (go_at_call 5; (with_reducible refine hdr.mono ?_); clear hdr; rintro e v1 ⟨k, l, va, n, vc, ms, p, q, x, rfl, hn41, HI, HB1⟩))
  obtain ⟨V, hV⟩ : ∃ W, W = (v1.alloc (.cells #[.int .i64 k, .int .i64 l, .slice va n vc] 26)).alloc (.cells #[.int .i64 p, .int .i64 q] 28) := ⟨_, rfl⟩
  have HBV : Hid (Below v1.heap.size v1 V) := by rw [hV]; exact below_box2 _ _
  have HX : Hid (V.heap[v1.heap.size]? = some (.cells #[.int .i64 k, .int .i64 l, .slice va n vc] 26 (0, 0))) := by rw [hV]; exact block_at2
  have HY : Hid (V.heap[v1.heap.size + 1]? = some (.cells #[.int .i64 p, .int .i64 q] 28 (0, 0))) := by rw [hV]; exact heap_alloc_at _ _ _ (by simp)
  have HBw : Hid (Below w.heap.size w V) := HB1.out.trans (HBV.out.mono HB1.out.size)
  have hnl : n ≤ maxLen := by unfold maxLen; omega
  have HM : Hid (MAt V va n ms) := HI.out.2.2.below HBV.out (Nat.le_refl _)
  have hch := iChooseFor_any k l p q x va n vc ms V HI.out.1 hnl HM.out
  rw [← hV]
  clear hV
  obtain ⟨rr, hrr⟩ : ∃ r, r = chooseR k l ms p q x := ⟨_, rfl⟩
  by_cases h0 : rr.c = 0
  rotate_left
  · have hbad : ∃ c, c ≠ 0 ∧ chooseR k l ms p q x = vrBad c := by
      by_cases h1 : voterR k l ms = 0
      · by_cases h2 : chooseC ms p q x = 0
        · exfalso
          by_cases hm : (p, q, x) ∈ ms
          · exact h0 (by rw [hrr, chooseR_had h1 h2 hm])
          · exact h0 (by rw [hrr, chooseR_new h1 h2 hm])
        · exact ⟨_, h2, chooseR_code h1 h2⟩
      · exact ⟨_, h1, chooseR_bad h1⟩
    obtain ⟨cd, hc0, ecd⟩ := hbad
    rw [ecd] at hch
    have hch := hch.mono fun e w' h => out_bad h
    have hcb : (cd != 0) = true := by simpa using hc0
    have HSP : Hid (∀ W, Below V.heap.size V W → Calls Try.prog 7 #[.agg #[.int .i64 k, .int .i64 l, .slice va n vc], .agg #[.int .i64 p, .int .i64 q], .int .i64 x] W fun e w' => ∃ a d, e = .returned (.agg #[.int .i64 cd, .int .i64 0, .int .i64 0, .int .i64 0, .int .i64 0, .int .i64 0, .int .i64 0, .int .i64 0, .int .i64 0, .slice a 0 d]) ∧ Hid (Below W.heap.size W w')) := fun W hW => by
      have := sChooseFor_any k l p q x va n vc ms W hnl (HM.out.below hW (Nat.le_refl _))
      rw [ecd] at this
      exact this.mono fun e w' h => let ⟨a, d, e1, _, e3⟩ := out_bad h; ⟨a, d, e1, e3⟩
    have hfl : ∀ (W : World) (a : Option Addr) (d : Nat), (Instr.field 34 (.agg #[.int .i64 cd, .int .i64 0, .int .i64 0, .int .i64 0, .int .i64 0, .int .i64 0, .int .i64 0, .int .i64 0, .int .i64 0, .slice a 0 d]) 0).run Try.prog W = .ok (.int .i64 cd) W := fun _ _ _ => by kernel_rfl
    clear hrr h0 ecd hc0
    obtain ⟨b0, b1, b2⟩ := cells3 HX.out
    obtain ⟨c0, c1⟩ := cells2 HY.out
    go_wp2_with (go_at_call 6; (with_reducible refine hch.mono ?_); clear hch; rintro e u1 ⟨a1, d1, rfl, _, HB2⟩)
    obtain ⟨U, hU⟩ : ∃ W, W = u1.alloc (.cells #[.int .i64 cd, .int .i64 0, .int .i64 0, .int .i64 0, .int .i64 0, .int .i64 0, .int .i64 0, .int .i64 0, .int .i64 0, .slice a1 0 d1] 34) := ⟨_, rfl⟩
    have HU6 : Hid (U.heap[u1.heap.size]? = some (.cells #[.int .i64 cd, .int .i64 0, .int .i64 0, .int .i64 0, .int .i64 0, .int .i64 0, .int .i64 0, .int .i64 0, .int .i64 0, .slice a1 0 d1] 34 (0, 0))) := by rw [hU]; exact heap_alloc_new _ _
    have HBU : Hid (Below V.heap.size V U) := by rw [hU]; exact HB2.out.trans ((below_box _).mono HB2.out.size)
    rw [← hU]
    clear hU b0 b1 b2 c0 c1
    obtain ⟨b0, b1, b2⟩ := cells3 (keepb HX.out HBU.out).out
    obtain ⟨c0, c1⟩ := cells2 (keepb HY.out HBU.out).out
    obtain ⟨y0, y1, y2, y3, y4, y5, y6, y7, y8, y9⟩ := cells10V HU6.out
    have hl0 := lt_of_block (keepb HX.out HBU.out).out
    have hl1 := lt_of_block (keepb HY.out HBU.out).out
    have hl2 := lt_of_block HU6.out
    have hsp := HSP.out U.drew (HBU.out.drew)
    have heq : (cd == cd) = true := by simp
    clear y1 y2 y3 y4 y5 y6 y7 y8 y9
    go_region_held3 (fun w' => w'.cell? ⟨v1.heap.size, 0, none⟩ = some (.int .i64 k) ∧ w'.cell? ⟨v1.heap.size, 1, none⟩ = some (.int .i64 l) ∧ w'.cell? ⟨v1.heap.size, 2, none⟩ = some (.slice va n vc) ∧ w'.cell? ⟨v1.heap.size + 1, 0, none⟩ = some (.int .i64 p) ∧ w'.cell? ⟨v1.heap.size + 1, 1, none⟩ = some (.int .i64 q) ∧ w'.cell? ⟨u1.heap.size, 0, none⟩ = some (.int .i64 cd)) (first | (with_reducible exact ⟨z0, z1, z2, z3, z4, z5⟩) | go_keep)
      (first
        | (go_at_call 7; (with_reducible refine hsp.mono ?_); clear hsp; rintro e u2 ⟨a2, d2, rfl, HB3⟩; have hb3 : Below U.heap.size U u2 := ((Below.refl _ _).drew).trans HB3.out; have z0 := (hb3.cell (p := ⟨v1.heap.size, 0, none⟩) hl0).trans b0; have z1 := (hb3.cell (p := ⟨v1.heap.size, 1, none⟩) hl0).trans b1; have z2 := (hb3.cell (p := ⟨v1.heap.size, 2, none⟩) hl0).trans b2; have z3 := (hb3.cell (p := ⟨v1.heap.size + 1, 0, none⟩) hl1).trans c0; have z4 := (hb3.cell (p := ⟨v1.heap.size + 1, 1, none⟩) hl1).trans c1; have z5 := (hb3.cell (p := ⟨u1.heap.size, 0, none⟩) hl2).trans y0))
    go_wp2
    go_ret
    exact ⟨rfl, HBw.out.trans ((HBU.out.trans (hb3.mono HBU.out.size)).mono HBw.out.size)⟩
  · obtain ⟨ms', ecd, hv0, hv1, hgd, hhas, htx⟩ := chosen_ok (hrr ▸ h0)
    rw [ecd] at hch
    obtain ⟨m, hm⟩ : ∃ m, m = ms'.length := ⟨_, rfl⟩
    have HML : Hid (ms'.length = m) := hm.symm
    have hch := hch.mono fun e w' h => out_vote hm.symm h
    have hkx : inB k 1 999 = true := (voterR_ok hv0).1
    have hm40 : m ≤ 40 := by rw [hm]; exact (voterR_ok hv1).2.2.1
    have hxb := goodC_tx hgd
    simp only at hxb
    obtain ⟨y0, hy0⟩ : ∃ y, y = x.tmod 60 := ⟨_, rfl⟩
    have hnt := next_tx hxb
    rw [← hy0] at hnt
    have h60 : x.tmod 60 = y0 := hy0.symm
    have hwy : IntKind.i64.wrap (y0 + 1) = y0 + 1 := IntWalk.i64_in _ (by omega)
    have eA := chosen_same hv1 hgd hhas htx
    have eB := chosen_other hv1 hgd hhas htx ⟨hnt.1, hnt.2.1⟩ hnt.2.2
    have eN : newR k = ⟨0, V0, k, 0, []⟩ := by unfold newR; rw [if_pos hkx]
    have eF := chosen_first (p := p) (q := q) (t := x) hkx hgd
    have HCA : Hid (∀ (W : World) a d, m ≤ d → MAt W a m ms' → Calls Try.prog 6 #[.agg #[.int .i64 k, .int .i64 l, .slice a m d], .agg #[.int .i64 p, .int .i64 q], .int .i64 x] W fun e w' => ∃ a d, e = .returned (.agg #[.int .i64 0, .int .i64 k, .int .i64 2, .int .i64 0, .int .i64 p, .int .i64 q, .int .i64 x, .int .i64 k, .int .i64 l, .slice a m d]) ∧ Hid (w'.ownsRow W.heap.size 44 3 (.slice a m d) m (mcells ms')) ∧ Hid (Below W.heap.size W w')) := fun W a d h1 h2 => by
      have := iChooseFor_any k l p q x a m d ms' W h1 (by unfold maxLen; omega) h2
      rw [eA] at this
      exact this.mono fun e w' h => out_vote hm.symm h
    have HCB : Hid (∀ (W : World) a d, m ≤ d → MAt W a m ms' → Calls Try.prog 6 #[.agg #[.int .i64 k, .int .i64 l, .slice a m d], .agg #[.int .i64 p, .int .i64 q], .int .i64 (y0 + 1)] W fun e w' => ∃ a d, e = .returned (.agg #[.int .i64 7, .int .i64 0, .int .i64 0, .int .i64 0, .int .i64 0, .int .i64 0, .int .i64 0, .int .i64 0, .int .i64 0, .slice a 0 d]) ∧ Hid (w'.ownsRow W.heap.size 44 3 (.slice a 0 d) 0 (mcells [])) ∧ Hid (Below W.heap.size W w')) := fun W a d h1 h2 => by
      have := iChooseFor_any k l p q (y0 + 1) a m d ms' W h1 (by unfold maxLen; omega) h2
      rw [eB] at this
      exact this.mono fun e w' h => out_bad h
    have HCN : Hid (∀ W, Calls Try.prog 8 #[.int .i64 k] W fun e w' => ∃ a d, e = .returned (.agg #[.int .i64 0, .int .i64 0, .int .i64 0, .int .i64 0, .int .i64 0, .int .i64 0, .int .i64 0, .int .i64 k, .int .i64 0, .slice a 0 d]) ∧ Hid (w'.ownsRow W.heap.size 44 3 (.slice a 0 d) 0 (mcells [])) ∧ Hid (Below W.heap.size W w')) := fun W => by
      have := iNewVoter_any k W
      rw [eN] at this
      exact this.mono fun e w' h => out_new h
    have HCV : Hid (∀ (W : World) a d, m ≤ d → MAt W a m ms' → Calls Try.prog 9 #[.agg #[.int .i64 k, .int .i64 l, .slice a m d]] W fun e w' => e = .returned (.int .i64 0) ∧ Below W.heap.size W w') := fun W a d h1 h2 => by
      have := iVoterFault_any m d a ms' k l W h1 (by unfold maxLen; omega) h2
      rw [hv1] at this
      exact this
    have HCF : Hid (∀ (W : World) a d, MAt W a 0 [] → Calls Try.prog 6 #[.agg #[.int .i64 k, .int .i64 0, .slice a 0 d], .agg #[.int .i64 p, .int .i64 q], .int .i64 x] W fun e w' => ∃ a d, e = .returned (.agg #[.int .i64 0, .int .i64 k, .int .i64 2, .int .i64 0, .int .i64 p, .int .i64 q, .int .i64 x, .int .i64 k, .int .i64 0, .slice a 1 d]) ∧ Hid (Below W.heap.size W w')) := fun W a d h2 => by
      have := iChooseFor_any k 0 p q x a 0 d [] W (Nat.zero_le _) (Nat.zero_le _) h2
      rw [eF] at this
      exact this.mono fun e w' h => let ⟨a, d, e1, _, e3⟩ := out_vote (m := 1) rfl h; ⟨a, d, e1, e3⟩
    have hfl : ∀ (W : World) (a : Option Addr) (d : Nat), (Instr.field 34 (.agg #[.int .i64 0, .int .i64 k, .int .i64 2, .int .i64 0, .int .i64 p, .int .i64 q, .int .i64 x, .int .i64 k, .int .i64 0, .slice a 1 d]) 0).run Try.prog W = .ok (.int .i64 0) W := fun _ _ _ => by kernel_rfl
    clear hrr h0 ecd hv0 hv1 hgd hhas htx hm hkx hxb hy0 hnt eA eB eN eF
    obtain ⟨b0, b1, b2⟩ := cells3 HX.out
    obtain ⟨c0, c1⟩ := cells2 HY.out
    go_wp2_with (first
      | (go_at_call 6; have hq := hch; clear hch; (with_reducible refine hq.mono ?_); clear hq; rintro e u1 ⟨a1, d1, rfl, HO1, HB2⟩; have HU1 : Hid (Below V.heap.size V (u1.alloc (.cells #[.int .i64 0, .int .i64 k, .int .i64 2, .int .i64 0, .int .i64 p, .int .i64 q, .int .i64 x, .int .i64 k, .int .i64 l, .slice a1 m d1] 34))) := HB2.out.trans ((below_box _).mono HB2.out.size); have H6 : Hid ((u1.alloc (.cells #[.int .i64 0, .int .i64 k, .int .i64 2, .int .i64 0, .int .i64 p, .int .i64 q, .int .i64 x, .int .i64 k, .int .i64 l, .slice a1 m d1] 34)).heap[u1.heap.size]? = some (.cells #[.int .i64 0, .int .i64 k, .int .i64 2, .int .i64 0, .int .i64 p, .int .i64 q, .int .i64 x, .int .i64 k, .int .i64 l, .slice a1 m d1] 34 (0, 0))) := heap_alloc_new _ _; have HQ : Hid (m ≤ d1) := (row_caps HO1.out).1; have HM1 : Hid (MAt (u1.alloc (.cells #[.int .i64 0, .int .i64 k, .int .i64 2, .int .i64 0, .int .i64 p, .int .i64 q, .int .i64 x, .int .i64 k, .int .i64 l, .slice a1 m d1] 34)) a1 m ms') := mat_row (HO1.out.alloc _) HML.out; obtain ⟨s0, s1, s2, s3, s4, s5, s6, s7, s8, s9⟩ := cells10V H6.out; obtain ⟨e0, e1⟩ := cells2 (keepb HY.out HU1.out).out; have h2 := HCA.out (u1.alloc (.cells #[.int .i64 0, .int .i64 k, .int .i64 2, .int .i64 0, .int .i64 p, .int .i64 q, .int .i64 x, .int .i64 k, .int .i64 l, .slice a1 m d1] 34)) a1 d1 HQ.out HM1.out)
      | (go_at_call 6; have hq := h2; clear h2; (with_reducible refine hq.mono ?_); clear hq; rintro e u2 ⟨a2, d2, rfl, _, HB3⟩; have hb3 : Below (u1.alloc (.cells #[.int .i64 0, .int .i64 k, .int .i64 2, .int .i64 0, .int .i64 p, .int .i64 q, .int .i64 x, .int .i64 k, .int .i64 l, .slice a1 m d1] 34)).heap.size (u1.alloc (.cells #[.int .i64 0, .int .i64 k, .int .i64 2, .int .i64 0, .int .i64 p, .int .i64 q, .int .i64 x, .int .i64 k, .int .i64 l, .slice a1 m d1] 34)) (u2.alloc (.cells #[.int .i64 0, .int .i64 k, .int .i64 2, .int .i64 0, .int .i64 p, .int .i64 q, .int .i64 x, .int .i64 k, .int .i64 l, .slice a2 m d2] 34)) := HB3.out.trans ((below_box _).mono HB3.out.size); have HU2 : Hid (Below V.heap.size V (u2.alloc (.cells #[.int .i64 0, .int .i64 k, .int .i64 2, .int .i64 0, .int .i64 p, .int .i64 q, .int .i64 x, .int .i64 k, .int .i64 l, .slice a2 m d2] 34))) := HU1.out.trans (hb3.mono HU1.out.size); have H62 := keepb H6.out hb3; have H7 : Hid ((u2.alloc (.cells #[.int .i64 0, .int .i64 k, .int .i64 2, .int .i64 0, .int .i64 p, .int .i64 q, .int .i64 x, .int .i64 k, .int .i64 l, .slice a2 m d2] 34)).heap[u2.heap.size]? = some (.cells #[.int .i64 0, .int .i64 k, .int .i64 2, .int .i64 0, .int .i64 p, .int .i64 q, .int .i64 x, .int .i64 k, .int .i64 l, .slice a2 m d2] 34 (0, 0))) := heap_alloc_new _ _; have HM2 : Hid (MAt (u2.alloc (.cells #[.int .i64 0, .int .i64 k, .int .i64 2, .int .i64 0, .int .i64 p, .int .i64 q, .int .i64 x, .int .i64 k, .int .i64 l, .slice a2 m d2] 34)) a1 m ms') := HM1.out.below hb3 (Nat.le_refl _); clear s0 s1 s2 s3 s4 s5 s6 s7 s8 s9; obtain ⟨s0, s1, s2, s3, s4, s5, s6, s7, s8, s9⟩ := cells10V H62.out; obtain ⟨f0, f1⟩ := cells2 (keepb HY.out HU2.out).out; have h3 := HCB.out (u2.alloc (.cells #[.int .i64 0, .int .i64 k, .int .i64 2, .int .i64 0, .int .i64 p, .int .i64 q, .int .i64 x, .int .i64 k, .int .i64 l, .slice a2 m d2] 34)) a1 d1 HQ.out HM2.out; clear hb3)
      | (go_at_call 6; have hq := h3; clear h3; (with_reducible refine hq.mono ?_); clear hq; rintro e u3 ⟨a3, d3, rfl, _, HB4⟩; have hb4 : Below (u2.alloc (.cells #[.int .i64 0, .int .i64 k, .int .i64 2, .int .i64 0, .int .i64 p, .int .i64 q, .int .i64 x, .int .i64 k, .int .i64 l, .slice a2 m d2] 34)).heap.size (u2.alloc (.cells #[.int .i64 0, .int .i64 k, .int .i64 2, .int .i64 0, .int .i64 p, .int .i64 q, .int .i64 x, .int .i64 k, .int .i64 l, .slice a2 m d2] 34)) (u3.alloc (.cells #[.int .i64 7, .int .i64 0, .int .i64 0, .int .i64 0, .int .i64 0, .int .i64 0, .int .i64 0, .int .i64 0, .int .i64 0, .slice a3 0 d3] 34)) := HB4.out.trans ((below_box _).mono HB4.out.size); have HU3 : Hid (Below V.heap.size V (u3.alloc (.cells #[.int .i64 7, .int .i64 0, .int .i64 0, .int .i64 0, .int .i64 0, .int .i64 0, .int .i64 0, .int .i64 0, .int .i64 0, .slice a3 0 d3] 34))) := HU2.out.trans (hb4.mono HU2.out.size); have H63 := keepb H62.out hb4; have H73 := keepb H7.out hb4; have H8 : Hid ((u3.alloc (.cells #[.int .i64 7, .int .i64 0, .int .i64 0, .int .i64 0, .int .i64 0, .int .i64 0, .int .i64 0, .int .i64 0, .int .i64 0, .slice a3 0 d3] 34)).heap[u3.heap.size]? = some (.cells #[.int .i64 7, .int .i64 0, .int .i64 0, .int .i64 0, .int .i64 0, .int .i64 0, .int .i64 0, .int .i64 0, .int .i64 0, .slice a3 0 d3] 34 (0, 0))) := heap_alloc_new _ _; have HM3 : Hid (MAt (u3.alloc (.cells #[.int .i64 7, .int .i64 0, .int .i64 0, .int .i64 0, .int .i64 0, .int .i64 0, .int .i64 0, .int .i64 0, .int .i64 0, .slice a3 0 d3] 34)) a1 m ms') := HM2.out.below hb4 (Nat.le_refl _); clear s0 s1 s2 s3 s4 s5 s6 s7 s8 s9; obtain ⟨g0, g1, g2⟩ := cells3 (keepb HX.out HU3.out).out; have h4 := HCN.out (u3.alloc (.cells #[.int .i64 7, .int .i64 0, .int .i64 0, .int .i64 0, .int .i64 0, .int .i64 0, .int .i64 0, .int .i64 0, .int .i64 0, .slice a3 0 d3] 34)); clear hb4)
      | (go_at_call 8; have hq := h4; clear h4; (with_reducible refine hq.mono ?_); clear hq; rintro e u4 ⟨a4, d4, rfl, HO4, HB5⟩; have hb5 : Below (u3.alloc (.cells #[.int .i64 7, .int .i64 0, .int .i64 0, .int .i64 0, .int .i64 0, .int .i64 0, .int .i64 0, .int .i64 0, .int .i64 0, .slice a3 0 d3] 34)).heap.size (u3.alloc (.cells #[.int .i64 7, .int .i64 0, .int .i64 0, .int .i64 0, .int .i64 0, .int .i64 0, .int .i64 0, .int .i64 0, .int .i64 0, .slice a3 0 d3] 34)) (u4.alloc (.cells #[.int .i64 0, .int .i64 0, .int .i64 0, .int .i64 0, .int .i64 0, .int .i64 0, .int .i64 0, .int .i64 k, .int .i64 0, .slice a4 0 d4] 34)) := HB5.out.trans ((below_box _).mono HB5.out.size); have HU4 : Hid (Below V.heap.size V (u4.alloc (.cells #[.int .i64 0, .int .i64 0, .int .i64 0, .int .i64 0, .int .i64 0, .int .i64 0, .int .i64 0, .int .i64 k, .int .i64 0, .slice a4 0 d4] 34))) := HU3.out.trans (hb5.mono HU3.out.size); obtain ⟨s0, s1, s2, s3, s4, s5, s6, s7, s8, s9⟩ := cells10V (keepb H63.out hb5).out; obtain ⟨t0, t1, t2, t3, t4, t5, t6, t7, t8, t9⟩ := cells10V (keepb H73.out hb5).out; obtain ⟨v0, v1, v2, v3, v4, v5, v6, v7, v8, v9⟩ := cells10V (keepb H8.out hb5).out; have H9 : Hid ((u4.alloc (.cells #[.int .i64 0, .int .i64 0, .int .i64 0, .int .i64 0, .int .i64 0, .int .i64 0, .int .i64 0, .int .i64 k, .int .i64 0, .slice a4 0 d4] 34)).heap[u4.heap.size]? = some (.cells #[.int .i64 0, .int .i64 0, .int .i64 0, .int .i64 0, .int .i64 0, .int .i64 0, .int .i64 0, .int .i64 k, .int .i64 0, .slice a4 0 d4] 34 (0, 0))) := heap_alloc_new _ _; have HM4 : Hid (MAt (u4.alloc (.cells #[.int .i64 0, .int .i64 0, .int .i64 0, .int .i64 0, .int .i64 0, .int .i64 0, .int .i64 0, .int .i64 k, .int .i64 0, .slice a4 0 d4] 34)) a1 m ms') := HM3.out.below hb5 (Nat.le_refl _); have HM9 : Hid (MAt (u4.alloc (.cells #[.int .i64 0, .int .i64 0, .int .i64 0, .int .i64 0, .int .i64 0, .int .i64 0, .int .i64 0, .int .i64 k, .int .i64 0, .slice a4 0 d4] 34)) a4 0 []) := mat_row (HO4.out.alloc _) rfl; obtain ⟨o0, o1, o2⟩ := cells3 (keepb HX.out HU4.out).out; obtain ⟨p0, p1⟩ := cells2 (keepb HY.out HU4.out).out; have h5 := HCV.out (u4.alloc (.cells #[.int .i64 0, .int .i64 0, .int .i64 0, .int .i64 0, .int .i64 0, .int .i64 0, .int .i64 0, .int .i64 k, .int .i64 0, .slice a4 0 d4] 34)) a1 d1 HQ.out HM4.out; clear hb5)
      | (go_at_call 9; have hq := h5; clear h5; (with_reducible refine hq.mono ?_); clear hq; rintro e w5 ⟨rfl, hb6⟩; have HU5 : Hid (Below V.heap.size V w5) := HU4.out.trans (hb6.mono HU4.out.size); obtain ⟨r0, r1, r2, r3, r4, r5, r6, r7, r8, r9⟩ := cells10V (keepb H9.out hb6).out; obtain ⟨q0, q1⟩ := cells2 (keepb HY.out HU5.out).out; have h6 := HCF.out w5 a4 d4 (HM9.out.below hb6 (Nat.le_refl _)); clear hb6)
      | (go_at_call 6; have hq := h6; clear h6; (with_reducible refine hq.mono ?_); clear hq; rintro e w6 ⟨a5, d5, rfl, HB7⟩; have HU6 : Hid (Below V.heap.size V w6) := HU5.out.trans (HB7.out.mono HU5.out.size)))
    go_ret
    exact ⟨rfl, HBw.out.trans (HU6.out.mono HBw.out.size)⟩

end Go.Proofs.Ytpcgkgjmcnncdaa
