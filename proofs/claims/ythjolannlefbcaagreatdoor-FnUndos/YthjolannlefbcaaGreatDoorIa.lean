/- The specification's l5Tx keeps its contract. -/
import Derived.Test.YthjolannlefbcaaGreatDoorJn6
import Derived.Test.YthjolannlefbcaaGreatDoorJn2
import Derived.Test.YthjolannlefbcaaGreatDoorJn8
namespace Go.Proofs.YthjolannlefbcaaGreatDoor
open Go.RowKit Go.Shelf Go.Maps Go.WideMaps

theorem l1Max_any (a b : Int) (w : World) : Calls Tryz.prog 109 #[.int .i64 a, .int .i64 b] w fun e w' => ∃ z : Int, e = .returned (.int .i64 z) ∧ w' = w := by
  by_cases h : b < a
  · go_enter Tryz.func109, Tryz.ntmps109
    go_wp2
    go_ret
    exact ⟨a, rfl, rfl⟩
  · go_enter Tryz.func109, Tryz.ntmps109
    go_wp2
    go_ret
    first | exact ⟨b, rfl, rfl⟩ | exact ⟨⟨b, rfl⟩, rfl⟩
section
variable {w v V V' : World} {SB : Nat} {ca : Option Addr} {cn cc t t' T : Nat} {k f : Int} {ia : Option Addr} {ic : Nat} {rs : List (Int × Int)} {oa : Option Addr} {oc : Nat} {os : List Ou}
/-- An in more; what is no row of refs and not the transaction stays. -/
theorem TqD.moreK (H : TqD w v V SB ca cn cc t T k f ia ic rs oa oc os) (p q : Int) (hl : rs.length ≤ 500) :
    ∃ g cap w5, (Builtin.append_ #[25, 25] 25 #[.slice ia rs.length ic, .slice (some ⟨V.heap.size, 0, none⟩) 1 1]).run Tryz.prog (V.alloc (.cells #[.int .i64 p, .int .i64 q] 38)) = .ok (.slice (some ⟨g, 0, none⟩) (rs.length + 1) cap) w5 ∧
      (w5.cell? ⟨T, 2, none⟩ = some (.slice ia rs.length ic) ∧ w5.frozen? ⟨T, 2, none⟩ = false) ∧ Hid (TqD w v (w5.setCell ⟨T, 2, none⟩ (.slice (some ⟨g, 0, none⟩) (rs.length + 1) cap)) SB ca cn cc t T k f (some ⟨g, 0, none⟩) cap (rs ++ [(p, q)]) oa oc os) ∧
      (∀ b o, V.heap[b]? = some o → b ≠ T → (∀ cs fz, o ≠ .cells cs 38 fz) → (w5.setCell ⟨T, 2, none⟩ (.slice (some ⟨g, 0, none⟩) (rs.length + 1) cap)).heap[b]? = some o) := by
  have H1 := H.step (below_box (.cells #[.int .i64 p, .int .i64 q] 38))
  have hvs := H1.b.chg.size
  obtain ⟨g, cap, w5, hrun, HG⟩ := ref_added (p := p) (q := q) (X := V.heap.size) H1.ref (heap_alloc_new _ _) (by omega) (by have := H.b.chg.size; simp; omega)
  obtain ⟨hown, hgr⟩ := HG.out
  have HB := H1.b.grow hgr H1.ref (by decide)
  obtain ⟨_, _, c2, _⟩ := cells4 HB.box
  have hlen : (rs ++ [(p, q)]).length = rs.length + 1 := by simp
  obtain ⟨kv, hk⟩ := H1.out
  obtain ⟨xs, q1, _⟩ := hk.row
  refine ⟨g, cap, w5, hrun, ⟨c2, Joins.unfrozen_of_block HB.box 2⟩, ?_, fun b o hb hbT ho => ?_⟩
  · rw [← hlen] at hown ⊢
    exact (TqD.put HB hown ⟨kv, (hk.turn hgr (fun b hb e => rows_apart (by decide) H1.ref q1 b e hb) (fun j hj b hb e => rows_apart (by decide) H1.ref (hk.keys j hj).1 b e hb)).up hgr.size⟩ (by simp))
  · have hbl := lt_of_block hb
    have h1 : (V.alloc (.cells #[.int .i64 p, .int .i64 q] 38)).heap[b]? = some o := ((below_box _).block b hbl).trans hb
    refine (Below.heap_setCell _ ⟨T, 2, none⟩ _ b hbT).trans ((hgr.block b (lt_of_block h1) fun e => ?_).trans h1)
    rcases H1.ref.2 with ⟨e1, _⟩ | ⟨g', c', cur, e1, _, hh, _⟩
    · rw [e1] at e; cases e
    · rw [e1] at e
      have e2 : b = g' := by simpa [Value.ownBlock] using e
      subst e2
      rw [h1] at hh
      exact ho _ _ (Option.some.inj hh)
/-- One out, its keys drawn since V0. -/
theorem TqD.oneO {V0 : World} {t0 kc : Nat} {x y z : Int} {l : List Int} {ka : Option Addr} (H0 : TqD w v V0 SB ca cn cc t0 T k f ia ic rs oa oc os) (hS : Src w V SB ca cn cc t) (hc : Chg V0 V SB (SB + 1)) (hr : V.ownsRow V0.heap.size 2 1 (.slice ka l.length kc) l.length (ints l)) :
    TqD w v ((V.alloc (.cells #[.int .i64 z, .slice ka l.length kc, .int .i64 x, .int .i64 y] 73)).setCell ⟨T, 3, none⟩ (.slice (some ⟨V.heap.size, 0, none⟩) 1 1)) SB ca cn cc t T k f ia ic rs (some ⟨V.heap.size, 0, none⟩) 1 [⟨z, l, x, y⟩] := by
  have hb := below_box (w := V) (.cells #[.int .i64 z, .slice ka l.length kc, .int .i64 x, .int .i64 y] 73)
  have H1 := (H0.draw hS hc).step hb
  have hV0 : v.heap.size + 1 ≤ V0.heap.size := by have := H0.b.ord; have := H0.lt; omega
  have hVV := hc.size
  have hrow : (V.alloc (.cells #[.int .i64 z, .slice ka l.length kc, .int .i64 x, .int .i64 y] 73)).ownsRow (v.heap.size + 1) 73 4 (.slice (some ⟨V.heap.size, 0, none⟩) 1 1) 1 [.int .i64 z, .slice ka l.length kc, .int .i64 x, .int .i64 y] :=
    ⟨rfl, .inr ⟨V.heap.size, 1, _, rfl, by omega, heap_alloc_new _ _, Nat.le_refl _, by unfold maxLen; omega, rfl, rfl⟩⟩
  refine H1.setO (os' := [⟨z, l, x, y⟩]) ⟨fun _ => .slice ka l.length kc, ⟨⟨_, hrow, fun j hj => ?_⟩, fun b hb => (hrow.lt b hb).2, fun j hj => ?_, fun i j hij hj => ?_⟩⟩
  · obtain rfl : j = 0 := by simp at hj; omega
    exact ⟨rfl, rfl, rfl, rfl⟩
  · obtain rfl : j = 0 := by simp at hj; omega
    exact ⟨Joins.ownsRow_le (hr.alloc _) hV0, fun b hb => ((hr.alloc _).lt b hb).2⟩
  · simp at hj; omega
end
theorem cat_coin {V : World} {a : Option Addr} {n j : Nat} {cs : List Co} (h : CAt V a n cs) (hj : j < n) : ∃ b off ka kc, a = some ⟨b, off, none⟩ ∧ CoAt V b (off + j * 8) (cs.getD j C0) ka kc := by
  obtain ⟨_, h | ⟨b, off, e, _, hc⟩⟩ := h
  · omega
  · obtain ⟨ka, kc, h0, _⟩ := hc j hj
    exact ⟨b, off, ka, kc, e, h0⟩

set_option maxRecDepth 20000 in
set_option maxHeartbeats 8000000 in
theorem l5Tx_any (SB cn cc t n vc : Nat) (ca va : Option Addr) (l0 : List Int) (cs : List Co) (w v : World) (ht : t ≤ 600) (hcn : cn ≤ 1048577) (hB : BAt w ca cn l0) (h : Src w v SB ca cn cc t) (hn : n ≤ 100) (hC : ∀ V, Chg v V SB (SB + 1) → CAt V va n cs) :
    Calls Tryz.prog 68 #[.pointer (some ⟨SB, 0, none⟩), .slice va n vc] v fun e v' => OutT w v SB ca cn cc (t + 70) e v' KTB := by
  have HBA : Hid (BAt w ca cn l0) := hB
  have HCC : Hid (∀ V, Chg v V SB (SB + 1) → CAt V va n cs) := hC
  have hlt := h.lt
  have h1 := l3Draw_any SB cn cc t ca l0 w (v.alloc (.cells #[.int .i64 0, .int .i64 0, .slice none 0 0, .slice none 0 0] 28)) (by omega) hcn hB (h.step (below_box _))
  clear hB h hC
  go_enter Tryz.func68, Tryz.ntmps68
  go_upto_region 2 with (first
    | (go_at_call 75; (with_reducible refine h1.mono ?_); clear h1; rintro e v3 ⟨k, f, ia, ic, rs, oa, oc, os, t3, rfl, ht3, HK3, HO3⟩; have HD3' := TqD.first (k := k) (f := f) HO3.out hlt))
  have HFEW : Hid (KTB k f rs os) := ⟨by have := HK3.out.2.1.1; omega, by have := HK3.out.2.2.1; omega, fun o ho => (by have := (HK3.out.2.2.2 o ho).2.1; omega)⟩
  have hno5 : os.length ≤ 2 := HK3.out.2.2.1.2
  obtain ⟨T, hT⟩ : ∃ x, x = v3.heap.size := ⟨_, rfl⟩
  obtain ⟨V3, hV3⟩ : ∃ x, x = v3.alloc (.cells #[.int .i64 k, .int .i64 f, .slice ia rs.length ic, .slice oa os.length oc] 28) := ⟨_, rfl⟩
  rw [← hV3, ← hT] at HD3'
  rw [← hV3, ← hT]
  have HD3 : Hid (TqD w v V3 SB ca cn cc t3 T k f ia ic rs oa oc os) := HD3'
  clear hV3 hT HD3' HO3 HK3
  by_cases hn0 : 0 < n
  rotate_left
  · have hni : ¬ (0 : Int) < (n : Int) := by omega
    obtain ⟨c0, c1, c2, c3⟩ := HD3.out.cells
    obtain ⟨r0, r1, r2, r3, r4, r5, r6, r7⟩ := cells4 HD3.out.b.res
    go_wp2
    obtain ⟨j0, j1, j2, j3⟩ := four_set HD3.out.b.res (.int .i64 k) (.int .i64 f) (.slice ia rs.length ic) (.slice oa os.length oc)
    refine bodyPost_ret (v := .agg #[.int .i64 k, .int .i64 f, .slice ia rs.length ic, .slice oa os.length oc]) (by simp [results, Tryz.results68, go_sem, j0, j1, j2, j3]) rfl ?_
    exact HD3.out.ret (by omega) HFEW.out rfl _ _ _ _
  have hni : (0 : Int) < (n : Int) := by omega
  have hch := l1Chance_any SB cn cc t3 ca l0 8 w V3 (by omega) (by omega) hcn HBA.out HD3.out.b.src
  go_wp2_with fail
  refine hch.mono ?_
  clear hch
  rintro e v4 ⟨b, rfl, hS4, hc4⟩
  have HD4 : Hid (TqD w v v4 SB ca cn cc (t3 + 1) T k f ia ic rs oa oc os) := HD3.out.draw hS4 hc4
  clear hS4 hc4 HD3
  cases b
  rotate_left
  · obtain ⟨c0, c1, c2, c3⟩ := HD4.out.cells
    obtain ⟨r0, r1, r2, r3, r4, r5, r6, r7⟩ := cells4 HD4.out.b.res
    go_wp2
    obtain ⟨j0, j1, j2, j3⟩ := four_set HD4.out.b.res (.int .i64 k) (.int .i64 f) (.slice ia rs.length ic) (.slice oa os.length oc)
    refine bodyPost_ret (v := .agg #[.int .i64 k, .int .i64 f, .slice ia rs.length ic, .slice oa os.length oc]) (by simp [results, Tryz.results68, go_sem, j0, j1, j2, j3]) rfl ?_
    exact HD4.out.ret (by omega) HFEW.out rfl _ _ _ _
  have HD5 : Hid (TqD w v (v4.setCell ⟨T, 2, none⟩ (.slice none 0 0)) SB ca cn cc (t3 + 1) T k f none 0 [] oa oc os) := HD4.out.noR
  obtain ⟨c0, c1, c2, c3⟩ := HD4.out.cells
  have f2 := HD4.out.fz 2
  have hx := l1Next_any SB cn cc (t3 + 1) ca l0 2 w (v4.setCell ⟨T, 2, none⟩ (.slice none 0 0)) (by omega) (by omega) hcn HBA.out HD5.out.b.src
  go_wp2_with (first
    | (go_at_call 16; (with_reducible refine hx.mono ?_); clear hx; rintro e v6 ⟨r, rfl, ⟨a6, b6⟩, hS6, hc6⟩; have b6' : r < 2 := b6 (by omega); clear b6; have hw6 := IntWalk.i64_in (1 + r) (by omega); have HD6 : Hid (TqD w v v6 SB ca cn cc (t3 + 1 + 1) T k f none 0 [] oa oc os) := HD5.out.draw hS6 hc6; clear hS6 hc6))
  obtain ⟨k6, hk6⟩ : ∃ q : Nat, 1 + r = (q : Int) := ⟨(1 + r).toNat, by omega⟩
  rw [hk6]
  have hk6b : k6 ≤ 2 := by omega
  clear hk6 hw6 a6 b6' HD5 HD4 c0 c1 c2 c3 f2
  go_loopw [6, 7, 8] (fun s i z wr => ∃ (q : Nat) (sm : Int), q ≤ 2 ∧ s = .int .i64 sm ∧ i = .int .i64 (q : Int) ∧ Hid (∃ (t' : Nat) (ia : Option Addr) (ic : Nat) (rs : List (Int × Int)), TqD w v wr SB ca cn cc t' T k f ia ic rs oa oc os ∧ rs.length + q ≤ 2 ∧ t' + q ≤ t + 40)) (fun s i z _ => (intOf i).toNat)
  case atStart => exact ⟨k6, 0, hk6b, rfl, rfl, t3 + 1 + 1, none, 0, [], HD6.out, by simp only [List.length_nil]; omega, by omega⟩
  case round =>
    obtain ⟨q, sm, hq, rfl, rfl, HI⟩ := hrel
    obtain ⟨t', ia, ic, rs, hD, hl2, htk⟩ := HI.out
    have HD : Hid (TqD w v wr SB ca cn cc t' T k f ia ic rs oa oc os) := hD
    clear HI hD HD6
    by_cases hq0 : 0 < q
    · obtain ⟨q', rfl⟩ : ∃ q', q = q' + 1 := ⟨q - 1, by omega⟩
      have hki : (0 : Int) < ((q' + 1 : Nat) : Int) := by omega
      have hx := l1Next_any SB cn cc t' ca l0 (n : Int) w wr (by omega) (by omega) hcn HBA.out HD.out.b.src
      go_wp2_with fail
      refine hx.mono ?_
      clear hx
      rintro e v7 ⟨r7, rfl, ⟨a7, b7⟩, hS7, hc7⟩
      have b7' := b7 (by omega)
      obtain ⟨j, hj⟩ : ∃ j : Nat, r7 = (j : Int) := ⟨r7.toNat, by omega⟩
      subst hj
      have hjn : j < n := by omega
      have HD7 : Hid (TqD w v v7 SB ca cn cc (t' + 1) T k f ia ic rs oa oc os) := HD.out.draw hS7 hc7
      clear hS7 hc7 b7 HD
      obtain ⟨b, off, ka, kc, hva, hco⟩ := cat_coin (HCC.out v7 HD7.out.b.chg) hjn
      obtain ⟨x, hx⟩ : ∃ x, x = cs.getD j C0 := ⟨_, rfl⟩
      rw [← hx] at hco
      obtain ⟨y0, y1, y2, y3, y4, y5, y6, y7⟩ := hco
      subst hva
      clear hx
      have HX8 : Hid ((v7.alloc (.cells #[.int .i64 x.p, .int .i64 x.q, .int .i64 x.v, .slice ka x.l.length kc, .int .i64 x.x, .int .i64 x.y, .int .i64 x.h, .bool x.m] 75)).heap[v7.heap.size]? = some (.cells #[.int .i64 x.p, .int .i64 x.q, .int .i64 x.v, .slice ka x.l.length kc, .int .i64 x.x, .int .i64 x.y, .int .i64 x.h, .bool x.m] 75 (0, 0))) := heap_alloc_new _ _
      have HD8 : Hid (TqD w v (v7.alloc (.cells #[.int .i64 x.p, .int .i64 x.q, .int .i64 x.v, .slice ka x.l.length kc, .int .i64 x.x, .int .i64 x.y, .int .i64 x.h, .bool x.m] 75)) SB ca cn cc (t' + 1) T k f ia ic rs oa oc os) := HD7.out.step (below_box _)
      obtain ⟨⟨z0, z1, z2, z3, z4, z5, z6, z7⟩, _⟩ := cells8 HX8.out
      obtain ⟨c0, c1, c2, c3⟩ := HD8.out.cells
      have ham := l3Among_any ia rs.length ic rs x.p x.q (v7.alloc (.cells #[.int .i64 x.p, .int .i64 x.q, .int .i64 x.v, .slice ka x.l.length kc, .int .i64 x.x, .int .i64 x.y, .int .i64 x.h, .bool x.m] 75)) (by unfold maxLen; omega) HD8.out.gat
      obtain ⟨mb, hmb⟩ : ∃ b, b = memB rs (x.p, x.q) := ⟨_, rfl⟩
      rw [← hmb] at ham
      have hXl := lt_of_block HX8.out
      clear hmb
      go_upto_if 39 with (first
        | (go_at_call 84; (with_reducible refine ham.mono ?_); clear ham; rintro e v9 ⟨rfl, hb9⟩; have HD9 : Hid (TqD w v v9 SB ca cn cc (t' + 1) T k f ia ic rs oa oc os) := HD8.out.step hb9; have HX9 : Hid (v9.heap[v7.heap.size]? = some (.cells #[.int .i64 x.p, .int .i64 x.q, .int .i64 x.v, .slice ka x.l.length kc, .int .i64 x.x, .int .i64 x.y, .int .i64 x.h, .bool x.m] 75 (0, 0))) := (keepb HX8.out hb9).out; clear hb9 z0 z1 z2 z3 z4 z5 z6 z7 c0 c1 c2 c3; obtain ⟨⟨z0, z1, z2, z3, z4, z5, z6, z7⟩, _⟩ := cells8 HX9.out; obtain ⟨c0, c1, c2, c3⟩ := HD9.out.cells))
      have HT9 := HD9.out.lt
      cases mb
      · obtain ⟨g, cap, w5, hrun, ⟨k2, f2⟩, HD10, hkp⟩ := HD9.out.moreK x.p x.q (by omega)
        have hXT : v7.heap.size ≠ T := fun e => by
          have h1 := HX9.out
          have h2 := HD9.out.b.box
          rw [e, h2] at h1
          have := Option.some.inj h1
          injection this with _ e3
          exact absurd e3 (by decide)
        have HX10 : Hid ((w5.setCell ⟨T, 2, none⟩ (.slice (some ⟨g, 0, none⟩) (rs.length + 1) cap)).heap[v7.heap.size]? = some (.cells #[.int .i64 x.p, .int .i64 x.q, .int .i64 x.v, .slice ka x.l.length kc, .int .i64 x.x, .int .i64 x.y, .int .i64 x.h, .bool x.m] 75 (0, 0))) := hkp _ _ HX9.out hXT (fun cs fz e => by injection e with _ e3; exact absurd e3 (by decide))
        obtain ⟨⟨x0, x1, x2, x3, x4, x5, x6, x7⟩, _⟩ := cells8 HX10.out
        clear hkp
        go_wp2_with (first
          | (at_builtin; go_must (refine wpList_append_runC (by rfl) _ _ _ (by rfl) (by rfl) (by rfl) hrun ?_); clear hrun))
        go_roundw
        case rel => exact ⟨q', _, by omega, rfl, by go_num, t' + 1, _, _, rs ++ [(x.p, x.q)], HD10.out, by simp only [List.length_append, List.length_cons, List.length_nil]; omega, by omega⟩
        case measure => simp [intOf]
      · go_wp2
        go_roundw
        case rel => exact ⟨q', sm, by omega, rfl, by go_num, t' + 1, _, _, rs, HD9.out, by omega, by omega⟩
        case measure => simp [intOf]
    · obtain rfl : q = 0 := by omega
      have HF2 : Hid (KTB k f rs os) := ⟨by omega, HFEW.out.2⟩
      have hch := l1Chance_any SB cn cc t' ca l0 4 w wr (by omega) (by omega) hcn HBA.out HD.out.b.src
      go_wp2_with fail
      refine hch.mono ?_
      clear hch
      rintro e v6 ⟨b, rfl, hS6, hc6⟩
      have HD6 : Hid (TqD w v v6 SB ca cn cc (t' + 1) T k f ia ic rs oa oc os) := HD.out.draw hS6 hc6
      clear hS6 hc6 HD
      cases b
      rotate_left
      · obtain ⟨c0, c1, c2, c3⟩ := HD6.out.cells
        obtain ⟨r0, r1, r2, r3, r4, r5, r6, r7⟩ := cells4 HD6.out.b.res
        go_wp2
        obtain ⟨j0, j1, j2, j3⟩ := four_set HD6.out.b.res (.int .i64 k) (.int .i64 f) (.slice ia rs.length ic) (.slice oa os.length oc)
        refine bodyPost_ret (v := .agg #[.int .i64 k, .int .i64 f, .slice ia rs.length ic, .slice oa os.length oc]) (by simp [results, Tryz.results68, go_sem, j0, j1, j2, j3]) rfl ?_
        exact HD6.out.ret (by omega) HF2.out rfl _ _ _ _
      by_cases hs : 0 < sm
      rotate_left
      · obtain ⟨c0, c1, c2, c3⟩ := HD6.out.cells
        obtain ⟨r0, r1, r2, r3, r4, r5, r6, r7⟩ := cells4 HD6.out.b.res
        go_wp2
        obtain ⟨j0, j1, j2, j3⟩ := four_set HD6.out.b.res (.int .i64 k) (.int .i64 f) (.slice ia rs.length ic) (.slice oa os.length oc)
        refine bodyPost_ret (v := .agg #[.int .i64 k, .int .i64 f, .slice ia rs.length ic, .slice oa os.length oc]) (by simp [results, Tryz.results68, go_sem, j0, j1, j2, j3]) rfl ?_
        exact HD6.out.ret (by omega) HF2.out rfl _ _ _ _
      have hx := l1Next_any SB cn cc (t' + 1) ca l0 5 w v6 (by omega) (by omega) hcn HBA.out HD6.out.b.src
      go_wp2_with fail
      refine hx.mono ?_
      clear hx
      rintro e v7 ⟨r7, rfl, _, hS7, hc7⟩
      have HD7 : Hid (TqD w v v7 SB ca cn cc (t' + 1 + 1) T k f ia ic rs oa oc os) := HD6.out.draw hS7 hc7
      clear hS7 hc7 HD6
      go_wp2_with fail
      refine (l1Max_any _ _ v7).mono ?_
      rintro e v8 ⟨z, rfl, hv8⟩
      subst hv8
      have h2 := l2Draw_any SB cn cc (t' + 1 + 1) ca l0 w v8 (by omega) hcn HBA.out HD7.out.b.src
      go_wp2_with fail
      refine h2.mono ?_
      clear h2
      rintro e v9 ⟨l, x, y, ka, kc, t4, rfl, HR4, HK4, ht4, HS4, HC4⟩
      have HD9 : Hid (TqD w v (v9.alloc (.cells #[.int .i64 z, .slice ka l.length kc, .int .i64 x, .int .i64 y] 73)) SB ca cn cc t4 T k f ia ic rs oa oc os) := (HD7.out.draw HS4.out HC4.out).step (below_box _)
      have HE : Hid (TqD w v ((v9.alloc (.cells #[.int .i64 z, .slice ka l.length kc, .int .i64 x, .int .i64 y] 73)).setCell ⟨T, 3, none⟩ (.slice (some ⟨v9.heap.size, 0, none⟩) 1 1)) SB ca cn cc t4 T k f ia ic rs (some ⟨v9.heap.size, 0, none⟩) 1 [⟨z, l, x, y⟩]) := HD7.out.oneO HS4.out HC4.out HR4.out
      have HFE : Hid (KTB k f rs [⟨z, l, x, y⟩]) := ⟨by omega, by simp, fun o ho => (by simp at ho; subst ho; have := HK4.out.1.2; show l.length ≤ 4; omega)⟩
      obtain ⟨⟨u, y0, _⟩, _, hgv, hgT⟩ := HE.out.out0 (by simp)
      have y0' : ((v9.alloc (.cells #[.int .i64 z, .slice ka l.length kc, .int .i64 x, .int .i64 y] 73)).setCell ⟨T, 3, none⟩ (.slice (some ⟨v9.heap.size, 0, none⟩) 1 1)).cell? ⟨v9.heap.size, 0, none⟩ = some (.int .i64 z) := y0
      obtain ⟨c0, c1, c2, c3⟩ := HD9.out.cells
      have f3 := HD9.out.fz 3
      obtain ⟨d0, d1, d2, d3⟩ := HE.out.cells
      obtain ⟨r0, r1, r2, r3, r4, r5, r6, r7⟩ := cells4 HE.out.b.res
      clear y0 HD7 HR4 HK4 HS4 HC4
      by_cases hk1 : k = 1
      · have hkb : (k == 1) = true := by simp [hk1]
        by_cases hz : z < 100
        · have HG : Hid (TqD w v (((v9.alloc (.cells #[.int .i64 z, .slice ka l.length kc, .int .i64 x, .int .i64 y] 73)).setCell ⟨T, 3, none⟩ (.slice (some ⟨v9.heap.size, 0, none⟩) 1 1)).setCell ⟨T, 0, none⟩ (.int .i64 0)) SB ca cn cc t4 T 0 f ia ic rs (some ⟨v9.heap.size, 0, none⟩) 1 [⟨z, l, x, y⟩]) := HE.out.setk 0
          have HH : Hid (TqD w v ((((v9.alloc (.cells #[.int .i64 z, .slice ka l.length kc, .int .i64 x, .int .i64 y] 73)).setCell ⟨T, 3, none⟩ (.slice (some ⟨v9.heap.size, 0, none⟩) 1 1)).setCell ⟨T, 0, none⟩ (.int .i64 0)).setCell ⟨T, 1, none⟩ (.int .i64 0)) SB ca cn cc t4 T 0 0 ia ic rs (some ⟨v9.heap.size, 0, none⟩) 1 [⟨z, l, x, y⟩]) := HG.out.setf 0
          have g0 := HE.out.fz 0
          obtain ⟨e0, e1, e2, e3⟩ := HG.out.cells
          have g1 := HG.out.fz 1
          obtain ⟨h0, h1, h2, h3⟩ := HH.out.cells
          obtain ⟨s0, s1, s2, s3, s4, s5, s6, s7⟩ := cells4 HH.out.b.res
          clear r0 r1 r2 r3 r4 r5 r6 r7 hk1
          go_wp2
          obtain ⟨j0, j1, j2, j3⟩ := four_set HH.out.b.res (.int .i64 0) (.int .i64 0) (.slice ia rs.length ic) (.slice (some ⟨v9.heap.size, 0, none⟩) 1 1)
          refine bodyPost_ret (v := .agg #[.int .i64 0, .int .i64 0, .slice ia rs.length ic, .slice (some ⟨v9.heap.size, 0, none⟩) 1 1]) (by simp [results, Tryz.results68, go_sem, j0, j1, j2, j3]) rfl ?_
          exact HH.out.ret (by omega) HFE.out rfl _ _ _ _
        · clear hk1
          go_wp2
          obtain ⟨j0, j1, j2, j3⟩ := four_set HE.out.b.res (.int .i64 k) (.int .i64 f) (.slice ia rs.length ic) (.slice (some ⟨v9.heap.size, 0, none⟩) 1 1)
          refine bodyPost_ret (v := .agg #[.int .i64 k, .int .i64 f, .slice ia rs.length ic, .slice (some ⟨v9.heap.size, 0, none⟩) 1 1]) (by simp [results, Tryz.results68, go_sem, j0, j1, j2, j3]) rfl ?_
          exact HE.out.ret (by omega) HFE.out rfl _ _ _ _
      · have hkb : (k == 1) = false := by simp [hk1]
        clear hk1
        go_wp2
        obtain ⟨j0, j1, j2, j3⟩ := four_set HE.out.b.res (.int .i64 k) (.int .i64 f) (.slice ia rs.length ic) (.slice (some ⟨v9.heap.size, 0, none⟩) 1 1)
        refine bodyPost_ret (v := .agg #[.int .i64 k, .int .i64 f, .slice ia rs.length ic, .slice (some ⟨v9.heap.size, 0, none⟩) 1 1]) (by simp [results, Tryz.results68, go_sem, j0, j1, j2, j3]) rfl ?_
        exact HE.out.ret (by omega) HFE.out rfl _ _ _ _

end Go.Proofs.YthjolannlefbcaaGreatDoor
