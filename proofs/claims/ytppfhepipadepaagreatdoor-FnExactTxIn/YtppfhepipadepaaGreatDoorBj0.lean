/- The specification's l3Parse where the first word is the kind 0. -/
import Derived.Test.YtppfhepipadepaaGreatDoorBj
namespace Go.Proofs.YtppfhepipadepaaGreatDoor
open Go.RowKit Go.Shelf Go.Maps Go.WideMaps

set_option maxRecDepth 40000 in
set_option maxHeartbeats 40000000 in
theorem l3Parse_0 (t : List UInt8) (w : World) (ht : t.length ≤ 1048576) (hk : (cutL 32 t).getD 0 [] = [112, 97, 121]) : Calls Tryz.prog 30 #[.string (str t)] w fun e w' => OutSp w w' e t := by
  have hss : (str t).size = t.length := rfl
  obtain ⟨ws, hws⟩ : ∃ l, l = cutL 32 t := ⟨_, rfl⟩
  obtain ⟨N, hN⟩ : ∃ N, N = ws.length := ⟨_, rfl⟩
  obtain ⟨w0, hw0⟩ : ∃ x, x = ws.getD 0 [] := ⟨_, rfl⟩
  have hw0e : w0 = [112, 97, 121] := by rw [hw0, hws]; exact hk
  have hcut := cut_start t w ht
  rw [← hws, ← hN] at hcut
  have hN0 : 0 < N := by rw [hN, hws]; exact List.length_pos_iff.2 (cutL_ne 32 t)
  have hN0i : (0 : Int) < ((N : Nat) : Int) := by omega
  have hNl : N ≤ 1048577 := by rw [hN, hws]; have := cutL_len 32 t; omega
  have HN : Hid (ws.length = N) := hN.symm
  have HLN : Hid (∀ x ∈ ws, x.length ≤ 1048576) := fun x hx => Nat.le_trans (cutL_sub 32 t x (by rw [← hws]; exact hx)) ht
  have HSUM : Hid (∀ x ∈ ws, x.length + N ≤ 1048577) := fun x hx => by have := cutL_sum 32 t x (by rw [← hws]; exact hx); rw [← hws, ← hN] at this; omega
  have HI : Hid (∀ (u : World) (g vc : Nat) (k f : Int), u.ownsRow (w.heap.size + 1) 9 1 (.slice (some ⟨g, 0, none⟩) N vc) N (texts ws) → Below (w.heap.size + 1) (w.alloc (.cells #[.int .i64 0, .int .i64 0, .slice none 0 0, .slice none 0 0] 30)) u → Sl w (u.alloc (.cells #[.int .i64 k, .int .i64 f, .slice none 0 0, .slice none 0 0] 30)) g ws u.heap.size (u.heap.size + 1) k f none 0 0 [] none 0 0 none 0 0 [] (fun _ => .slice none 0 0)) := fun u g vc k f h1 h2 => sl_start k f HN.out h1 h2
  have HS0w : Hid (∀ (u : World) (g vc : Nat), u.ownsRow (w.heap.size + 1) 9 1 (.slice (some ⟨g, 0, none⟩) N vc) N (texts ws) → Below (w.heap.size + 1) (w.alloc (.cells #[.int .i64 0, .int .i64 0, .slice none 0 0, .slice none 0 0] 30)) u → (u.alloc (.cells #[.int .i64 0, .int .i64 0, .slice none 0 0, .slice none 0 0] 30)).cell? ⟨g, 0, none⟩ = some (.string (str w0))) := fun u g vc h1 h2 => by rw [hw0]; exact (HI.out u g vc 0 0 h1 h2).wd 0 (by rw [HN.out]; exact hN0)
  have HW0 : Hid (w0 = ws.getD 0 []) := hw0
  have HPN : Hid (sread t = none → parT t = none) := fun h => by show kept (sread t) t = none; rw [h]; rfl
  have HSR : Hid (sread t = srest 0 0 (ws.drop 1)) := by
    show _ = _
    have e : ws = w0 :: ws.drop 1 := by
      rw [hw0]
      cases hq : ws with
      | nil => rw [hq] at hN; simp at hN; omega
      | cons a r => rfl
    unfold sread
    rw [← hws, e, hw0e]
    rfl
  have ej : ((str w0).toList == [106, 111, 105, 110]) = false := by rw [str_is, hw0e]; decide
  have el : ((str w0).toList == [108, 101, 97, 118, 101]) = false := by rw [str_is, hw0e]; decide
  have ep : ((str w0).toList == [112, 97, 121]) = true := by rw [str_is, hw0e]; decide
  clear hN hws hw0 hw0e hk
  by_cases h3 : N < 3
  · have hi3 : ((N : Nat) : Int) < 3 := by omega
    have hd3 : decide (((N : Nat) : Int) < 3) = true := decide_eq_true hi3
    have HNO : Hid (parT t = none) := HPN.out (by rw [HSR.out]; exact srest_short (by rw [List.length_drop, HN.out]; omega))
    go_enter Tryz.func30, Tryz.ntmps30
    go_wp2_with (first | (go_at_call 49; have hq := hcut; clear hcut; (with_reducible refine hq.mono ?_); clear hq; rintro e u2 ⟨g, vc, rfl, HO2, HB2⟩; have HS0 : Hid (Sl w (u2.alloc (.cells #[.int .i64 0, .int .i64 0, .slice none 0 0, .slice none 0 0] 30)) g ws u2.heap.size (u2.heap.size + 1) 0 0 none 0 0 [] none 0 0 none 0 0 [] (fun _ => .slice none 0 0)) := HI.out u2 g vc 0 0 HO2.out HB2.out; obtain ⟨p0, p1, p2, p3, p4, p5, p6, p7⟩ := cells4 HS0.out.box; obtain ⟨r0, r1, r2, r3, r4, r5, r6, r7⟩ := cells4 HS0.out.res; have s0 : (u2.alloc (.cells #[.int .i64 0, .int .i64 0, .slice none 0 0, .slice none 0 0] 30)).cell? ⟨g, 0, none⟩ = some (.string (str w0)) := HS0w.out u2 g vc HO2.out HB2.out))
    obtain ⟨j0, j1, j2, j3⟩ := four_set HS0.out.res (.int .i64 0) (.int .i64 0) (.slice none 0 0) (.slice none 0 0)
    refine bodyPost_ret (v := .tuple #[.agg #[.int .i64 0, .int .i64 0, .slice none 0 0, .slice none 0 0], .bool false]) (by simp [results, Tryz.results30, go_sem, j0, j1, j2, j3]) rfl ?_
    exact ⟨four_belowR HS0.out.bel (Nat.le_refl _) _ _ _ _, .inr ⟨HNO.out, _, _, _, _, _, _, _, _, rfl⟩⟩
  have hi3 : ¬ ((N : Nat) : Int) < 3 := by omega
  have hd3 : decide (((N : Nat) : Int) < 3) = false := decide_eq_false hi3
  have hatN : 1 < N := by omega
  have hati : (1 : Int) < ((N : Nat) : Int) := by omega
  obtain ⟨wj, hwj⟩ : ∃ x, x = ws.getD 1 [] := ⟨_, rfl⟩
  have hwjm : wj ∈ ws := by rw [hwj]; exact getD_mem (by rw [HN.out]; exact hatN)
  have hwjl : wj.length ≤ 1048576 := HLN.out wj hwjm
  have hwjs : wj.length + 2 ≤ 1048576 := by have := HSUM.out wj hwjm; omega
  have HSwj : Hid (∀ v (T mid : Nat) (k' f' : Int) (g : Nat), Sl w v g ws T mid k' f' none 0 0 [] none 0 0 none 0 0 [] (fun _ => .slice none 0 0) → v.cell? ⟨g, 1, none⟩ = some (.string (str wj))) := fun v T mid k' f' g H => by rw [hwj]; exact H.wd 1 (by rw [HN.out]; exact hatN)
  have HSR3 : Hid (sread t = (match mapO sref (cutL 43 wj), mapO sout (ws.drop 2) with
    | some rs, some os => some ⟨0, 0, rs, os⟩
    | _, _ => none)) := by
    show _ = _
    rw [HSR.out, hwj]
    exact srest_at HN.out (by omega)
  have HIN : Hid (∀ u, Calls Tryz.prog 51 #[.string (str wj)] u fun e w' => OutIn u w' e wj) := fun u => l3Ins_any wj u hwjl
  clear hwj hwjm
  cases hrs : mapO sref (cutL 43 wj) with
  | none =>
    have HNO : Hid (parT t = none) := HPN.out (by rw [HSR3.out, hrs])
    have HIN2 : Hid (∀ u, Calls Tryz.prog 51 #[.string (str wj)] u fun e w' => e = .returned (.tuple #[.slice none 0 0, .bool false]) ∧ Hid (Below u.heap.size u w')) := fun u => (HIN.out u).mono fun e w' ⟨hb, h⟩ => by
      rcases h with ⟨rs, g, c, q, _⟩ | ⟨_, q⟩
      · rw [hrs] at q; cases q
      · exact ⟨q, hb⟩
    go_enter Tryz.func30, Tryz.ntmps30
    go_wp2_with (first
      | (go_at_call 49; have hq := hcut; clear hcut; (with_reducible refine hq.mono ?_); clear hq; rintro e u2 ⟨g, vc, rfl, HO2, HB2⟩; have HS0 : Hid (Sl w (u2.alloc (.cells #[.int .i64 0, .int .i64 0, .slice none 0 0, .slice none 0 0] 30)) g ws u2.heap.size (u2.heap.size + 1) 0 0 none 0 0 [] none 0 0 none 0 0 [] (fun _ => .slice none 0 0)) := HI.out u2 g vc 0 0 HO2.out HB2.out; obtain ⟨p0, p1, p2, p3, p4, p5, p6, p7⟩ := cells4 HS0.out.box; obtain ⟨r0, r1, r2, r3, r4, r5, r6, r7⟩ := cells4 HS0.out.res; have s0 : (u2.alloc (.cells #[.int .i64 0, .int .i64 0, .slice none 0 0, .slice none 0 0] 30)).cell? ⟨g, 0, none⟩ = some (.string (str w0)) := HS0w.out u2 g vc HO2.out HB2.out; have swj := HSwj.out _ _ _ _ _ _ HS0.out; have hIn := HIN2.out (u2.alloc (.cells #[.int .i64 0, .int .i64 0, .slice none 0 0, .slice none 0 0] 30)))
      | (go_at_call 51; (with_reducible refine hIn.mono ?_); clear hIn; rintro e u5 ⟨rfl, HB5⟩; have HS5 : Hid (Sl w u5 g ws u2.heap.size (u2.heap.size + 1) 0 0 none 0 0 [] none 0 0 none 0 0 [] (fun _ => .slice none 0 0)) := HS0.out.mem HB5.out; obtain ⟨p0, p1, p2, p3, p4, p5, p6, p7⟩ := cells4 HS5.out.box; have HS6 : Hid (Sl w (u5.setCell ⟨u2.heap.size, 2, none⟩ (.slice none 0 0)) g ws u2.heap.size u5.heap.size 0 0 none 0 0 [] none 0 0 none 0 0 [] (fun _ => .slice none 0 0)) := HS5.out.setI (ia2 := none) (n2 := 0) (ic2 := 0) (rs2 := []) rfl ⟨rfl, rfl⟩ (World.ownsRow_nil _ _ _ _) (fun b hb => by simp [Value.ownBlock] at hb)))
    refine wp_loop_rounds 1 ?_
    rw [rounds_succ]
    obtain ⟨T, hT⟩ : ∃ T, T = u2.heap.size := ⟨_, rfl⟩
    obtain ⟨wr, hwr⟩ : ∃ V, V = u5.setCell ⟨u2.heap.size, 2, none⟩ (.slice none 0 0) := ⟨_, rfl⟩
    obtain ⟨mid, hmid⟩ : ∃ z, z = u5.heap.size := ⟨_, rfl⟩
    rw [← hwr, ← hT, ← hmid] at HS6
    rw [← hwr, ← hT]
    obtain ⟨ia, n, ic, oa, m, oc, hz⟩ : ∃ (ia : Option Addr) (n ic : Nat) (oa : Option Addr) (m oc : Nat), ia = none ∧ n = 0 ∧ ic = 0 ∧ oa = none ∧ m = 0 ∧ oc = 0 := ⟨_, _, _, _, _, _, rfl, rfl, rfl, rfl, rfl, rfl⟩
    have HSL : Hid (Sl w wr g ws T mid 0 0 ia n ic [] oa m oc oa m oc [] (fun _ => .slice none 0 0)) := by
      obtain ⟨rfl, rfl, rfl, rfl, rfl, rfl⟩ := hz
      exact HS6.out
    clear hz hwr hT hmid HS6 HS5 HS0 p0 p1 p2 p3 p4 p5 p6 p7
    go_wp2
    obtain ⟨b0, b1, b2, b3, b4, b5, b6, b7⟩ := cells4 HSL.out.box
    obtain ⟨r0, r1, r2, r3, r4, r5, r6, r7⟩ := cells4 HSL.out.res
    have hTR : w.heap.size < T := by have := HSL.out.ord; omega
    have hTl : T < wr.heap.size := by have := HSL.out.ord; omega
    go_big_region
    go_wp2
    obtain ⟨j0, j1, j2, j3⟩ := four_set HSL.out.res (.int .i64 0) (.int .i64 0) (.slice ia n ic) (.slice oa m oc)
    refine bodyPost_ret (v := .tuple #[.agg #[.int .i64 0, .int .i64 0, .slice ia n ic, .slice oa m oc], .bool false]) (by simp [results, Tryz.results30, go_sem, j0, j1, j2, j3]) rfl ?_
    exact ⟨(four_belowR HSL.out.bel (Nat.le_refl _) _ _ _ _).drew, .inr ⟨HNO.out, _, _, _, _, _, _, _, _, rfl⟩⟩
  | some rs =>
  have HIN2 : Hid (∀ u, Calls Tryz.prog 51 #[.string (str wj)] u fun e w' => ∃ g0 ic, e = .returned (.tuple #[.slice (some ⟨g0, 0, none⟩) rs.length ic, .bool true]) ∧ Hid (w'.ownsRow u.heap.size 115 2 (.slice (some ⟨g0, 0, none⟩) rs.length ic) rs.length (gcells rs)) ∧ Hid (Below u.heap.size u w')) := fun u => (HIN.out u).mono fun e w' ⟨hb, h⟩ => by
    rcases h with ⟨rs', g, c, q, q1, q2⟩ | ⟨q, _⟩
    · rw [hrs] at q
      cases q
      exact ⟨g, c, q1, q2, hb⟩
    · rw [hrs] at q; cases q
  obtain ⟨n, hn⟩ : ∃ n, n = rs.length := ⟨_, rfl⟩
  rw [← hn] at HIN2
  have HNR : Hid (rs.length = n) := hn.symm
  have hn2 : n ≤ 1048576 := by rw [hn, mapO_len hrs]; have := cutL_len 43 wj; omega
  have HSOM : Hid (∀ os, mapO sout (ws.drop 2) = some os → sread t = some ⟨0, 0, rs, os⟩) := fun os ho => by rw [HSR3.out, hrs, ho]
  have HNON : Hid (mapO sout (ws.drop 2) = none → parT t = none) := fun ho => HPN.out (by rw [HSR3.out, hrs, ho])
  clear hrs hn
  go_enter Tryz.func30, Tryz.ntmps30
  go_wp2_with (first
    | (go_at_call 49; have hq := hcut; clear hcut; (with_reducible refine hq.mono ?_); clear hq; rintro e u2 ⟨g, vc, rfl, HO2, HB2⟩; have HS0 : Hid (Sl w (u2.alloc (.cells #[.int .i64 0, .int .i64 0, .slice none 0 0, .slice none 0 0] 30)) g ws u2.heap.size (u2.heap.size + 1) 0 0 none 0 0 [] none 0 0 none 0 0 [] (fun _ => .slice none 0 0)) := HI.out u2 g vc 0 0 HO2.out HB2.out; obtain ⟨p0, p1, p2, p3, p4, p5, p6, p7⟩ := cells4 HS0.out.box; obtain ⟨r0, r1, r2, r3, r4, r5, r6, r7⟩ := cells4 HS0.out.res; have s0 : (u2.alloc (.cells #[.int .i64 0, .int .i64 0, .slice none 0 0, .slice none 0 0] 30)).cell? ⟨g, 0, none⟩ = some (.string (str w0)) := HS0w.out u2 g vc HO2.out HB2.out; have swj := HSwj.out _ _ _ _ _ _ HS0.out; have hIn := HIN2.out (u2.alloc (.cells #[.int .i64 0, .int .i64 0, .slice none 0 0, .slice none 0 0] 30)))
    | (go_at_call 51; (with_reducible refine hIn.mono ?_); clear hIn; rintro e u5 ⟨g0, ic, rfl, HO5, HB5⟩; have HS5 : Hid (Sl w u5 g ws u2.heap.size (u2.heap.size + 1) 0 0 none 0 0 [] none 0 0 none 0 0 [] (fun _ => .slice none 0 0)) := HS0.out.mem HB5.out; obtain ⟨p0, p1, p2, p3, p4, p5, p6, p7⟩ := cells4 HS5.out.box; have HS6 : Hid (Sl w (u5.setCell ⟨u2.heap.size, 2, none⟩ (.slice (some ⟨g0, 0, none⟩) n ic)) g ws u2.heap.size u5.heap.size 0 0 (some ⟨g0, 0, none⟩) n ic rs none 0 0 none 0 0 [] (fun _ => .slice none 0 0)) := HS5.out.setI (ia2 := some ⟨g0, 0, none⟩) (n2 := n) (ic2 := ic) (rs2 := rs) rfl ⟨rfl, rfl⟩ (Joins.ownsRow_le HO5.out (by have := HS0.out.bel.size; omega)) (fun b hb e => by have h1 := (HO5.out.lt b hb).1; have h2 := HS0.out.ord; omega)))
  obtain ⟨T, hT⟩ : ∃ T, T = u2.heap.size := ⟨_, rfl⟩
  obtain ⟨W9, hW9⟩ : ∃ V, V = u5.setCell ⟨u2.heap.size, 2, none⟩ (.slice (some ⟨g0, 0, none⟩) n ic) := ⟨_, rfl⟩
  obtain ⟨mid, hmid⟩ : ∃ z, z = u5.heap.size := ⟨_, rfl⟩
  obtain ⟨ia, hia⟩ : ∃ a, a = some (⟨g0, 0, none⟩ : Addr) := ⟨_, rfl⟩
  have HIA : Hid (ia = some ⟨g0, 0, none⟩) := hia
  rw [← hW9, ← hT, ← hmid, ← hia] at HS6
  rw [← hW9, ← hT, ← hia]
  clear hW9 hT hmid hia HS5 HS0 p0 p1 p2 p3 p4 p5 p6 p7
  go_loopw [10, 11] (fun okv i wr => ∃ j : Nat, j ≤ N ∧ i = .int .i64 j ∧ ∃ okb : Bool, okv = .bool okb ∧ Hid (∃ m os oa oc kv, j = 2 + m ∧ Sl w wr g ws T mid 0 0 ia n ic rs oa m oc oa m oc os kv ∧ (okb = true → ((ws.drop 2).take m).map sout = os.map some) ∧ (okb = false → parT t = none))) (fun _ i _ => N - (intOf i).toNat)
  case atStart => exact ⟨2, by omega, rfl, true, rfl, 0, [], none, 0, _, rfl, HS6.out, fun _ => rfl, fun e => by cases e⟩
  case round =>
    obtain ⟨j, hj, rfl, okb, rfl, HH⟩ := hrel
    obtain ⟨m, os, oa, oc, kv, hjm, HSl, hmp, hno⟩ := HH.out
    have HSL : Hid (Sl w wr g ws T mid 0 0 ia n ic rs oa m oc oa m oc os kv) := HSl
    have HJM : Hid (j = 2 + m) := hjm
    have hm6 : m ≤ 1100000 := by omega
    have hm2 : m ≤ 1048576 := by omega
    clear HH
    cases okb
    · have HNO : Hid (parT t = none) := hno rfl
      obtain ⟨p0, p1, p2, p3, _⟩ := cells4 HSl.box
      clear HSl hmp hno hjm
      by_cases hlt : j < N
      · have hki : (j : Int) < (N : Int) := by omega
        have hkd : decide ((j : Int) < (N : Int)) = true := decide_eq_true hki
        go_wp2
        obtain ⟨b0, b1, b2, b3, b4, b5, b6, b7⟩ := cells4 HSL.out.box
        obtain ⟨r0, r1, r2, r3, r4, r5, r6, r7⟩ := cells4 HSL.out.res
        have hTR : w.heap.size < T := by have := HSL.out.ord; omega
        have hTl : T < wr.heap.size := by have := HSL.out.ord; omega
        go_big_region
        go_wp2
        obtain ⟨j0, j1, j2, j3⟩ := four_set HSL.out.res (.int .i64 0) (.int .i64 0) (.slice ia n ic) (.slice oa m oc)
        refine bodyPost_ret (v := .tuple #[.agg #[.int .i64 0, .int .i64 0, .slice ia n ic, .slice oa m oc], .bool false]) (by simp [results, Tryz.results30, go_sem, j0, j1, j2, j3]) rfl ?_
        exact ⟨(four_belowR HSL.out.bel (Nat.le_refl _) _ _ _ _).drew, .inr ⟨HNO.out, _, _, _, _, _, _, _, _, rfl⟩⟩
      · have hki : ¬ (j : Int) < (N : Int) := by omega
        have hkd : decide ((j : Int) < (N : Int)) = false := decide_eq_false hki
        go_wp2
        obtain ⟨b0, b1, b2, b3, b4, b5, b6, b7⟩ := cells4 HSL.out.box
        obtain ⟨r0, r1, r2, r3, r4, r5, r6, r7⟩ := cells4 HSL.out.res
        have hTR : w.heap.size < T := by have := HSL.out.ord; omega
        have hTl : T < wr.heap.size := by have := HSL.out.ord; omega
        go_big_region
        go_wp2
        obtain ⟨j0, j1, j2, j3⟩ := four_set HSL.out.res (.int .i64 0) (.int .i64 0) (.slice ia n ic) (.slice oa m oc)
        refine bodyPost_ret (v := .tuple #[.agg #[.int .i64 0, .int .i64 0, .slice ia n ic, .slice oa m oc], .bool false]) (by simp [results, Tryz.results30, go_sem, j0, j1, j2, j3]) rfl ?_
        exact ⟨(four_belowR HSL.out.bel (Nat.le_refl _) _ _ _ _).drew, .inr ⟨HNO.out, _, _, _, _, _, _, _, _, rfl⟩⟩
    · have HMP : Hid (((ws.drop 2).take m).map sout = os.map some) := hmp rfl
      have HOL : Hid (os.length = m) := outs_lenS (hmp rfl) (by rw [HN.out]; omega)
      clear hmp hno hjm
      by_cases hlt : j < N
      · have hki : (j : Int) < (N : Int) := by omega
        have hkd : decide ((j : Int) < (N : Int)) = true := decide_eq_true hki
        obtain ⟨x, hx⟩ : ∃ x, x = ws.getD j [] := ⟨_, rfl⟩
        have hjl : j < ws.length := by rw [HN.out]; exact hlt
        have hxl : x.length ≤ 1048576 := HLN.out x (by rw [hx]; exact getD_mem hjl)
        have cj : wr.cell? ⟨g, j, none⟩ = some (.string (str x)) := by rw [hx]; exact HSl.wd j hjl
        have HX : Hid (x = ws.getD j []) := hx
        have HWM : Hid (x ∈ ws.drop 2) := by
          have e : (ws.drop 2)[m]? = some x := by rw [List.getElem?_drop, ← HJM.out, hx, List.getD, List.getElem?_eq_getElem hjl]; rfl
          exact List.mem_of_getElem? e
        have hc2 := l2Cut_any x 61 wr hxl
        obtain ⟨r0, r1, r2, r3, r4, r5, r6, r7⟩ := cells4 HSl.res
        obtain ⟨b0, b1, b2, b3, _⟩ := cells4 HSl.box
        clear hx hjl
        by_cases h2 : (cutL 61 x).length = 2
        · obtain ⟨a, b, hab⟩ := cut_two h2
          rw [hab] at hc2
          have hc2' : Calls Tryz.prog 49 #[.string (str x), .int .u8 61] wr fun e w' => ∃ g2 v2, e = .returned (.slice (some ⟨g2, 0, none⟩) 2 v2) ∧ Hid (w'.ownsRow wr.heap.size 9 1 (.slice (some ⟨g2, 0, none⟩) 2 v2) 2 (texts [a, b])) ∧ Hid (Below wr.heap.size wr w') := hc2.mono fun e w' ⟨va, vc, e1, hO, hb⟩ => by
            obtain ⟨g2, rfl⟩ := row_some hO (by simp)
            exact ⟨g2, vc, e1, hO, hb⟩
          have hal : a.length ≤ 1048576 := by have := cutL_sub 61 x a (by rw [hab]; simp); omega
          have hbl : b.length ≤ 1048576 := by have := cutL_sub 61 x b (by rw [hab]; simp); omega
          have hs := sout_two hab
          obtain ⟨pq, hpq⟩ : ∃ z, z = b.map swq := ⟨_, rfl⟩
          have hpql : pq.length ≤ 1048576 := by rw [hpq, List.length_map]; exact hbl
          obtain ⟨n7, hn7⟩ : ∃ z, z = (numR a 7).1 := ⟨_, rfl⟩
          obtain ⟨k1, hk1⟩ : ∃ z, z = (numR a 7).2 := ⟨_, rfl⟩
          obtain ⟨k2, hk2⟩ : ∃ z, z = (parU pq).2 := ⟨_, rfl⟩
          have hN7 : ∀ u, Calls Tryz.prog 50 #[.string (str a), .int .i64 7] u fun e w' => e = .returned (.tuple #[.int .i64 n7, .bool k1]) ∧ w' = u := fun u => by rw [hn7, hk1]; exact l2Number_any a 7 u hal (by omega)
          have HSW : Hid (∀ u, Calls Tryz.prog 53 #[.string (str b), .int .u8 95, .int .u8 32] u fun e w' => e = .returned (.string (str pq)) ∧ Hid (Below u.heap.size u w')) := fun u => by rw [hpq]; exact l3SwapQ_any b u hbl
          have HPA : Hid (∀ u, Calls Tryz.prog 52 #[.string (str pq)] u fun e w' => Below u.heap.size u w' ∧ ∃ (l : List Int) (rx ry : Int) (va : Option Addr) (vk : Nat), e = .returned (.tuple #[.agg #[.slice va l.length vk, .int .i64 rx, .int .i64 ry], .bool k2]) ∧ w'.ownsRow u.heap.size 2 1 (.slice va l.length vk) l.length (ints l) ∧ ((parU pq).2 = true → (parU pq).1 = (l, rx, ry))) := fun u => by rw [hk2]; exact l2Parse_any pq u hpql
          have HK2 : Hid (k2 = (parU pq).2) := hk2
          rw [← hpq, ← hn7, ← hk1, ← hk2] at hs
          have HSO : Hid (sout x = if k1 = true ∧ k2 = true then some ⟨n7, (parU pq).1.1, (parU pq).1.2.1, (parU pq).1.2.2⟩ else none) := hs
          clear hs hn7 hk1 hk2 h2 hab hc2 hpq HSl
          cases k1
          · go_wp2_with (first
              | (go_at_call 49; (with_reducible refine hc2'.mono ?_); clear hc2'; rintro e u1 ⟨g2, v2, rfl, HO1, HB1⟩; obtain ⟨s20, s21⟩ := row_two HO1.out; have HSa : Hid (Sl w u1 g ws T mid 0 0 ia n ic rs oa m oc oa m oc os kv) := HSL.out.mem HB1.out; have hSw := HSW.out u1)
              | (go_at_call 50; (with_reducible refine (hN7 _).mono ?_); clear hN7; rintro e w' ⟨rfl, hw⟩; have hw2 := hw.symm; subst hw2; clear hw)
              | (go_at_call 53; (with_reducible refine hSw.mono ?_); clear hSw; rintro e u3 ⟨rfl, HB3⟩; have HSb : Hid (Sl w u3 g ws T mid 0 0 ia n ic rs oa m oc oa m oc os kv) := HSa.out.mem HB3.out; have hPa := HPA.out u3)
              | (go_at_call 52; (with_reducible refine hPa.mono ?_); clear hPa; rintro e u4 ⟨hb4, l, rx, ry, va, vk, rfl, hO4, hp4⟩; have HSc : Hid (Sl w u4 g ws T mid 0 0 ia n ic rs oa m oc oa m oc os kv) := HSb.out.mem hb4; obtain ⟨ln, hln⟩ : ∃ z, z = l.length := ⟨_, rfl⟩; rw [← hln] at hO4 ⊢; have HLN2 : Hid (l.length = ln) := hln.symm; clear hln; have HP4 : Hid (k2 = true → (parU pq).1 = (l, rx, ry)) := (fun e => hp4 (HK2.out.symm.trans e)); have hbr : Below u4.heap.size u4 (u4.alloc (.cells #[.slice va ln vk, .int .i64 rx, .int .i64 ry] 95)) := below_box _; have hbo : Below (u4.alloc (.cells #[.slice va ln vk, .int .i64 rx, .int .i64 ry] 95)).heap.size (u4.alloc (.cells #[.slice va ln vk, .int .i64 rx, .int .i64 ry] 95)) ((u4.alloc (.cells #[.slice va ln vk, .int .i64 rx, .int .i64 ry] 95)).alloc (.cells #[.int .i64 n7, .slice va ln vk, .int .i64 rx, .int .i64 ry] 100)) := below_box _; have HSd : Hid (Sl w (u4.alloc (.cells #[.slice va ln vk, .int .i64 rx, .int .i64 ry] 95)) g ws T mid 0 0 ia n ic rs oa m oc oa m oc os kv) := HSc.out.mem hbr; have HSe : Hid (Sl w ((u4.alloc (.cells #[.slice va ln vk, .int .i64 rx, .int .i64 ry] 95)).alloc (.cells #[.int .i64 n7, .slice va ln vk, .int .i64 rx, .int .i64 ry] 100)) g ws T mid 0 0 ia n ic rs oa m oc oa m oc os kv) := HSd.out.mem hbo; obtain ⟨p0, p1, p2, p3, _⟩ := cells4 HSd.out.box; obtain ⟨g6, c6, w6, hrun, HA⟩ := out_step (q := ⟨n7, l, rx, ry⟩) HSe.out HOL.out HLN2.out (Joins.ownsRow_le ((hO4.alloc _).alloc _) (Nat.le_refl _)) HSb.out (heap_alloc_new (u4.alloc (.cells #[.slice va ln vk, .int .i64 rx, .int .i64 ry] 95)) _) hm6; have hsz6 : (u4.alloc (.cells #[.slice va ln vk, .int .i64 rx, .int .i64 ry] 95)).heap.size = u4.heap.size + 1 := (by simp); rw [hsz6] at hrun; obtain ⟨t0, t1, t2, t3, t4, t5, t6, t7⟩ := cells4 HA.out.box; have HF7 : Hid (∃ kv', Sl w (w6.setCell ⟨T, 3, none⟩ (.slice (some ⟨g6, 0, none⟩) (m + 1) c6)) g ws T mid 0 0 ia n ic rs (some ⟨g6, 0, none⟩) (m + 1) c6 (some ⟨g6, 0, none⟩) (m + 1) c6 (os ++ [⟨n7, l, rx, ry⟩]) kv') := ⟨_, HA.out.setO⟩; clear hb4 hO4 hp4 hbr hbo)
              | (at_builtin; go_must (refine wpList_append_runC (by rfl) _ _ _ (by rfl) (by rfl) (by rfl) hrun ?_); clear hrun))
            go_roundw
            case rel =>
              obtain ⟨kv', HF⟩ := HF7.out
              refine ⟨j + 1, by omega, by go_num, false, rfl, m + 1, os ++ [⟨n7, l, rx, ry⟩], some ⟨g6, 0, none⟩, c6, kv', by have := HJM.out; omega, HF, fun e => ?_, fun e => ?_⟩
              · cases e
              · exact HNON.out (mapO_none HWM.out (by rw [HSO.out, if_neg (fun h => by cases h.1)]))
            case measure => simp [intOf]; omega
          · go_wp2_with (first
              | (go_at_call 49; (with_reducible refine hc2'.mono ?_); clear hc2'; rintro e u1 ⟨g2, v2, rfl, HO1, HB1⟩; obtain ⟨s20, s21⟩ := row_two HO1.out; have HSa : Hid (Sl w u1 g ws T mid 0 0 ia n ic rs oa m oc oa m oc os kv) := HSL.out.mem HB1.out; have hSw := HSW.out u1)
              | (go_at_call 50; (with_reducible refine (hN7 _).mono ?_); clear hN7; rintro e w' ⟨rfl, hw⟩; have hw2 := hw.symm; subst hw2; clear hw)
              | (go_at_call 53; (with_reducible refine hSw.mono ?_); clear hSw; rintro e u3 ⟨rfl, HB3⟩; have HSb : Hid (Sl w u3 g ws T mid 0 0 ia n ic rs oa m oc oa m oc os kv) := HSa.out.mem HB3.out; have hPa := HPA.out u3)
              | (go_at_call 52; (with_reducible refine hPa.mono ?_); clear hPa; rintro e u4 ⟨hb4, l, rx, ry, va, vk, rfl, hO4, hp4⟩; have HSc : Hid (Sl w u4 g ws T mid 0 0 ia n ic rs oa m oc oa m oc os kv) := HSb.out.mem hb4; obtain ⟨ln, hln⟩ : ∃ z, z = l.length := ⟨_, rfl⟩; rw [← hln] at hO4 ⊢; have HLN2 : Hid (l.length = ln) := hln.symm; clear hln; have HP4 : Hid (k2 = true → (parU pq).1 = (l, rx, ry)) := (fun e => hp4 (HK2.out.symm.trans e)); have hbr : Below u4.heap.size u4 (u4.alloc (.cells #[.slice va ln vk, .int .i64 rx, .int .i64 ry] 95)) := below_box _; have hbo : Below (u4.alloc (.cells #[.slice va ln vk, .int .i64 rx, .int .i64 ry] 95)).heap.size (u4.alloc (.cells #[.slice va ln vk, .int .i64 rx, .int .i64 ry] 95)) ((u4.alloc (.cells #[.slice va ln vk, .int .i64 rx, .int .i64 ry] 95)).alloc (.cells #[.int .i64 n7, .slice va ln vk, .int .i64 rx, .int .i64 ry] 100)) := below_box _; have HSd : Hid (Sl w (u4.alloc (.cells #[.slice va ln vk, .int .i64 rx, .int .i64 ry] 95)) g ws T mid 0 0 ia n ic rs oa m oc oa m oc os kv) := HSc.out.mem hbr; have HSe : Hid (Sl w ((u4.alloc (.cells #[.slice va ln vk, .int .i64 rx, .int .i64 ry] 95)).alloc (.cells #[.int .i64 n7, .slice va ln vk, .int .i64 rx, .int .i64 ry] 100)) g ws T mid 0 0 ia n ic rs oa m oc oa m oc os kv) := HSd.out.mem hbo; obtain ⟨p0, p1, p2, p3, _⟩ := cells4 HSd.out.box; obtain ⟨g6, c6, w6, hrun, HA⟩ := out_step (q := ⟨n7, l, rx, ry⟩) HSe.out HOL.out HLN2.out (Joins.ownsRow_le ((hO4.alloc _).alloc _) (Nat.le_refl _)) HSb.out (heap_alloc_new (u4.alloc (.cells #[.slice va ln vk, .int .i64 rx, .int .i64 ry] 95)) _) hm6; have hsz6 : (u4.alloc (.cells #[.slice va ln vk, .int .i64 rx, .int .i64 ry] 95)).heap.size = u4.heap.size + 1 := (by simp); rw [hsz6] at hrun; obtain ⟨t0, t1, t2, t3, t4, t5, t6, t7⟩ := cells4 HA.out.box; have HF7 : Hid (∃ kv', Sl w (w6.setCell ⟨T, 3, none⟩ (.slice (some ⟨g6, 0, none⟩) (m + 1) c6)) g ws T mid 0 0 ia n ic rs (some ⟨g6, 0, none⟩) (m + 1) c6 (some ⟨g6, 0, none⟩) (m + 1) c6 (os ++ [⟨n7, l, rx, ry⟩]) kv') := ⟨_, HA.out.setO⟩; clear hb4 hO4 hp4 hbr hbo)
              | (at_builtin; go_must (refine wpList_append_runC (by rfl) _ _ _ (by rfl) (by rfl) (by rfl) hrun ?_); clear hrun))
            go_roundw
            case rel =>
              obtain ⟨kv', HF⟩ := HF7.out
              refine ⟨j + 1, by omega, by go_num, k2, rfl, m + 1, os ++ [⟨n7, l, rx, ry⟩], some ⟨g6, 0, none⟩, c6, kv', by have := HJM.out; omega, HF, fun e => ?_, fun e => ?_⟩
              · have h4 := HP4.out e
                have hq : sout (ws.getD j []) = some ⟨n7, l, rx, ry⟩ := by
                  rw [← HX.out, HSO.out, if_pos (by simp [e]), h4]
                exact outs_atS HMP.out HJM.out (by rw [HN.out]; exact hlt) hq
              · exact HNON.out (mapO_none HWM.out (by rw [HSO.out, if_neg (fun h => by have h2 := h.2; rw [e] at h2; cases h2)]))
            case measure => simp [intOf]; omega
        · obtain ⟨M, hM⟩ : ∃ M, M = (cutL 61 x).length := ⟨_, rfl⟩
          have HNO : Hid (parT t = none) := HNON.out (mapO_none HWM.out (sout_no h2))
          rw [← hM] at hc2 h2
          have hne : ((M : Int) == 2) = false := by simp; omega
          have hne2 : (M == 2) = false := by simpa using h2
          have hne3 : ¬ (M : Int) = 2 := by omega
          have hc3 : Calls Tryz.prog 49 #[.string (str x), .int .u8 61] wr fun e w' => ∃ va vc, e = .returned (.slice va M vc) ∧ Hid (Below wr.heap.size wr w') := hc2.mono fun e w' ⟨va, vc, e1, _, hb⟩ => ⟨va, vc, e1, hb⟩
          clear hc2 hM HSl
          go_wp2_with (first
            | (go_at_call 49; (with_reducible refine hc3.mono ?_); clear hc3; rintro e u3 ⟨va, v2, rfl, HB3⟩; have HS3 : Hid (Sl w u3 g ws T mid 0 0 ia n ic rs oa m oc oa m oc os kv) := HSL.out.mem HB3.out; obtain ⟨p0, p1, p2, p3, _⟩ := cells4 HS3.out.box; obtain ⟨q0, q1, q2, q3, q4, q5, q6, q7⟩ := cells4 HS3.out.res))
          obtain ⟨j0, j1, j2, j3⟩ := four_set HS3.out.res (.int .i64 0) (.int .i64 0) (.slice ia n ic) (.slice oa m oc)
          refine bodyPost_ret (v := .tuple #[.agg #[.int .i64 0, .int .i64 0, .slice ia n ic, .slice oa m oc], .bool false]) (by simp [results, Tryz.results30, go_sem, j0, j1, j2, j3]) rfl ?_
          exact ⟨four_belowR HS3.out.bel (Nat.le_refl _) _ _ _ _, .inr ⟨HNO.out, _, _, _, _, _, _, _, _, rfl⟩⟩
      · have hki : ¬ (j : Int) < (N : Int) := by omega
        have hkd : decide ((j : Int) < (N : Int)) = false := decide_eq_false hki
        have HAL : Hid (mapO sout (ws.drop 2) = some os) := mapO_some (by rw [← HMP.out, List.take_of_length_le (by rw [List.length_drop, HN.out]; have := HJM.out; omega)])
        have HSD : Hid (sread t = some ⟨0, 0, rs, os⟩) := HSOM.out os HAL.out
        have HFEW : Hid (∀ q ∈ os, q.l.length ≤ 3) := fun q hq => by
          obtain ⟨a, _, e⟩ := mapO_mem HAL.out q hq
          exact sout_few e
        have hcap := row_caps2 HSl.ref
        have hTx : ∀ u, Below wr.heap.size wr u → TxAt u ia n oa m rs os := fun u hu => ⟨GAt.owned2 ((HSL.out.mem hu).ref) HNR.out, (HSL.out.mem hu).out.at2 HOL.out HFEW.out⟩
        obtain ⟨cf, hcf⟩ : ∃ z, z = txR 0 0 rs os := ⟨_, rfl⟩
        have HF31 : Hid (∀ u, Below wr.drew.heap.size wr.drew u → Calls Tryz.prog 54 #[.pointer (some ⟨T, 0, none⟩)] u fun e w' => e = .returned (.int .i64 cf) ∧ Below u.heap.size u w') := fun u hu => by
          have hu2 : Below wr.heap.size wr u := (Below.refl _ _).drew.trans hu
          rw [hcf]
          exact l3Fault_any T n ic m oc ia oa 0 0 rs os u hn2 hm2 hcap.1 hcap.2 (fun q hq => Nat.le_trans (HFEW.out _ (getD_mem (by rw [HOL.out]; exact hq))) (by omega)) (hTx u hu2) (HSL.out.mem hu2).box
        clear HSl
        by_cases hz : cf = 0
        · subst hz
          have HT31 : Hid (∀ u, Below wr.drew.heap.size wr.drew u → Calls Tryz.prog 55 #[.pointer (some ⟨T, 0, none⟩)] u fun e w' => e = .returned (.string (str (txT 0 0 rs os))) ∧ Below u.heap.size u w') := fun u hu => by
            have hu2 : Below wr.heap.size wr u := (Below.refl _ _).drew.trans hu
            have hS2 := HSL.out.mem hu2
            obtain ⟨p0, p1, p2, p3, _⟩ := cells4 hS2.box
            exact l3Text_any T n ic m oc ia oa 0 0 rs os u (txOk_of hcf) (hTx u hu2) (by have := hS2.ord; omega) p0 p1 p2 p3
          have HCF : Hid (txR 0 0 rs os = 0) := hcf.symm
          obtain ⟨tx, htx⟩ : ∃ z, z = txT 0 0 rs os := ⟨_, rfl⟩
          rw [← htx] at HT31
          clear hTx hcap hcf
          by_cases he : tx = t
          · have hE : ((str tx).toList == (str t).toList) = true := str_yes (by rw [he])
            by_cases hl : t.length ≤ 300
            · have hli : ((t.length : Nat) : Int) ≤ 300 := by omega
              have hld : decide (((t.length : Nat) : Int) ≤ 300) = true := decide_eq_true hli
              have hfit : TxV.fits ⟨0, 0, rs, os⟩ t := ⟨HCF.out, by rw [← he, htx], hl⟩
              have HPS : Hid (parT t = some ⟨0, 0, rs, os⟩) := by show kept (sread t) t = _; rw [HSD.out]; exact if_pos hfit
              have hm0 : os.length ≠ 0 := fun e => (tx_parts (x := ⟨0, 0, rs, os⟩) HCF.out).2.2.2.1 (List.length_eq_zero_iff.1 e)
              clear hfit htx
              go_wp2
              obtain ⟨b0, b1, b2, b3, b4, b5, b6, b7⟩ := cells4 HSL.out.box
              obtain ⟨r0, r1, r2, r3, r4, r5, r6, r7⟩ := cells4 HSL.out.res
              have hTR : w.heap.size < T := by have := HSL.out.ord; omega
              have hTl : T < wr.heap.size := by have := HSL.out.ord; omega
              have hFd : Calls Tryz.prog 54 #[.pointer (some ⟨T, 0, none⟩)] wr.drew fun e w' => e = .returned (.int .i64 0) ∧ Below wr.heap.size wr w' := (HF31.out wr.drew (Below.refl _ _)).mono fun e w' h => ⟨h.1, (Below.refl _ _).drew.trans h.2⟩
              clear HF31
              have HTd : Hid (∀ x, Below wr.heap.size wr x → Calls Tryz.prog 55 #[.pointer (some ⟨T, 0, none⟩)] x fun e w' => e = .returned (.string (str tx)) ∧ Below wr.heap.size wr w') := fun x hx => (HT31.out x ⟨hx.os, hx.tape, hx.output, hx.size, hx.block⟩).mono fun e w' h => ⟨h.1, hx.trans (h.2.mono hx.size)⟩
              clear HT31
              go_region_held3 (fun w' => w'.cell? ⟨T, 0, none⟩ = some (.int .i64 0) ∧ w'.cell? ⟨T, 1, none⟩ = some (.int .i64 0) ∧ w'.cell? ⟨T, 2, none⟩ = some (.slice ia n ic) ∧ w'.cell? ⟨T, 3, none⟩ = some (.slice oa m oc)) (first | (with_reducible exact ⟨b0, b1, b2, b3⟩) | (with_reducible exact ⟨z0, z1, z2, z3⟩) | go_keep | exact keepR4 ⟨z0, z1, z2, z3⟩ (by omega))
                (first
                  | (go_at_call 54; (with_reducible refine hFd.mono ?_); clear hFd; rintro e w6 ⟨rfl, hb6⟩; have HU6 : Hid (Below wr.heap.size wr w6) := hb6; obtain ⟨z0, z1, z2, z3⟩ := cells4c (HSL.out.mem HU6.out).box; have hTd := HTd.out w6 hb6; clear hb6)
                  | (go_at_call 55; (with_reducible refine hTd.mono ?_); clear hTd; rintro e u ⟨rfl, hb7⟩; have HU : Hid (Below wr.heap.size wr u) := hb7; clear z0 z1 z2 z3; obtain ⟨z0, z1, z2, z3⟩ := cells4c (HSL.out.mem HU.out).box; have HRU : Hid (u.heap[w.heap.size]? = some (.cells #[.int .i64 0, .int .i64 0, .slice none 0 0, .slice none 0 0] 30 (0, 0))) := (HSL.out.mem HU.out).res; obtain ⟨q0, q1, q2, q3, q4, q5, q6, q7⟩ := cells4 HRU.out; clear hb7))
              go_wp2
              obtain ⟨j0, j1, j2, j3⟩ := four_set HRU.out (.int .i64 0) (.int .i64 0) (.slice ia n ic) (.slice oa m oc)
              refine bodyPost_ret (v := .tuple #[.agg #[.int .i64 0, .int .i64 0, .slice ia n ic, .slice oa m oc], .bool true]) (by simp [results, Tryz.results30, go_sem, j0, j1, j2, j3]) rfl ?_
              have hS := HSL.out.mem HU.out
              have ho := hS.ord
              have hcR : Chg u (four w.heap.size u (.int .i64 0) (.int .i64 0) (.slice ia n ic) (.slice oa m oc)) w.heap.size (w.heap.size + 1) := ((((Chg.refl _ _ _).setCell ⟨Nat.le_refl _, by omega⟩ _).setCell ⟨Nat.le_refl _, by omega⟩ _).setCell ⟨Nat.le_refl _, by omega⟩ _).setCell ⟨Nat.le_refl _, by omega⟩ _
              obtain ⟨zs, hz1, _⟩ := hS.out.row
              obtain ⟨g1, hg1⟩ := row_some hz1 (by rw [← HOL.out]; exact hm0)
              have hg0 := HIA.out
              subst hg1 hg0
              have hgr := hS.ref.lt g0 rfl
              have hgne : g0 ≠ w.heap.size := fun e => by
                subst e
                rcases hS.ref.2 with ⟨q0, _⟩ | ⟨g', cap, cur, q0, _, hgb, _⟩
                · cases q0
                · cases q0
                  rw [hS.res] at hgb
                  cases hgb
              refine ⟨four_belowR hS.bel (Nat.le_refl _) _ _ _ _, .inl ⟨⟨0, 0, rs, os⟩, g0, ic, g1, oc, w.heap.size + 1, mid, u.heap.size, kv, HPS.out, ?_, ?_, by omega, hcR.size⟩⟩
              · simp only [HNR.out, HOL.out]
              · simp only [HNR.out, HOL.out]
                have hr2 := hcR.row hS.ref (fun b hb => .inr (by have e : g0 = b := by simpa [Value.ownBlock] using hb
                                                                 omega))
                refine ⟨?_, hS.rlt g0 rfl, hS.out.chg hcR (.inr (by omega)), by omega, ho.2.2.2⟩
                refine ⟨hr2.1, ?_⟩
                rcases hr2.2 with hn | ⟨g', cap, cur, q0, h1, hgb, rest⟩
                · exact .inl hn
                · cases q0
                  exact .inr ⟨_, _, cur, rfl, by omega, hgb, rest⟩
            · have hli : ¬ ((t.length : Nat) : Int) ≤ 300 := by omega
              have hld : decide (((t.length : Nat) : Int) ≤ 300) = false := decide_eq_false hli
              have HNO : Hid (parT t = none) := kept_no fun y _ h => hl h.2.2
              clear htx
              go_wp2
              have hTl : T < wr.drew.heap.size := by have := HSL.out.ord; show T < wr.heap.size; omega
              have hRl : w.heap.size < wr.drew.heap.size := by have := HSL.out.ord; show w.heap.size < wr.heap.size; omega
              refine wp_region_any (by kernel_rfl) ?_
              change wpAny _ _ _ _ _ _ _ (World.drew _)
              refine wpAny_inv (fun L a v => ∃ (b0 b1 b2 b3 b4 b5 b6 b7 b8 b9 b10 b11 b12 b13 b14 b15 b16 b17 : Bool), L = #[b0, b1, b2, b3, b4, b5, b6, b7, b8, b9, b10, b11, b12, b13, b14, b15, b16, b17] ∧ Lk a t w.heap.size T ∧ RlC2 wr.drew w.heap.size 0 0 ia n ic oa m oc t tx 0 v a b0 b1 b2 b3 b4 b5 b6 b7 b8 b9 b10 b11 b12 b13 b14 b15 b16 b17) ?step ?done _ _ _ _ (by simp) ?start
              case start =>
                refine ⟨false, false, false, false, false, false, false, false, false, false, false, false, false, false, false, false, false, false, rfl, ⟨rfl, rfl, rfl, rfl, rfl, rfl⟩, ?_⟩
                exact { bel := fun _ => Below.refl _ _, f0 := nofun, f1 := nofun, f2 := nofun, f3 := nofun, f4 := nofun, f5 := nofun, f6 := nofun, f7 := nofun, f8 := nofun, f9 := nofun, f10 := nofun, f11 := nofun, f12 := nofun, f13 := nofun, f14 := nofun, f15 := nofun, f16 := nofun, f17 := nofun, o2_1 := nofun, o3_2 := nofun, o4_3 := nofun, o5_4 := nofun, o6_5 := nofun, o7_6 := nofun, o8_6 := nofun, o9_7 := nofun, o9_8 := nofun, o10_9 := nofun, o11_10 := nofun, o12_11 := nofun, o13_12 := nofun, o14_13 := nofun, o15_14 := nofun, o16_0 := nofun, o16_11 := nofun, o17_15 := nofun, o16_3 := nofun, o16_7 := nofun }
              case done =>
                rintro L a v ⟨b0, b1, b2, b3, b4, b5, b6, b7, b8, b9, b10, b11, b12, b13, b14, b15, b16, b17, rfl, LK, H⟩ hr
                have hall := ready_all (by kernel_rfl) hr
                obtain rfl : b16 = true := hall 16 (by decide)
                obtain rfl : b17 = true := hall 17 (by decide)
                obtain ⟨u, hu, hv⟩ := H.f16 rfl
                have l3 := H.f17 rfl
                have l2 := LK.h2
                have ld := LK.hd
                subst hv
                have hbR : u.heap[w.heap.size]? = some (.cells #[.int .i64 0, .int .i64 0, .slice none 0 0, .slice none 0 0] 30 (0, 0)) := (hu.block w.heap.size hRl).trans HSL.out.res
                obtain ⟨j0, j1, j2, j3⟩ := four_set hbR (.int .i64 0) (.int .i64 0) (.slice ia n ic) (.slice oa m oc)
                have HU : Hid (Below wr.heap.size wr u) := (Below.refl _ _).drew.trans hu
                clear H hr hall hu hbR LK
                go_wp2
                refine bodyPost_ret (v := .tuple #[.agg #[.int .i64 0, .int .i64 0, .slice ia n ic, .slice oa m oc], .bool false]) (by simp [results, Tryz.results30, go_sem, l2, l3, j0, j1, j2, j3]) ld ?_
                exact ⟨four_belowR ((HSL.out.mem HU.out).bel) (Nat.le_refl _) _ _ _ _, .inr ⟨HNO.out, _, _, _, _, _, _, _, _, rfl⟩⟩
              case step =>
                rintro L a v i ⟨b0, b1, b2, b3, b4, b5, b6, b7, b8, b9, b10, b11, b12, b13, b14, b15, b16, b17, rfl, LK, H⟩ hi
                have hlt : i < 18 := ready_lt hi
                obtain rfl | rfl | rfl | rfl | rfl | rfl | rfl | rfl | rfl | rfl | rfl | rfl | rfl | rfl | rfl | rfl | rfl | rfl : i = 0 ∨ i = 1 ∨ i = 2 ∨ i = 3 ∨ i = 4 ∨ i = 5 ∨ i = 6 ∨ i = 7 ∨ i = 8 ∨ i = 9 ∨ i = 10 ∨ i = 11 ∨ i = 12 ∨ i = 13 ∨ i = 14 ∨ i = 15 ∨ i = 16 ∨ i = 17 := by omega
                · obtain rfl : b0 = false := ready_new hi
                  obtain rfl : b16 = false := Bool.eq_false_iff.2 (fun h => by have := H.o16_0 h; cases this)
                  have l_0 := LK.h0; have l_2 := LK.h2; have l_5 := LK.h5; have l_10 := LK.h10
                  have hbT : v.heap[T]? = some (.cells #[.int .i64 0, .int .i64 0, .slice ia n ic, .slice oa m oc] 30 (0, 0)) := ((H.bel rfl).block T hTl).trans HSL.out.box
                  obtain ⟨q0, q1, q2, q3, _⟩ := cells4 hbT
                  refine wpOp_run (o := _) rfl (fun K hK => ?_)
                  go_simp
                  refine hK _ _ ?_
                  exact ⟨_, _, _, _, _, _, _, _, _, _, _, _, _, _, _, _, _, _, rfl, LK.put 120 (by decide), { H with f0 := la LK, f1 := nx H.f1, f2 := nx H.f2, f3 := nx H.f3, f4 := nx H.f4, f5 := nx H.f5, f6 := nx H.f6, f7 := nx H.f7, f8 := nx H.f8, f9 := nx H.f9, f10 := nx H.f10, f11 := nx H.f11, f12 := nx H.f12, f13 := nx H.f13, f14 := nx H.f14, f15 := nx H.f15, f17 := nx H.f17, o16_0 := fun _ => rfl }⟩
                · obtain rfl : b1 = false := ready_new hi
                  have l_0 := LK.h0; have l_2 := LK.h2; have l_5 := LK.h5; have l_10 := LK.h10
                  refine wpOp_run (o := _) rfl (fun K hK => ?_)
                  go_simp
                  refine hK _ _ ?_
                  exact ⟨_, _, _, _, _, _, _, _, _, _, _, _, _, _, _, _, _, _, rfl, LK.put 121 (by decide), { H with f0 := nx H.f0, f1 := la LK, f2 := nx H.f2, f3 := nx H.f3, f4 := nx H.f4, f5 := nx H.f5, f6 := nx H.f6, f7 := nx H.f7, f8 := nx H.f8, f9 := nx H.f9, f10 := nx H.f10, f11 := nx H.f11, f12 := nx H.f12, f13 := nx H.f13, f14 := nx H.f14, f15 := nx H.f15, f17 := nx H.f17, o2_1 := fun _ => rfl }⟩
                · obtain rfl : b2 = false := ready_new hi
                  obtain rfl : b1 = true := ready_dep (d := 1) hi (by kernel_rfl)
                  have l1 := H.f1 rfl
                  have l_0 := LK.h0; have l_2 := LK.h2; have l_5 := LK.h5; have l_10 := LK.h10
                  refine wpOp_run (o := _) rfl (fun K hK => ?_)
                  go_simp
                  refine hK _ _ ?_
                  exact ⟨_, _, _, _, _, _, _, _, _, _, _, _, _, _, _, _, _, _, rfl, LK.put 122 (by decide), { H with f0 := nx H.f0, f1 := nx H.f1, f2 := la LK, f3 := nx H.f3, f4 := nx H.f4, f5 := nx H.f5, f6 := nx H.f6, f7 := nx H.f7, f8 := nx H.f8, f9 := nx H.f9, f10 := nx H.f10, f11 := nx H.f11, f12 := nx H.f12, f13 := nx H.f13, f14 := nx H.f14, f15 := nx H.f15, f17 := nx H.f17, o2_1 := fun _ => rfl, o3_2 := fun _ => rfl }⟩
                · obtain rfl : b3 = false := ready_new hi
                  obtain rfl : b2 = true := ready_dep (d := 2) hi (by kernel_rfl)
                  obtain rfl : b1 = true := H.o2_1 rfl
                  obtain rfl : b16 = false := Bool.eq_false_iff.2 (fun h => by have := H.o16_3 h; cases this)
                  have l2 := H.f2 rfl
                  have l_0 := LK.h0; have l_2 := LK.h2; have l_5 := LK.h5; have l_10 := LK.h10
                  have hW := HF31.out v (H.bel rfl)
                  refine wpOp_run (o := _) rfl (fun K hK => ?_)
                  go_simp
                  go_at_call 54
                  refine hW.mono ?_
                  rintro e v5 ⟨rfl, hb5⟩
                  show K _ _
                  refine hK _ _ ?_
                  exact ⟨_, _, _, _, _, _, _, _, _, _, _, _, _, _, _, _, _, _, rfl, LK.put 123 (by decide), { H with bel := fun _ => (H.bel rfl).trans (hb5.mono (H.bel rfl).size), f16 := nofun, f0 := nx H.f0, f1 := nx H.f1, f2 := nx H.f2, f3 := la LK, f4 := nx H.f4, f5 := nx H.f5, f6 := nx H.f6, f7 := nx H.f7, f8 := nx H.f8, f9 := nx H.f9, f10 := nx H.f10, f11 := nx H.f11, f12 := nx H.f12, f13 := nx H.f13, f14 := nx H.f14, f15 := nx H.f15, f17 := nx H.f17, o3_2 := fun _ => rfl, o4_3 := fun _ => rfl, o16_3 := fun _ => rfl }⟩
                · obtain rfl : b4 = false := ready_new hi
                  obtain rfl : b3 = true := ready_dep (d := 3) hi (by kernel_rfl)
                  obtain rfl : b2 = true := H.o3_2 rfl
                  obtain rfl : b1 = true := H.o2_1 rfl
                  have l2 := H.f2 rfl
                  have l3 := H.f3 rfl
                  have l_0 := LK.h0; have l_2 := LK.h2; have l_5 := LK.h5; have l_10 := LK.h10
                  refine wpOp_run (o := _) rfl (fun K hK => ?_)
                  go_simp
                  refine hK _ _ ?_
                  exact ⟨_, _, _, _, _, _, _, _, _, _, _, _, _, _, _, _, _, _, rfl, LK.put 124 (by decide), { H with f0 := nx H.f0, f1 := nx H.f1, f2 := nx H.f2, f3 := nx H.f3, f4 := la LK, f5 := nx H.f5, f6 := nx H.f6, f7 := nx H.f7, f8 := nx H.f8, f9 := nx H.f9, f10 := nx H.f10, f11 := nx H.f11, f12 := nx H.f12, f13 := nx H.f13, f14 := nx H.f14, f15 := nx H.f15, f17 := nx H.f17, o4_3 := fun _ => rfl, o5_4 := fun _ => rfl }⟩
                · obtain rfl : b5 = false := ready_new hi
                  obtain rfl : b4 = true := ready_dep (d := 4) hi (by kernel_rfl)
                  obtain rfl : b3 = true := H.o4_3 rfl
                  obtain rfl : b2 = true := H.o3_2 rfl
                  obtain rfl : b1 = true := H.o2_1 rfl
                  have l2 := H.f2 rfl
                  have l4 := H.f4 rfl
                  have l_0 := LK.h0; have l_2 := LK.h2; have l_5 := LK.h5; have l_10 := LK.h10
                  refine wpOp_run (o := _) rfl (fun K hK => ?_)
                  go_simp
                  refine hK _ _ ?_
                  exact ⟨_, _, _, _, _, _, _, _, _, _, _, _, _, _, _, _, _, _, rfl, LK.put 125 (by decide), { H with f0 := nx H.f0, f1 := nx H.f1, f2 := nx H.f2, f3 := nx H.f3, f4 := nx H.f4, f5 := la LK, f6 := nx H.f6, f7 := nx H.f7, f8 := nx H.f8, f9 := nx H.f9, f10 := nx H.f10, f11 := nx H.f11, f12 := nx H.f12, f13 := nx H.f13, f14 := nx H.f14, f15 := nx H.f15, f17 := nx H.f17, o5_4 := fun _ => rfl, o6_5 := fun _ => rfl }⟩
                · obtain rfl : b6 = false := ready_new hi
                  obtain rfl : b5 = true := ready_dep (d := 5) hi (by kernel_rfl)
                  obtain rfl : b4 = true := H.o5_4 rfl
                  obtain rfl : b3 = true := H.o4_3 rfl
                  obtain rfl : b2 = true := H.o3_2 rfl
                  obtain rfl : b1 = true := H.o2_1 rfl
                  have l5 := H.f5 rfl
                  have l_0 := LK.h0; have l_2 := LK.h2; have l_5 := LK.h5; have l_10 := LK.h10
                  refine wpOp_run (o := _) rfl (fun K hK => ?_)
                  go_simp
                  refine hK _ _ ?_
                  exact ⟨_, _, _, _, _, _, _, _, _, _, _, _, _, _, _, _, _, _, rfl, LK.put 126 (by decide), { H with f0 := nx H.f0, f1 := nx H.f1, f2 := nx H.f2, f3 := nx H.f3, f4 := nx H.f4, f5 := nx H.f5, f6 := la LK, f7 := nx H.f7, f8 := nx H.f8, f9 := nx H.f9, f10 := nx H.f10, f11 := nx H.f11, f12 := nx H.f12, f13 := nx H.f13, f14 := nx H.f14, f15 := nx H.f15, f17 := nx H.f17, o6_5 := fun _ => rfl, o7_6 := fun _ => rfl, o8_6 := fun _ => rfl }⟩
                · obtain rfl : b7 = false := ready_new hi
                  obtain rfl : b6 = true := ready_dep (d := 6) hi (by kernel_rfl)
                  obtain rfl : b5 = true := H.o6_5 rfl
                  obtain rfl : b4 = true := H.o5_4 rfl
                  obtain rfl : b3 = true := H.o4_3 rfl
                  obtain rfl : b2 = true := H.o3_2 rfl
                  obtain rfl : b1 = true := H.o2_1 rfl
                  obtain rfl : b16 = false := Bool.eq_false_iff.2 (fun h => by have := H.o16_7 h; cases this)
                  have l6 := H.f6 rfl
                  have l_0 := LK.h0; have l_2 := LK.h2; have l_5 := LK.h5; have l_10 := LK.h10
                  have hW := HT31.out v (H.bel rfl)
                  refine wpOp_run (o := _) rfl (fun K hK => ?_)
                  go_simp
                  go_at_call 55
                  refine hW.mono ?_
                  rintro e v5 ⟨rfl, hb5⟩
                  show K _ _
                  refine hK _ _ ?_
                  exact ⟨_, _, _, _, _, _, _, _, _, _, _, _, _, _, _, _, _, _, rfl, LK.put 127 (by decide), { H with bel := fun _ => (H.bel rfl).trans (hb5.mono (H.bel rfl).size), f16 := nofun, f0 := nx H.f0, f1 := nx H.f1, f2 := nx H.f2, f3 := nx H.f3, f4 := nx H.f4, f5 := nx H.f5, f6 := nx H.f6, f7 := la LK, f8 := nx H.f8, f9 := nx H.f9, f10 := nx H.f10, f11 := nx H.f11, f12 := nx H.f12, f13 := nx H.f13, f14 := nx H.f14, f15 := nx H.f15, f17 := nx H.f17, o7_6 := fun _ => rfl, o9_7 := fun _ => rfl, o16_7 := fun _ => rfl }⟩
                · obtain rfl : b8 = false := ready_new hi
                  obtain rfl : b6 = true := ready_dep (d := 6) hi (by kernel_rfl)
                  obtain rfl : b5 = true := H.o6_5 rfl
                  obtain rfl : b4 = true := H.o5_4 rfl
                  obtain rfl : b3 = true := H.o4_3 rfl
                  obtain rfl : b2 = true := H.o3_2 rfl
                  obtain rfl : b1 = true := H.o2_1 rfl
                  have l6 := H.f6 rfl
                  have l_0 := LK.h0; have l_2 := LK.h2; have l_5 := LK.h5; have l_10 := LK.h10
                  refine wpOp_run (o := _) rfl (fun K hK => ?_)
                  go_simp
                  refine hK _ _ ?_
                  exact ⟨_, _, _, _, _, _, _, _, _, _, _, _, _, _, _, _, _, _, rfl, LK.put 128 (by decide), { H with f0 := nx H.f0, f1 := nx H.f1, f2 := nx H.f2, f3 := nx H.f3, f4 := nx H.f4, f5 := nx H.f5, f6 := nx H.f6, f7 := nx H.f7, f8 := la LK, f9 := nx H.f9, f10 := nx H.f10, f11 := nx H.f11, f12 := nx H.f12, f13 := nx H.f13, f14 := nx H.f14, f15 := nx H.f15, f17 := nx H.f17, o8_6 := fun _ => rfl, o9_8 := fun _ => rfl }⟩
                · obtain rfl : b9 = false := ready_new hi
                  obtain rfl : b7 = true := ready_dep (d := 7) hi (by kernel_rfl)
                  obtain rfl : b8 = true := ready_dep (d := 8) hi (by kernel_rfl)
                  obtain rfl : b6 = true := H.o7_6 rfl
                  obtain rfl : b5 = true := H.o6_5 rfl
                  obtain rfl : b4 = true := H.o5_4 rfl
                  obtain rfl : b3 = true := H.o4_3 rfl
                  obtain rfl : b2 = true := H.o3_2 rfl
                  obtain rfl : b1 = true := H.o2_1 rfl
                  have l6 := H.f6 rfl
                  have l7 := H.f7 rfl
                  have l8 := H.f8 rfl
                  have l_0 := LK.h0; have l_2 := LK.h2; have l_5 := LK.h5; have l_10 := LK.h10
                  refine wpOp_run (o := _) rfl (fun K hK => ?_)
                  go_simp
                  refine hK _ _ ?_
                  exact ⟨_, _, _, _, _, _, _, _, _, _, _, _, _, _, _, _, _, _, rfl, LK.put 129 (by decide), { H with f0 := nx H.f0, f1 := nx H.f1, f2 := nx H.f2, f3 := nx H.f3, f4 := nx H.f4, f5 := nx H.f5, f6 := nx H.f6, f7 := nx H.f7, f8 := nx H.f8, f9 := la LK, f10 := nx H.f10, f11 := nx H.f11, f12 := nx H.f12, f13 := nx H.f13, f14 := nx H.f14, f15 := nx H.f15, f17 := nx H.f17, o9_7 := fun _ => rfl, o9_8 := fun _ => rfl, o10_9 := fun _ => rfl }⟩
                · obtain rfl : b10 = false := ready_new hi
                  obtain rfl : b9 = true := ready_dep (d := 9) hi (by kernel_rfl)
                  obtain rfl : b7 = true := H.o9_7 rfl
                  obtain rfl : b8 = true := H.o9_8 rfl
                  obtain rfl : b6 = true := H.o7_6 rfl
                  obtain rfl : b5 = true := H.o6_5 rfl
                  obtain rfl : b4 = true := H.o5_4 rfl
                  obtain rfl : b3 = true := H.o4_3 rfl
                  obtain rfl : b2 = true := H.o3_2 rfl
                  obtain rfl : b1 = true := H.o2_1 rfl
                  have l6 := H.f6 rfl
                  have l9 := H.f9 rfl
                  have l_0 := LK.h0; have l_2 := LK.h2; have l_5 := LK.h5; have l_10 := LK.h10
                  refine wpOp_run (o := _) rfl (fun K hK => ?_)
                  go_simp
                  refine hK _ _ ?_
                  exact ⟨_, _, _, _, _, _, _, _, _, _, _, _, _, _, _, _, _, _, rfl, LK.put 130 (by decide), { H with f0 := nx H.f0, f1 := nx H.f1, f2 := nx H.f2, f3 := nx H.f3, f4 := nx H.f4, f5 := nx H.f5, f6 := nx H.f6, f7 := nx H.f7, f8 := nx H.f8, f9 := nx H.f9, f10 := la LK, f11 := nx H.f11, f12 := nx H.f12, f13 := nx H.f13, f14 := nx H.f14, f15 := nx H.f15, f17 := nx H.f17, o10_9 := fun _ => rfl, o11_10 := fun _ => rfl }⟩
                · obtain rfl : b11 = false := ready_new hi
                  obtain rfl : b10 = true := ready_dep (d := 10) hi (by kernel_rfl)
                  obtain rfl : b9 = true := H.o10_9 rfl
                  obtain rfl : b7 = true := H.o9_7 rfl
                  obtain rfl : b8 = true := H.o9_8 rfl
                  obtain rfl : b6 = true := H.o7_6 rfl
                  obtain rfl : b5 = true := H.o6_5 rfl
                  obtain rfl : b4 = true := H.o5_4 rfl
                  obtain rfl : b3 = true := H.o4_3 rfl
                  obtain rfl : b2 = true := H.o3_2 rfl
                  obtain rfl : b1 = true := H.o2_1 rfl
                  have l10 := H.f10 rfl
                  have l_0 := LK.h0; have l_2 := LK.h2; have l_5 := LK.h5; have l_10 := LK.h10
                  refine wpOp_run (o := _) rfl (fun K hK => ?_)
                  go_simp
                  refine hK _ _ ?_
                  exact ⟨_, _, _, _, _, _, _, _, _, _, _, _, _, _, _, _, _, _, rfl, LK.put 131 (by decide), { H with f0 := nx H.f0, f1 := nx H.f1, f2 := nx H.f2, f3 := nx H.f3, f4 := nx H.f4, f5 := nx H.f5, f6 := nx H.f6, f7 := nx H.f7, f8 := nx H.f8, f9 := nx H.f9, f10 := nx H.f10, f11 := la LK, f12 := nx H.f12, f13 := nx H.f13, f14 := nx H.f14, f15 := nx H.f15, f17 := nx H.f17, o11_10 := fun _ => rfl, o12_11 := fun _ => rfl, o16_11 := fun _ => rfl }⟩
                · obtain rfl : b12 = false := ready_new hi
                  obtain rfl : b11 = true := ready_dep (d := 11) hi (by kernel_rfl)
                  obtain rfl : b10 = true := H.o11_10 rfl
                  obtain rfl : b9 = true := H.o10_9 rfl
                  obtain rfl : b7 = true := H.o9_7 rfl
                  obtain rfl : b8 = true := H.o9_8 rfl
                  obtain rfl : b6 = true := H.o7_6 rfl
                  obtain rfl : b5 = true := H.o6_5 rfl
                  obtain rfl : b4 = true := H.o5_4 rfl
                  obtain rfl : b3 = true := H.o4_3 rfl
                  obtain rfl : b2 = true := H.o3_2 rfl
                  obtain rfl : b1 = true := H.o2_1 rfl
                  have l11 := H.f11 rfl
                  have l_0 := LK.h0; have l_2 := LK.h2; have l_5 := LK.h5; have l_10 := LK.h10
                  refine wpOp_run (o := _) rfl (fun K hK => ?_)
                  go_simp
                  refine hK _ _ ?_
                  exact ⟨_, _, _, _, _, _, _, _, _, _, _, _, _, _, _, _, _, _, rfl, LK.put 132 (by decide), { H with f0 := nx H.f0, f1 := nx H.f1, f2 := nx H.f2, f3 := nx H.f3, f4 := nx H.f4, f5 := nx H.f5, f6 := nx H.f6, f7 := nx H.f7, f8 := nx H.f8, f9 := nx H.f9, f10 := nx H.f10, f11 := nx H.f11, f12 := la LK, f13 := nx H.f13, f14 := nx H.f14, f15 := nx H.f15, f17 := nx H.f17, o12_11 := fun _ => rfl, o13_12 := fun _ => rfl }⟩
                · obtain rfl : b13 = false := ready_new hi
                  obtain rfl : b12 = true := ready_dep (d := 12) hi (by kernel_rfl)
                  obtain rfl : b11 = true := H.o12_11 rfl
                  obtain rfl : b10 = true := H.o11_10 rfl
                  obtain rfl : b9 = true := H.o10_9 rfl
                  obtain rfl : b7 = true := H.o9_7 rfl
                  obtain rfl : b8 = true := H.o9_8 rfl
                  obtain rfl : b6 = true := H.o7_6 rfl
                  obtain rfl : b5 = true := H.o6_5 rfl
                  obtain rfl : b4 = true := H.o5_4 rfl
                  obtain rfl : b3 = true := H.o4_3 rfl
                  obtain rfl : b2 = true := H.o3_2 rfl
                  obtain rfl : b1 = true := H.o2_1 rfl
                  have l11 := H.f11 rfl
                  have l12 := H.f12 rfl
                  have l_0 := LK.h0; have l_2 := LK.h2; have l_5 := LK.h5; have l_10 := LK.h10
                  refine wpOp_run (o := _) rfl (fun K hK => ?_)
                  go_simp
                  refine hK _ _ ?_
                  exact ⟨_, _, _, _, _, _, _, _, _, _, _, _, _, _, _, _, _, _, rfl, LK.put 133 (by decide), { H with f0 := nx H.f0, f1 := nx H.f1, f2 := nx H.f2, f3 := nx H.f3, f4 := nx H.f4, f5 := nx H.f5, f6 := nx H.f6, f7 := nx H.f7, f8 := nx H.f8, f9 := nx H.f9, f10 := nx H.f10, f11 := nx H.f11, f12 := nx H.f12, f13 := la LK, f14 := nx H.f14, f15 := nx H.f15, f17 := nx H.f17, o13_12 := fun _ => rfl, o14_13 := fun _ => rfl }⟩
                · obtain rfl : b14 = false := ready_new hi
                  obtain rfl : b13 = true := ready_dep (d := 13) hi (by kernel_rfl)
                  obtain rfl : b12 = true := H.o13_12 rfl
                  obtain rfl : b11 = true := H.o12_11 rfl
                  obtain rfl : b10 = true := H.o11_10 rfl
                  obtain rfl : b9 = true := H.o10_9 rfl
                  obtain rfl : b7 = true := H.o9_7 rfl
                  obtain rfl : b8 = true := H.o9_8 rfl
                  obtain rfl : b6 = true := H.o7_6 rfl
                  obtain rfl : b5 = true := H.o6_5 rfl
                  obtain rfl : b4 = true := H.o5_4 rfl
                  obtain rfl : b3 = true := H.o4_3 rfl
                  obtain rfl : b2 = true := H.o3_2 rfl
                  obtain rfl : b1 = true := H.o2_1 rfl
                  have l11 := H.f11 rfl
                  have l13 := H.f13 rfl
                  have l_0 := LK.h0; have l_2 := LK.h2; have l_5 := LK.h5; have l_10 := LK.h10
                  refine wpOp_run (o := _) rfl (fun K hK => ?_)
                  go_simp
                  refine hK _ _ ?_
                  exact ⟨_, _, _, _, _, _, _, _, _, _, _, _, _, _, _, _, _, _, rfl, LK.put 134 (by decide), { H with f0 := nx H.f0, f1 := nx H.f1, f2 := nx H.f2, f3 := nx H.f3, f4 := nx H.f4, f5 := nx H.f5, f6 := nx H.f6, f7 := nx H.f7, f8 := nx H.f8, f9 := nx H.f9, f10 := nx H.f10, f11 := nx H.f11, f12 := nx H.f12, f13 := nx H.f13, f14 := la LK, f15 := nx H.f15, f17 := nx H.f17, o14_13 := fun _ => rfl, o15_14 := fun _ => rfl }⟩
                · obtain rfl : b15 = false := ready_new hi
                  obtain rfl : b14 = true := ready_dep (d := 14) hi (by kernel_rfl)
                  obtain rfl : b13 = true := H.o14_13 rfl
                  obtain rfl : b12 = true := H.o13_12 rfl
                  obtain rfl : b11 = true := H.o12_11 rfl
                  obtain rfl : b10 = true := H.o11_10 rfl
                  obtain rfl : b9 = true := H.o10_9 rfl
                  obtain rfl : b7 = true := H.o9_7 rfl
                  obtain rfl : b8 = true := H.o9_8 rfl
                  obtain rfl : b6 = true := H.o7_6 rfl
                  obtain rfl : b5 = true := H.o6_5 rfl
                  obtain rfl : b4 = true := H.o5_4 rfl
                  obtain rfl : b3 = true := H.o4_3 rfl
                  obtain rfl : b2 = true := H.o3_2 rfl
                  obtain rfl : b1 = true := H.o2_1 rfl
                  have l11 := H.f11 rfl
                  have l14 := H.f14 rfl
                  have l_0 := LK.h0; have l_2 := LK.h2; have l_5 := LK.h5; have l_10 := LK.h10
                  refine wpOp_run (o := _) rfl (fun K hK => ?_)
                  go_simp
                  refine hK _ _ ?_
                  exact ⟨_, _, _, _, _, _, _, _, _, _, _, _, _, _, _, _, _, _, rfl, LK.put 135 (by decide), { H with f0 := nx H.f0, f1 := nx H.f1, f2 := nx H.f2, f3 := nx H.f3, f4 := nx H.f4, f5 := nx H.f5, f6 := nx H.f6, f7 := nx H.f7, f8 := nx H.f8, f9 := nx H.f9, f10 := nx H.f10, f11 := nx H.f11, f12 := nx H.f12, f13 := nx H.f13, f14 := nx H.f14, f15 := la LK, f17 := nx H.f17, o15_14 := fun _ => rfl, o17_15 := fun _ => rfl }⟩
                · obtain rfl : b16 = false := ready_new hi
                  obtain rfl : b0 = true := ready_dep (d := 0) hi (by kernel_rfl)
                  obtain rfl : b11 = true := ready_dep (d := 11) hi (by kernel_rfl)
                  obtain rfl : b10 = true := H.o11_10 rfl
                  obtain rfl : b9 = true := H.o10_9 rfl
                  obtain rfl : b7 = true := H.o9_7 rfl
                  obtain rfl : b8 = true := H.o9_8 rfl
                  obtain rfl : b6 = true := H.o7_6 rfl
                  obtain rfl : b5 = true := H.o6_5 rfl
                  obtain rfl : b4 = true := H.o5_4 rfl
                  obtain rfl : b3 = true := H.o4_3 rfl
                  obtain rfl : b2 = true := H.o3_2 rfl
                  obtain rfl : b1 = true := H.o2_1 rfl
                  have l0 := H.f0 rfl
                  have l_0 := LK.h0; have l_2 := LK.h2; have l_5 := LK.h5; have l_10 := LK.h10
                  have hbR : v.heap[w.heap.size]? = some (.cells #[.int .i64 0, .int .i64 0, .slice none 0 0, .slice none 0 0] 30 (0, 0)) := ((H.bel rfl).block w.heap.size hRl).trans HSL.out.res
                  obtain ⟨q0, q1, q2, q3, q4, q5, q6, q7⟩ := cells4 hbR
                  refine wpOp_run (o := _) rfl (fun K hK => ?_)
                  go_simp
                  refine hK _ _ ?_
                  exact ⟨_, _, _, _, _, _, _, _, _, _, _, _, _, _, _, _, _, _, rfl, LK, { H with bel := nofun, f16 := fun _ => ⟨v, H.bel rfl, rfl⟩, o16_0 := fun _ => rfl, o16_11 := fun _ => rfl, o16_3 := fun _ => rfl, o16_7 := fun _ => rfl }⟩
                · obtain rfl : b17 = false := ready_new hi
                  obtain rfl : b15 = true := ready_dep (d := 15) hi (by kernel_rfl)
                  obtain rfl : b14 = true := H.o15_14 rfl
                  obtain rfl : b13 = true := H.o14_13 rfl
                  obtain rfl : b12 = true := H.o13_12 rfl
                  obtain rfl : b11 = true := H.o12_11 rfl
                  obtain rfl : b10 = true := H.o11_10 rfl
                  obtain rfl : b9 = true := H.o10_9 rfl
                  obtain rfl : b7 = true := H.o9_7 rfl
                  obtain rfl : b8 = true := H.o9_8 rfl
                  obtain rfl : b6 = true := H.o7_6 rfl
                  obtain rfl : b5 = true := H.o6_5 rfl
                  obtain rfl : b4 = true := H.o5_4 rfl
                  obtain rfl : b3 = true := H.o4_3 rfl
                  obtain rfl : b2 = true := H.o3_2 rfl
                  obtain rfl : b1 = true := H.o2_1 rfl
                  have l15 := H.f15 rfl
                  have l_0 := LK.h0; have l_2 := LK.h2; have l_5 := LK.h5; have l_10 := LK.h10
                  refine wpOp_run (o := _) rfl (fun K hK => ?_)
                  go_simp
                  refine hK _ _ ?_
                  exact ⟨_, _, _, _, _, _, _, _, _, _, _, _, _, _, _, _, _, _, rfl, LK.put 3 (by decide), { H with f0 := nx H.f0, f1 := nx H.f1, f2 := nx H.f2, f3 := nx H.f3, f4 := nx H.f4, f5 := nx H.f5, f6 := nx H.f6, f7 := nx H.f7, f8 := nx H.f8, f9 := nx H.f9, f10 := nx H.f10, f11 := nx H.f11, f12 := nx H.f12, f13 := nx H.f13, f14 := nx H.f14, f15 := nx H.f15, f17 := la LK, o17_15 := fun _ => rfl }⟩
          · have hE : ((str tx).toList == (str t).toList) = false := str_no (by
              intro e
              apply he
              have := congrArg (fun b : ByteArray => b.data.toList) e
              simpa [str] using this)
            have HNO : Hid (parT t = none) := kept_no fun y hy h => by
              rw [HSD.out] at hy
              cases hy
              exact he (htx.trans h.2.1)
            clear htx
            go_wp2
            have hTl : T < wr.drew.heap.size := by have := HSL.out.ord; show T < wr.heap.size; omega
            have hRl : w.heap.size < wr.drew.heap.size := by have := HSL.out.ord; show w.heap.size < wr.heap.size; omega
            refine wp_region_any (by kernel_rfl) ?_
            change wpAny _ _ _ _ _ _ _ (World.drew _)
            refine wpAny_inv (fun L a v => ∃ (b0 b1 b2 b3 b4 b5 b6 b7 b8 b9 b10 b11 b12 b13 b14 b15 b16 b17 : Bool), L = #[b0, b1, b2, b3, b4, b5, b6, b7, b8, b9, b10, b11, b12, b13, b14, b15, b16, b17] ∧ Lk a t w.heap.size T ∧ RlC1 wr.drew w.heap.size 0 0 ia n ic oa m oc t tx 0 v a b0 b1 b2 b3 b4 b5 b6 b7 b8 b9 b10 b11 b12 b13 b14 b15 b16 b17) ?step ?done _ _ _ _ (by simp) ?start
            case start =>
              refine ⟨false, false, false, false, false, false, false, false, false, false, false, false, false, false, false, false, false, false, rfl, ⟨rfl, rfl, rfl, rfl, rfl, rfl⟩, ?_⟩
              exact { bel := fun _ => Below.refl _ _, f0 := nofun, f1 := nofun, f2 := nofun, f3 := nofun, f4 := nofun, f5 := nofun, f6 := nofun, f7 := nofun, f8 := nofun, f9 := nofun, f10 := nofun, f11 := nofun, f12 := nofun, f13 := nofun, f14 := nofun, f15 := nofun, f16 := nofun, f17 := nofun, o2_1 := nofun, o3_2 := nofun, o4_3 := nofun, o5_4 := nofun, o6_5 := nofun, o7_6 := nofun, o8_6 := nofun, o9_7 := nofun, o9_8 := nofun, o10_9 := nofun, o11_10 := nofun, o12_11 := nofun, o13_12 := nofun, o14_13 := nofun, o15_14 := nofun, o16_0 := nofun, o16_11 := nofun, o17_15 := nofun, o16_3 := nofun, o16_7 := nofun }
            case done =>
              rintro L a v ⟨b0, b1, b2, b3, b4, b5, b6, b7, b8, b9, b10, b11, b12, b13, b14, b15, b16, b17, rfl, LK, H⟩ hr
              have hall := ready_all (by kernel_rfl) hr
              obtain rfl : b16 = true := hall 16 (by decide)
              obtain rfl : b17 = true := hall 17 (by decide)
              obtain ⟨u, hu, hv⟩ := H.f16 rfl
              have l3 := H.f17 rfl
              have l2 := LK.h2
              have ld := LK.hd
              subst hv
              have hbR : u.heap[w.heap.size]? = some (.cells #[.int .i64 0, .int .i64 0, .slice none 0 0, .slice none 0 0] 30 (0, 0)) := (hu.block w.heap.size hRl).trans HSL.out.res
              obtain ⟨j0, j1, j2, j3⟩ := four_set hbR (.int .i64 0) (.int .i64 0) (.slice ia n ic) (.slice oa m oc)
              have HU : Hid (Below wr.heap.size wr u) := (Below.refl _ _).drew.trans hu
              clear H hr hall hu hbR LK
              go_wp2
              refine bodyPost_ret (v := .tuple #[.agg #[.int .i64 0, .int .i64 0, .slice ia n ic, .slice oa m oc], .bool false]) (by simp [results, Tryz.results30, go_sem, l2, l3, j0, j1, j2, j3]) ld ?_
              exact ⟨four_belowR ((HSL.out.mem HU.out).bel) (Nat.le_refl _) _ _ _ _, .inr ⟨HNO.out, _, _, _, _, _, _, _, _, rfl⟩⟩
            case step =>
              rintro L a v i ⟨b0, b1, b2, b3, b4, b5, b6, b7, b8, b9, b10, b11, b12, b13, b14, b15, b16, b17, rfl, LK, H⟩ hi
              have hlt : i < 18 := ready_lt hi
              obtain rfl | rfl | rfl | rfl | rfl | rfl | rfl | rfl | rfl | rfl | rfl | rfl | rfl | rfl | rfl | rfl | rfl | rfl : i = 0 ∨ i = 1 ∨ i = 2 ∨ i = 3 ∨ i = 4 ∨ i = 5 ∨ i = 6 ∨ i = 7 ∨ i = 8 ∨ i = 9 ∨ i = 10 ∨ i = 11 ∨ i = 12 ∨ i = 13 ∨ i = 14 ∨ i = 15 ∨ i = 16 ∨ i = 17 := by omega
              · obtain rfl : b0 = false := ready_new hi
                obtain rfl : b16 = false := Bool.eq_false_iff.2 (fun h => by have := H.o16_0 h; cases this)
                have l_0 := LK.h0; have l_2 := LK.h2; have l_5 := LK.h5; have l_10 := LK.h10
                have hbT : v.heap[T]? = some (.cells #[.int .i64 0, .int .i64 0, .slice ia n ic, .slice oa m oc] 30 (0, 0)) := ((H.bel rfl).block T hTl).trans HSL.out.box
                obtain ⟨q0, q1, q2, q3, _⟩ := cells4 hbT
                refine wpOp_run (o := _) rfl (fun K hK => ?_)
                go_simp
                refine hK _ _ ?_
                exact ⟨_, _, _, _, _, _, _, _, _, _, _, _, _, _, _, _, _, _, rfl, LK.put 120 (by decide), { H with f0 := la LK, f1 := nx H.f1, f2 := nx H.f2, f3 := nx H.f3, f4 := nx H.f4, f5 := nx H.f5, f6 := nx H.f6, f7 := nx H.f7, f8 := nx H.f8, f9 := nx H.f9, f10 := nx H.f10, f11 := nx H.f11, f12 := nx H.f12, f13 := nx H.f13, f14 := nx H.f14, f15 := nx H.f15, f17 := nx H.f17, o16_0 := fun _ => rfl }⟩
              · obtain rfl : b1 = false := ready_new hi
                have l_0 := LK.h0; have l_2 := LK.h2; have l_5 := LK.h5; have l_10 := LK.h10
                refine wpOp_run (o := _) rfl (fun K hK => ?_)
                go_simp
                refine hK _ _ ?_
                exact ⟨_, _, _, _, _, _, _, _, _, _, _, _, _, _, _, _, _, _, rfl, LK.put 121 (by decide), { H with f0 := nx H.f0, f1 := la LK, f2 := nx H.f2, f3 := nx H.f3, f4 := nx H.f4, f5 := nx H.f5, f6 := nx H.f6, f7 := nx H.f7, f8 := nx H.f8, f9 := nx H.f9, f10 := nx H.f10, f11 := nx H.f11, f12 := nx H.f12, f13 := nx H.f13, f14 := nx H.f14, f15 := nx H.f15, f17 := nx H.f17, o2_1 := fun _ => rfl }⟩
              · obtain rfl : b2 = false := ready_new hi
                obtain rfl : b1 = true := ready_dep (d := 1) hi (by kernel_rfl)
                have l1 := H.f1 rfl
                have l_0 := LK.h0; have l_2 := LK.h2; have l_5 := LK.h5; have l_10 := LK.h10
                refine wpOp_run (o := _) rfl (fun K hK => ?_)
                go_simp
                refine hK _ _ ?_
                exact ⟨_, _, _, _, _, _, _, _, _, _, _, _, _, _, _, _, _, _, rfl, LK.put 122 (by decide), { H with f0 := nx H.f0, f1 := nx H.f1, f2 := la LK, f3 := nx H.f3, f4 := nx H.f4, f5 := nx H.f5, f6 := nx H.f6, f7 := nx H.f7, f8 := nx H.f8, f9 := nx H.f9, f10 := nx H.f10, f11 := nx H.f11, f12 := nx H.f12, f13 := nx H.f13, f14 := nx H.f14, f15 := nx H.f15, f17 := nx H.f17, o2_1 := fun _ => rfl, o3_2 := fun _ => rfl }⟩
              · obtain rfl : b3 = false := ready_new hi
                obtain rfl : b2 = true := ready_dep (d := 2) hi (by kernel_rfl)
                obtain rfl : b1 = true := H.o2_1 rfl
                obtain rfl : b16 = false := Bool.eq_false_iff.2 (fun h => by have := H.o16_3 h; cases this)
                have l2 := H.f2 rfl
                have l_0 := LK.h0; have l_2 := LK.h2; have l_5 := LK.h5; have l_10 := LK.h10
                have hW := HF31.out v (H.bel rfl)
                refine wpOp_run (o := _) rfl (fun K hK => ?_)
                go_simp
                go_at_call 54
                refine hW.mono ?_
                rintro e v5 ⟨rfl, hb5⟩
                show K _ _
                refine hK _ _ ?_
                exact ⟨_, _, _, _, _, _, _, _, _, _, _, _, _, _, _, _, _, _, rfl, LK.put 123 (by decide), { H with bel := fun _ => (H.bel rfl).trans (hb5.mono (H.bel rfl).size), f16 := nofun, f0 := nx H.f0, f1 := nx H.f1, f2 := nx H.f2, f3 := la LK, f4 := nx H.f4, f5 := nx H.f5, f6 := nx H.f6, f7 := nx H.f7, f8 := nx H.f8, f9 := nx H.f9, f10 := nx H.f10, f11 := nx H.f11, f12 := nx H.f12, f13 := nx H.f13, f14 := nx H.f14, f15 := nx H.f15, f17 := nx H.f17, o3_2 := fun _ => rfl, o4_3 := fun _ => rfl, o16_3 := fun _ => rfl }⟩
              · obtain rfl : b4 = false := ready_new hi
                obtain rfl : b3 = true := ready_dep (d := 3) hi (by kernel_rfl)
                obtain rfl : b2 = true := H.o3_2 rfl
                obtain rfl : b1 = true := H.o2_1 rfl
                have l2 := H.f2 rfl
                have l3 := H.f3 rfl
                have l_0 := LK.h0; have l_2 := LK.h2; have l_5 := LK.h5; have l_10 := LK.h10
                refine wpOp_run (o := _) rfl (fun K hK => ?_)
                go_simp
                refine hK _ _ ?_
                exact ⟨_, _, _, _, _, _, _, _, _, _, _, _, _, _, _, _, _, _, rfl, LK.put 124 (by decide), { H with f0 := nx H.f0, f1 := nx H.f1, f2 := nx H.f2, f3 := nx H.f3, f4 := la LK, f5 := nx H.f5, f6 := nx H.f6, f7 := nx H.f7, f8 := nx H.f8, f9 := nx H.f9, f10 := nx H.f10, f11 := nx H.f11, f12 := nx H.f12, f13 := nx H.f13, f14 := nx H.f14, f15 := nx H.f15, f17 := nx H.f17, o4_3 := fun _ => rfl, o5_4 := fun _ => rfl }⟩
              · obtain rfl : b5 = false := ready_new hi
                obtain rfl : b4 = true := ready_dep (d := 4) hi (by kernel_rfl)
                obtain rfl : b3 = true := H.o4_3 rfl
                obtain rfl : b2 = true := H.o3_2 rfl
                obtain rfl : b1 = true := H.o2_1 rfl
                have l2 := H.f2 rfl
                have l4 := H.f4 rfl
                have l_0 := LK.h0; have l_2 := LK.h2; have l_5 := LK.h5; have l_10 := LK.h10
                refine wpOp_run (o := _) rfl (fun K hK => ?_)
                go_simp
                refine hK _ _ ?_
                exact ⟨_, _, _, _, _, _, _, _, _, _, _, _, _, _, _, _, _, _, rfl, LK.put 125 (by decide), { H with f0 := nx H.f0, f1 := nx H.f1, f2 := nx H.f2, f3 := nx H.f3, f4 := nx H.f4, f5 := la LK, f6 := nx H.f6, f7 := nx H.f7, f8 := nx H.f8, f9 := nx H.f9, f10 := nx H.f10, f11 := nx H.f11, f12 := nx H.f12, f13 := nx H.f13, f14 := nx H.f14, f15 := nx H.f15, f17 := nx H.f17, o5_4 := fun _ => rfl, o6_5 := fun _ => rfl }⟩
              · obtain rfl : b6 = false := ready_new hi
                obtain rfl : b5 = true := ready_dep (d := 5) hi (by kernel_rfl)
                obtain rfl : b4 = true := H.o5_4 rfl
                obtain rfl : b3 = true := H.o4_3 rfl
                obtain rfl : b2 = true := H.o3_2 rfl
                obtain rfl : b1 = true := H.o2_1 rfl
                have l5 := H.f5 rfl
                have l_0 := LK.h0; have l_2 := LK.h2; have l_5 := LK.h5; have l_10 := LK.h10
                refine wpOp_run (o := _) rfl (fun K hK => ?_)
                go_simp
                refine hK _ _ ?_
                exact ⟨_, _, _, _, _, _, _, _, _, _, _, _, _, _, _, _, _, _, rfl, LK.put 126 (by decide), { H with f0 := nx H.f0, f1 := nx H.f1, f2 := nx H.f2, f3 := nx H.f3, f4 := nx H.f4, f5 := nx H.f5, f6 := la LK, f7 := nx H.f7, f8 := nx H.f8, f9 := nx H.f9, f10 := nx H.f10, f11 := nx H.f11, f12 := nx H.f12, f13 := nx H.f13, f14 := nx H.f14, f15 := nx H.f15, f17 := nx H.f17, o6_5 := fun _ => rfl, o7_6 := fun _ => rfl, o8_6 := fun _ => rfl }⟩
              · obtain rfl : b7 = false := ready_new hi
                obtain rfl : b6 = true := ready_dep (d := 6) hi (by kernel_rfl)
                obtain rfl : b5 = true := H.o6_5 rfl
                obtain rfl : b4 = true := H.o5_4 rfl
                obtain rfl : b3 = true := H.o4_3 rfl
                obtain rfl : b2 = true := H.o3_2 rfl
                obtain rfl : b1 = true := H.o2_1 rfl
                obtain rfl : b16 = false := Bool.eq_false_iff.2 (fun h => by have := H.o16_7 h; cases this)
                have l6 := H.f6 rfl
                have l_0 := LK.h0; have l_2 := LK.h2; have l_5 := LK.h5; have l_10 := LK.h10
                have hW := HT31.out v (H.bel rfl)
                refine wpOp_run (o := _) rfl (fun K hK => ?_)
                go_simp
                go_at_call 55
                refine hW.mono ?_
                rintro e v5 ⟨rfl, hb5⟩
                show K _ _
                refine hK _ _ ?_
                exact ⟨_, _, _, _, _, _, _, _, _, _, _, _, _, _, _, _, _, _, rfl, LK.put 127 (by decide), { H with bel := fun _ => (H.bel rfl).trans (hb5.mono (H.bel rfl).size), f16 := nofun, f0 := nx H.f0, f1 := nx H.f1, f2 := nx H.f2, f3 := nx H.f3, f4 := nx H.f4, f5 := nx H.f5, f6 := nx H.f6, f7 := la LK, f8 := nx H.f8, f9 := nx H.f9, f10 := nx H.f10, f11 := nx H.f11, f12 := nx H.f12, f13 := nx H.f13, f14 := nx H.f14, f15 := nx H.f15, f17 := nx H.f17, o7_6 := fun _ => rfl, o9_7 := fun _ => rfl, o16_7 := fun _ => rfl }⟩
              · obtain rfl : b8 = false := ready_new hi
                obtain rfl : b6 = true := ready_dep (d := 6) hi (by kernel_rfl)
                obtain rfl : b5 = true := H.o6_5 rfl
                obtain rfl : b4 = true := H.o5_4 rfl
                obtain rfl : b3 = true := H.o4_3 rfl
                obtain rfl : b2 = true := H.o3_2 rfl
                obtain rfl : b1 = true := H.o2_1 rfl
                have l6 := H.f6 rfl
                have l_0 := LK.h0; have l_2 := LK.h2; have l_5 := LK.h5; have l_10 := LK.h10
                refine wpOp_run (o := _) rfl (fun K hK => ?_)
                go_simp
                refine hK _ _ ?_
                exact ⟨_, _, _, _, _, _, _, _, _, _, _, _, _, _, _, _, _, _, rfl, LK.put 128 (by decide), { H with f0 := nx H.f0, f1 := nx H.f1, f2 := nx H.f2, f3 := nx H.f3, f4 := nx H.f4, f5 := nx H.f5, f6 := nx H.f6, f7 := nx H.f7, f8 := la LK, f9 := nx H.f9, f10 := nx H.f10, f11 := nx H.f11, f12 := nx H.f12, f13 := nx H.f13, f14 := nx H.f14, f15 := nx H.f15, f17 := nx H.f17, o8_6 := fun _ => rfl, o9_8 := fun _ => rfl }⟩
              · obtain rfl : b9 = false := ready_new hi
                obtain rfl : b7 = true := ready_dep (d := 7) hi (by kernel_rfl)
                obtain rfl : b8 = true := ready_dep (d := 8) hi (by kernel_rfl)
                obtain rfl : b6 = true := H.o7_6 rfl
                obtain rfl : b5 = true := H.o6_5 rfl
                obtain rfl : b4 = true := H.o5_4 rfl
                obtain rfl : b3 = true := H.o4_3 rfl
                obtain rfl : b2 = true := H.o3_2 rfl
                obtain rfl : b1 = true := H.o2_1 rfl
                have l6 := H.f6 rfl
                have l7 := H.f7 rfl
                have l8 := H.f8 rfl
                have l_0 := LK.h0; have l_2 := LK.h2; have l_5 := LK.h5; have l_10 := LK.h10
                refine wpOp_run (o := _) rfl (fun K hK => ?_)
                go_simp
                refine hK _ _ ?_
                exact ⟨_, _, _, _, _, _, _, _, _, _, _, _, _, _, _, _, _, _, rfl, LK.put 129 (by decide), { H with f0 := nx H.f0, f1 := nx H.f1, f2 := nx H.f2, f3 := nx H.f3, f4 := nx H.f4, f5 := nx H.f5, f6 := nx H.f6, f7 := nx H.f7, f8 := nx H.f8, f9 := la LK, f10 := nx H.f10, f11 := nx H.f11, f12 := nx H.f12, f13 := nx H.f13, f14 := nx H.f14, f15 := nx H.f15, f17 := nx H.f17, o9_7 := fun _ => rfl, o9_8 := fun _ => rfl, o10_9 := fun _ => rfl }⟩
              · obtain rfl : b10 = false := ready_new hi
                obtain rfl : b9 = true := ready_dep (d := 9) hi (by kernel_rfl)
                obtain rfl : b7 = true := H.o9_7 rfl
                obtain rfl : b8 = true := H.o9_8 rfl
                obtain rfl : b6 = true := H.o7_6 rfl
                obtain rfl : b5 = true := H.o6_5 rfl
                obtain rfl : b4 = true := H.o5_4 rfl
                obtain rfl : b3 = true := H.o4_3 rfl
                obtain rfl : b2 = true := H.o3_2 rfl
                obtain rfl : b1 = true := H.o2_1 rfl
                have l6 := H.f6 rfl
                have l9 := H.f9 rfl
                have l_0 := LK.h0; have l_2 := LK.h2; have l_5 := LK.h5; have l_10 := LK.h10
                refine wpOp_run (o := _) rfl (fun K hK => ?_)
                go_simp
                refine hK _ _ ?_
                exact ⟨_, _, _, _, _, _, _, _, _, _, _, _, _, _, _, _, _, _, rfl, LK.put 130 (by decide), { H with f0 := nx H.f0, f1 := nx H.f1, f2 := nx H.f2, f3 := nx H.f3, f4 := nx H.f4, f5 := nx H.f5, f6 := nx H.f6, f7 := nx H.f7, f8 := nx H.f8, f9 := nx H.f9, f10 := la LK, f11 := nx H.f11, f12 := nx H.f12, f13 := nx H.f13, f14 := nx H.f14, f15 := nx H.f15, f17 := nx H.f17, o10_9 := fun _ => rfl, o11_10 := fun _ => rfl }⟩
              · obtain rfl : b11 = false := ready_new hi
                obtain rfl : b10 = true := ready_dep (d := 10) hi (by kernel_rfl)
                obtain rfl : b9 = true := H.o10_9 rfl
                obtain rfl : b7 = true := H.o9_7 rfl
                obtain rfl : b8 = true := H.o9_8 rfl
                obtain rfl : b6 = true := H.o7_6 rfl
                obtain rfl : b5 = true := H.o6_5 rfl
                obtain rfl : b4 = true := H.o5_4 rfl
                obtain rfl : b3 = true := H.o4_3 rfl
                obtain rfl : b2 = true := H.o3_2 rfl
                obtain rfl : b1 = true := H.o2_1 rfl
                have l10 := H.f10 rfl
                have l_0 := LK.h0; have l_2 := LK.h2; have l_5 := LK.h5; have l_10 := LK.h10
                refine wpOp_run (o := _) rfl (fun K hK => ?_)
                go_simp
                refine hK _ _ ?_
                exact ⟨_, _, _, _, _, _, _, _, _, _, _, _, _, _, _, _, _, _, rfl, LK.put 131 (by decide), { H with f0 := nx H.f0, f1 := nx H.f1, f2 := nx H.f2, f3 := nx H.f3, f4 := nx H.f4, f5 := nx H.f5, f6 := nx H.f6, f7 := nx H.f7, f8 := nx H.f8, f9 := nx H.f9, f10 := nx H.f10, f11 := la LK, f12 := nx H.f12, f13 := nx H.f13, f14 := nx H.f14, f15 := nx H.f15, f17 := nx H.f17, o11_10 := fun _ => rfl, o12_11 := fun _ => rfl, o16_11 := fun _ => rfl }⟩
              · obtain rfl : b12 = false := ready_new hi
                obtain rfl : b11 = true := ready_dep (d := 11) hi (by kernel_rfl)
                obtain rfl : b10 = true := H.o11_10 rfl
                obtain rfl : b9 = true := H.o10_9 rfl
                obtain rfl : b7 = true := H.o9_7 rfl
                obtain rfl : b8 = true := H.o9_8 rfl
                obtain rfl : b6 = true := H.o7_6 rfl
                obtain rfl : b5 = true := H.o6_5 rfl
                obtain rfl : b4 = true := H.o5_4 rfl
                obtain rfl : b3 = true := H.o4_3 rfl
                obtain rfl : b2 = true := H.o3_2 rfl
                obtain rfl : b1 = true := H.o2_1 rfl
                have l11 := H.f11 rfl
                have l_0 := LK.h0; have l_2 := LK.h2; have l_5 := LK.h5; have l_10 := LK.h10
                refine wpOp_run (o := _) rfl (fun K hK => ?_)
                go_simp
                refine hK _ _ ?_
                exact ⟨_, _, _, _, _, _, _, _, _, _, _, _, _, _, _, _, _, _, rfl, LK.put 132 (by decide), { H with f0 := nx H.f0, f1 := nx H.f1, f2 := nx H.f2, f3 := nx H.f3, f4 := nx H.f4, f5 := nx H.f5, f6 := nx H.f6, f7 := nx H.f7, f8 := nx H.f8, f9 := nx H.f9, f10 := nx H.f10, f11 := nx H.f11, f12 := la LK, f13 := nx H.f13, f14 := nx H.f14, f15 := nx H.f15, f17 := nx H.f17, o12_11 := fun _ => rfl, o13_12 := fun _ => rfl }⟩
              · obtain rfl : b13 = false := ready_new hi
                obtain rfl : b12 = true := ready_dep (d := 12) hi (by kernel_rfl)
                obtain rfl : b11 = true := H.o12_11 rfl
                obtain rfl : b10 = true := H.o11_10 rfl
                obtain rfl : b9 = true := H.o10_9 rfl
                obtain rfl : b7 = true := H.o9_7 rfl
                obtain rfl : b8 = true := H.o9_8 rfl
                obtain rfl : b6 = true := H.o7_6 rfl
                obtain rfl : b5 = true := H.o6_5 rfl
                obtain rfl : b4 = true := H.o5_4 rfl
                obtain rfl : b3 = true := H.o4_3 rfl
                obtain rfl : b2 = true := H.o3_2 rfl
                obtain rfl : b1 = true := H.o2_1 rfl
                have l11 := H.f11 rfl
                have l12 := H.f12 rfl
                have l_0 := LK.h0; have l_2 := LK.h2; have l_5 := LK.h5; have l_10 := LK.h10
                refine wpOp_run (o := _) rfl (fun K hK => ?_)
                go_simp
                refine hK _ _ ?_
                exact ⟨_, _, _, _, _, _, _, _, _, _, _, _, _, _, _, _, _, _, rfl, LK.put 133 (by decide), { H with f0 := nx H.f0, f1 := nx H.f1, f2 := nx H.f2, f3 := nx H.f3, f4 := nx H.f4, f5 := nx H.f5, f6 := nx H.f6, f7 := nx H.f7, f8 := nx H.f8, f9 := nx H.f9, f10 := nx H.f10, f11 := nx H.f11, f12 := nx H.f12, f13 := la LK, f14 := nx H.f14, f15 := nx H.f15, f17 := nx H.f17, o13_12 := fun _ => rfl, o14_13 := fun _ => rfl }⟩
              · obtain rfl : b14 = false := ready_new hi
                obtain rfl : b13 = true := ready_dep (d := 13) hi (by kernel_rfl)
                obtain rfl : b12 = true := H.o13_12 rfl
                obtain rfl : b11 = true := H.o12_11 rfl
                obtain rfl : b10 = true := H.o11_10 rfl
                obtain rfl : b9 = true := H.o10_9 rfl
                obtain rfl : b7 = true := H.o9_7 rfl
                obtain rfl : b8 = true := H.o9_8 rfl
                obtain rfl : b6 = true := H.o7_6 rfl
                obtain rfl : b5 = true := H.o6_5 rfl
                obtain rfl : b4 = true := H.o5_4 rfl
                obtain rfl : b3 = true := H.o4_3 rfl
                obtain rfl : b2 = true := H.o3_2 rfl
                obtain rfl : b1 = true := H.o2_1 rfl
                have l11 := H.f11 rfl
                have l13 := H.f13 rfl
                have l_0 := LK.h0; have l_2 := LK.h2; have l_5 := LK.h5; have l_10 := LK.h10
                refine wpOp_run (o := _) rfl (fun K hK => ?_)
                go_simp
                refine hK _ _ ?_
                exact ⟨_, _, _, _, _, _, _, _, _, _, _, _, _, _, _, _, _, _, rfl, LK.put 134 (by decide), { H with f0 := nx H.f0, f1 := nx H.f1, f2 := nx H.f2, f3 := nx H.f3, f4 := nx H.f4, f5 := nx H.f5, f6 := nx H.f6, f7 := nx H.f7, f8 := nx H.f8, f9 := nx H.f9, f10 := nx H.f10, f11 := nx H.f11, f12 := nx H.f12, f13 := nx H.f13, f14 := la LK, f15 := nx H.f15, f17 := nx H.f17, o14_13 := fun _ => rfl, o15_14 := fun _ => rfl }⟩
              · obtain rfl : b15 = false := ready_new hi
                obtain rfl : b14 = true := ready_dep (d := 14) hi (by kernel_rfl)
                obtain rfl : b13 = true := H.o14_13 rfl
                obtain rfl : b12 = true := H.o13_12 rfl
                obtain rfl : b11 = true := H.o12_11 rfl
                obtain rfl : b10 = true := H.o11_10 rfl
                obtain rfl : b9 = true := H.o10_9 rfl
                obtain rfl : b7 = true := H.o9_7 rfl
                obtain rfl : b8 = true := H.o9_8 rfl
                obtain rfl : b6 = true := H.o7_6 rfl
                obtain rfl : b5 = true := H.o6_5 rfl
                obtain rfl : b4 = true := H.o5_4 rfl
                obtain rfl : b3 = true := H.o4_3 rfl
                obtain rfl : b2 = true := H.o3_2 rfl
                obtain rfl : b1 = true := H.o2_1 rfl
                have l11 := H.f11 rfl
                have l14 := H.f14 rfl
                have l_0 := LK.h0; have l_2 := LK.h2; have l_5 := LK.h5; have l_10 := LK.h10
                refine wpOp_run (o := _) rfl (fun K hK => ?_)
                go_simp
                refine hK _ _ ?_
                exact ⟨_, _, _, _, _, _, _, _, _, _, _, _, _, _, _, _, _, _, rfl, LK.put 135 (by decide), { H with f0 := nx H.f0, f1 := nx H.f1, f2 := nx H.f2, f3 := nx H.f3, f4 := nx H.f4, f5 := nx H.f5, f6 := nx H.f6, f7 := nx H.f7, f8 := nx H.f8, f9 := nx H.f9, f10 := nx H.f10, f11 := nx H.f11, f12 := nx H.f12, f13 := nx H.f13, f14 := nx H.f14, f15 := la LK, f17 := nx H.f17, o15_14 := fun _ => rfl, o17_15 := fun _ => rfl }⟩
              · obtain rfl : b16 = false := ready_new hi
                obtain rfl : b0 = true := ready_dep (d := 0) hi (by kernel_rfl)
                obtain rfl : b11 = true := ready_dep (d := 11) hi (by kernel_rfl)
                obtain rfl : b10 = true := H.o11_10 rfl
                obtain rfl : b9 = true := H.o10_9 rfl
                obtain rfl : b7 = true := H.o9_7 rfl
                obtain rfl : b8 = true := H.o9_8 rfl
                obtain rfl : b6 = true := H.o7_6 rfl
                obtain rfl : b5 = true := H.o6_5 rfl
                obtain rfl : b4 = true := H.o5_4 rfl
                obtain rfl : b3 = true := H.o4_3 rfl
                obtain rfl : b2 = true := H.o3_2 rfl
                obtain rfl : b1 = true := H.o2_1 rfl
                have l0 := H.f0 rfl
                have l_0 := LK.h0; have l_2 := LK.h2; have l_5 := LK.h5; have l_10 := LK.h10
                have hbR : v.heap[w.heap.size]? = some (.cells #[.int .i64 0, .int .i64 0, .slice none 0 0, .slice none 0 0] 30 (0, 0)) := ((H.bel rfl).block w.heap.size hRl).trans HSL.out.res
                obtain ⟨q0, q1, q2, q3, q4, q5, q6, q7⟩ := cells4 hbR
                refine wpOp_run (o := _) rfl (fun K hK => ?_)
                go_simp
                refine hK _ _ ?_
                exact ⟨_, _, _, _, _, _, _, _, _, _, _, _, _, _, _, _, _, _, rfl, LK, { H with bel := nofun, f16 := fun _ => ⟨v, H.bel rfl, rfl⟩, o16_0 := fun _ => rfl, o16_11 := fun _ => rfl, o16_3 := fun _ => rfl, o16_7 := fun _ => rfl }⟩
              · obtain rfl : b17 = false := ready_new hi
                obtain rfl : b15 = true := ready_dep (d := 15) hi (by kernel_rfl)
                obtain rfl : b14 = true := H.o15_14 rfl
                obtain rfl : b13 = true := H.o14_13 rfl
                obtain rfl : b12 = true := H.o13_12 rfl
                obtain rfl : b11 = true := H.o12_11 rfl
                obtain rfl : b10 = true := H.o11_10 rfl
                obtain rfl : b9 = true := H.o10_9 rfl
                obtain rfl : b7 = true := H.o9_7 rfl
                obtain rfl : b8 = true := H.o9_8 rfl
                obtain rfl : b6 = true := H.o7_6 rfl
                obtain rfl : b5 = true := H.o6_5 rfl
                obtain rfl : b4 = true := H.o5_4 rfl
                obtain rfl : b3 = true := H.o4_3 rfl
                obtain rfl : b2 = true := H.o3_2 rfl
                obtain rfl : b1 = true := H.o2_1 rfl
                have l15 := H.f15 rfl
                have l_0 := LK.h0; have l_2 := LK.h2; have l_5 := LK.h5; have l_10 := LK.h10
                refine wpOp_run (o := _) rfl (fun K hK => ?_)
                go_simp
                refine hK _ _ ?_
                exact ⟨_, _, _, _, _, _, _, _, _, _, _, _, _, _, _, _, _, _, rfl, LK.put 3 (by decide), { H with f0 := nx H.f0, f1 := nx H.f1, f2 := nx H.f2, f3 := nx H.f3, f4 := nx H.f4, f5 := nx H.f5, f6 := nx H.f6, f7 := nx H.f7, f8 := nx H.f8, f9 := nx H.f9, f10 := nx H.f10, f11 := nx H.f11, f12 := nx H.f12, f13 := nx H.f13, f14 := nx H.f14, f15 := nx H.f15, f17 := la LK, o17_15 := fun _ => rfl }⟩
        · have hne : (cf == 0) = false := by simpa using hz
          have HNO : Hid (parT t = none) := kept_no fun y hy h => by
            rw [HSD.out] at hy
            cases hy
            exact hz (hcf.trans h.1)
          clear hTx hcap hcf
          go_wp2
          have hTl : T < wr.drew.heap.size := by have := HSL.out.ord; show T < wr.heap.size; omega
          have hRl : w.heap.size < wr.drew.heap.size := by have := HSL.out.ord; show w.heap.size < wr.heap.size; omega
          refine wp_region_any (by kernel_rfl) ?_
          change wpAny _ _ _ _ _ _ _ (World.drew _)
          refine wpAny_inv (fun L a v => ∃ (b0 b1 b2 b3 b4 b5 b6 b7 b8 b9 b10 b11 b12 b13 b14 b15 b16 b17 : Bool), L = #[b0, b1, b2, b3, b4, b5, b6, b7, b8, b9, b10, b11, b12, b13, b14, b15, b16, b17] ∧ Lk a t w.heap.size T ∧ RlB wr.drew w.heap.size 0 0 ia n ic oa m oc t [] cf v a b0 b1 b2 b3 b4 b5 b6 b7 b8 b9 b10 b11 b12 b13 b14 b15 b16 b17) ?step ?done _ _ _ _ (by simp) ?start
          case start =>
            refine ⟨false, false, false, false, false, false, false, false, false, false, false, false, false, false, false, false, false, false, rfl, ⟨rfl, rfl, rfl, rfl, rfl, rfl⟩, ?_⟩
            exact { bel := fun _ => Below.refl _ _, f0 := nofun, f1 := nofun, f2 := nofun, f3 := nofun, f4 := nofun, f5 := nofun, f6 := nofun, f7 := nofun, f8 := nofun, f9 := nofun, f10 := nofun, f11 := nofun, f12 := nofun, f13 := nofun, f14 := nofun, f15 := nofun, f16 := nofun, f17 := nofun, o2_1 := nofun, o3_2 := nofun, o4_3 := nofun, o5_4 := nofun, o6_5 := nofun, o7_6 := nofun, o8_6 := nofun, o9_7 := nofun, o9_8 := nofun, o10_9 := nofun, o11_10 := nofun, o12_11 := nofun, o13_12 := nofun, o14_13 := nofun, o15_14 := nofun, o16_0 := nofun, o16_11 := nofun, o17_15 := nofun, o16_3 := nofun, o16_7 := nofun }
          case done =>
            rintro L a v ⟨b0, b1, b2, b3, b4, b5, b6, b7, b8, b9, b10, b11, b12, b13, b14, b15, b16, b17, rfl, LK, H⟩ hr
            have hall := ready_all (by kernel_rfl) hr
            obtain rfl : b16 = true := hall 16 (by decide)
            obtain rfl : b17 = true := hall 17 (by decide)
            obtain ⟨u, hu, hv⟩ := H.f16 rfl
            have l3 := H.f17 rfl
            have l2 := LK.h2
            have ld := LK.hd
            subst hv
            have hbR : u.heap[w.heap.size]? = some (.cells #[.int .i64 0, .int .i64 0, .slice none 0 0, .slice none 0 0] 30 (0, 0)) := (hu.block w.heap.size hRl).trans HSL.out.res
            obtain ⟨j0, j1, j2, j3⟩ := four_set hbR (.int .i64 0) (.int .i64 0) (.slice ia n ic) (.slice oa m oc)
            have HU : Hid (Below wr.heap.size wr u) := (Below.refl _ _).drew.trans hu
            clear H hr hall hu hbR LK
            go_wp2
            refine bodyPost_ret (v := .tuple #[.agg #[.int .i64 0, .int .i64 0, .slice ia n ic, .slice oa m oc], .bool false]) (by simp [results, Tryz.results30, go_sem, l2, l3, j0, j1, j2, j3]) ld ?_
            exact ⟨four_belowR ((HSL.out.mem HU.out).bel) (Nat.le_refl _) _ _ _ _, .inr ⟨HNO.out, _, _, _, _, _, _, _, _, rfl⟩⟩
          case step =>
            rintro L a v i ⟨b0, b1, b2, b3, b4, b5, b6, b7, b8, b9, b10, b11, b12, b13, b14, b15, b16, b17, rfl, LK, H⟩ hi
            have hlt : i < 18 := ready_lt hi
            obtain rfl | rfl | rfl | rfl | rfl | rfl | rfl | rfl | rfl | rfl | rfl | rfl | rfl | rfl | rfl | rfl | rfl | rfl : i = 0 ∨ i = 1 ∨ i = 2 ∨ i = 3 ∨ i = 4 ∨ i = 5 ∨ i = 6 ∨ i = 7 ∨ i = 8 ∨ i = 9 ∨ i = 10 ∨ i = 11 ∨ i = 12 ∨ i = 13 ∨ i = 14 ∨ i = 15 ∨ i = 16 ∨ i = 17 := by omega
            · obtain rfl : b0 = false := ready_new hi
              obtain rfl : b16 = false := Bool.eq_false_iff.2 (fun h => by have := H.o16_0 h; cases this)
              have l_0 := LK.h0; have l_2 := LK.h2; have l_5 := LK.h5; have l_10 := LK.h10
              have hbT : v.heap[T]? = some (.cells #[.int .i64 0, .int .i64 0, .slice ia n ic, .slice oa m oc] 30 (0, 0)) := ((H.bel rfl).block T hTl).trans HSL.out.box
              obtain ⟨q0, q1, q2, q3, _⟩ := cells4 hbT
              refine wpOp_run (o := _) rfl (fun K hK => ?_)
              go_simp
              refine hK _ _ ?_
              exact ⟨_, _, _, _, _, _, _, _, _, _, _, _, _, _, _, _, _, _, rfl, LK.put 120 (by decide), { H with f0 := la LK, f1 := nx H.f1, f2 := nx H.f2, f3 := nx H.f3, f4 := nx H.f4, f5 := nx H.f5, f6 := nx H.f6, f7 := nx H.f7, f8 := nx H.f8, f9 := nx H.f9, f10 := nx H.f10, f11 := nx H.f11, f12 := nx H.f12, f13 := nx H.f13, f14 := nx H.f14, f15 := nx H.f15, f17 := nx H.f17, o16_0 := fun _ => rfl }⟩
            · obtain rfl : b1 = false := ready_new hi
              have l_0 := LK.h0; have l_2 := LK.h2; have l_5 := LK.h5; have l_10 := LK.h10
              refine wpOp_run (o := _) rfl (fun K hK => ?_)
              go_simp
              refine hK _ _ ?_
              exact ⟨_, _, _, _, _, _, _, _, _, _, _, _, _, _, _, _, _, _, rfl, LK.put 121 (by decide), { H with f0 := nx H.f0, f1 := la LK, f2 := nx H.f2, f3 := nx H.f3, f4 := nx H.f4, f5 := nx H.f5, f6 := nx H.f6, f7 := nx H.f7, f8 := nx H.f8, f9 := nx H.f9, f10 := nx H.f10, f11 := nx H.f11, f12 := nx H.f12, f13 := nx H.f13, f14 := nx H.f14, f15 := nx H.f15, f17 := nx H.f17, o2_1 := fun _ => rfl }⟩
            · obtain rfl : b2 = false := ready_new hi
              obtain rfl : b1 = true := ready_dep (d := 1) hi (by kernel_rfl)
              have l1 := H.f1 rfl
              have l_0 := LK.h0; have l_2 := LK.h2; have l_5 := LK.h5; have l_10 := LK.h10
              refine wpOp_run (o := _) rfl (fun K hK => ?_)
              go_simp
              refine hK _ _ ?_
              exact ⟨_, _, _, _, _, _, _, _, _, _, _, _, _, _, _, _, _, _, rfl, LK.put 122 (by decide), { H with f0 := nx H.f0, f1 := nx H.f1, f2 := la LK, f3 := nx H.f3, f4 := nx H.f4, f5 := nx H.f5, f6 := nx H.f6, f7 := nx H.f7, f8 := nx H.f8, f9 := nx H.f9, f10 := nx H.f10, f11 := nx H.f11, f12 := nx H.f12, f13 := nx H.f13, f14 := nx H.f14, f15 := nx H.f15, f17 := nx H.f17, o2_1 := fun _ => rfl, o3_2 := fun _ => rfl }⟩
            · obtain rfl : b3 = false := ready_new hi
              obtain rfl : b2 = true := ready_dep (d := 2) hi (by kernel_rfl)
              obtain rfl : b1 = true := H.o2_1 rfl
              obtain rfl : b16 = false := Bool.eq_false_iff.2 (fun h => by have := H.o16_3 h; cases this)
              have l2 := H.f2 rfl
              have l_0 := LK.h0; have l_2 := LK.h2; have l_5 := LK.h5; have l_10 := LK.h10
              have hW := HF31.out v (H.bel rfl)
              refine wpOp_run (o := _) rfl (fun K hK => ?_)
              go_simp
              go_at_call 54
              refine hW.mono ?_
              rintro e v5 ⟨rfl, hb5⟩
              show K _ _
              refine hK _ _ ?_
              exact ⟨_, _, _, _, _, _, _, _, _, _, _, _, _, _, _, _, _, _, rfl, LK.put 123 (by decide), { H with bel := fun _ => (H.bel rfl).trans (hb5.mono (H.bel rfl).size), f16 := nofun, f0 := nx H.f0, f1 := nx H.f1, f2 := nx H.f2, f3 := la LK, f4 := nx H.f4, f5 := nx H.f5, f6 := nx H.f6, f7 := nx H.f7, f8 := nx H.f8, f9 := nx H.f9, f10 := nx H.f10, f11 := nx H.f11, f12 := nx H.f12, f13 := nx H.f13, f14 := nx H.f14, f15 := nx H.f15, f17 := nx H.f17, o3_2 := fun _ => rfl, o4_3 := fun _ => rfl, o16_3 := fun _ => rfl }⟩
            · obtain rfl : b4 = false := ready_new hi
              obtain rfl : b3 = true := ready_dep (d := 3) hi (by kernel_rfl)
              obtain rfl : b2 = true := H.o3_2 rfl
              obtain rfl : b1 = true := H.o2_1 rfl
              have l2 := H.f2 rfl
              have l3 := H.f3 rfl
              have l_0 := LK.h0; have l_2 := LK.h2; have l_5 := LK.h5; have l_10 := LK.h10
              refine wpOp_run (o := _) rfl (fun K hK => ?_)
              go_simp
              refine hK _ _ ?_
              exact ⟨_, _, _, _, _, _, _, _, _, _, _, _, _, _, _, _, _, _, rfl, LK.put 124 (by decide), { H with f0 := nx H.f0, f1 := nx H.f1, f2 := nx H.f2, f3 := nx H.f3, f4 := la LK, f5 := nx H.f5, f6 := nx H.f6, f7 := nx H.f7, f8 := nx H.f8, f9 := nx H.f9, f10 := nx H.f10, f11 := nx H.f11, f12 := nx H.f12, f13 := nx H.f13, f14 := nx H.f14, f15 := nx H.f15, f17 := nx H.f17, o4_3 := fun _ => rfl, o5_4 := fun _ => rfl }⟩
            · obtain rfl : b5 = false := ready_new hi
              obtain rfl : b4 = true := ready_dep (d := 4) hi (by kernel_rfl)
              obtain rfl : b3 = true := H.o4_3 rfl
              obtain rfl : b2 = true := H.o3_2 rfl
              obtain rfl : b1 = true := H.o2_1 rfl
              have l2 := H.f2 rfl
              have l4 := H.f4 rfl
              have l_0 := LK.h0; have l_2 := LK.h2; have l_5 := LK.h5; have l_10 := LK.h10
              refine wpOp_run (o := _) rfl (fun K hK => ?_)
              go_simp
              refine hK _ _ ?_
              exact ⟨_, _, _, _, _, _, _, _, _, _, _, _, _, _, _, _, _, _, rfl, LK.put 125 (by decide), { H with f0 := nx H.f0, f1 := nx H.f1, f2 := nx H.f2, f3 := nx H.f3, f4 := nx H.f4, f5 := la LK, f6 := nx H.f6, f7 := nx H.f7, f8 := nx H.f8, f9 := nx H.f9, f10 := nx H.f10, f11 := nx H.f11, f12 := nx H.f12, f13 := nx H.f13, f14 := nx H.f14, f15 := nx H.f15, f17 := nx H.f17, o5_4 := fun _ => rfl, o6_5 := fun _ => rfl }⟩
            · obtain rfl : b6 = false := ready_new hi
              obtain rfl : b5 = true := ready_dep (d := 5) hi (by kernel_rfl)
              obtain rfl : b4 = true := H.o5_4 rfl
              obtain rfl : b3 = true := H.o4_3 rfl
              obtain rfl : b2 = true := H.o3_2 rfl
              obtain rfl : b1 = true := H.o2_1 rfl
              have l5 := H.f5 rfl
              have l_0 := LK.h0; have l_2 := LK.h2; have l_5 := LK.h5; have l_10 := LK.h10
              refine wpOp_run (o := _) rfl (fun K hK => ?_)
              go_simp
              refine hK _ _ ?_
              exact ⟨_, _, _, _, _, _, _, _, _, _, _, _, _, _, _, _, _, _, rfl, LK.put 126 (by decide), { H with f0 := nx H.f0, f1 := nx H.f1, f2 := nx H.f2, f3 := nx H.f3, f4 := nx H.f4, f5 := nx H.f5, f6 := la LK, f7 := nx H.f7, f8 := nx H.f8, f9 := nx H.f9, f10 := nx H.f10, f11 := nx H.f11, f12 := nx H.f12, f13 := nx H.f13, f14 := nx H.f14, f15 := nx H.f15, f17 := nx H.f17, o6_5 := fun _ => rfl, o7_6 := fun _ => rfl, o8_6 := fun _ => rfl }⟩
            · obtain rfl : b7 = false := ready_new hi
              obtain rfl : b6 = true := ready_dep (d := 6) hi (by kernel_rfl)
              obtain rfl : b5 = true := H.o6_5 rfl
              obtain rfl : b4 = true := H.o5_4 rfl
              obtain rfl : b3 = true := H.o4_3 rfl
              obtain rfl : b2 = true := H.o3_2 rfl
              obtain rfl : b1 = true := H.o2_1 rfl
              obtain rfl : b16 = false := Bool.eq_false_iff.2 (fun h => by have := H.o16_7 h; cases this)
              have l6 := H.f6 rfl
              have l_0 := LK.h0; have l_2 := LK.h2; have l_5 := LK.h5; have l_10 := LK.h10
              refine wpOp_run (o := _) rfl (fun K hK => ?_)
              go_simp
              refine hK _ _ ?_
              exact ⟨_, _, _, _, _, _, _, _, _, _, _, _, _, _, _, _, _, _, rfl, LK.put 127 (by decide), { H with f0 := nx H.f0, f1 := nx H.f1, f2 := nx H.f2, f3 := nx H.f3, f4 := nx H.f4, f5 := nx H.f5, f6 := nx H.f6, f7 := la LK, f8 := nx H.f8, f9 := nx H.f9, f10 := nx H.f10, f11 := nx H.f11, f12 := nx H.f12, f13 := nx H.f13, f14 := nx H.f14, f15 := nx H.f15, f17 := nx H.f17, o7_6 := fun _ => rfl, o9_7 := fun _ => rfl, o16_7 := fun _ => rfl }⟩
            · obtain rfl : b8 = false := ready_new hi
              obtain rfl : b6 = true := ready_dep (d := 6) hi (by kernel_rfl)
              obtain rfl : b5 = true := H.o6_5 rfl
              obtain rfl : b4 = true := H.o5_4 rfl
              obtain rfl : b3 = true := H.o4_3 rfl
              obtain rfl : b2 = true := H.o3_2 rfl
              obtain rfl : b1 = true := H.o2_1 rfl
              have l6 := H.f6 rfl
              have l_0 := LK.h0; have l_2 := LK.h2; have l_5 := LK.h5; have l_10 := LK.h10
              refine wpOp_run (o := _) rfl (fun K hK => ?_)
              go_simp
              refine hK _ _ ?_
              exact ⟨_, _, _, _, _, _, _, _, _, _, _, _, _, _, _, _, _, _, rfl, LK.put 128 (by decide), { H with f0 := nx H.f0, f1 := nx H.f1, f2 := nx H.f2, f3 := nx H.f3, f4 := nx H.f4, f5 := nx H.f5, f6 := nx H.f6, f7 := nx H.f7, f8 := la LK, f9 := nx H.f9, f10 := nx H.f10, f11 := nx H.f11, f12 := nx H.f12, f13 := nx H.f13, f14 := nx H.f14, f15 := nx H.f15, f17 := nx H.f17, o8_6 := fun _ => rfl, o9_8 := fun _ => rfl }⟩
            · obtain rfl : b9 = false := ready_new hi
              obtain rfl : b7 = true := ready_dep (d := 7) hi (by kernel_rfl)
              obtain rfl : b8 = true := ready_dep (d := 8) hi (by kernel_rfl)
              obtain rfl : b6 = true := H.o7_6 rfl
              obtain rfl : b5 = true := H.o6_5 rfl
              obtain rfl : b4 = true := H.o5_4 rfl
              obtain rfl : b3 = true := H.o4_3 rfl
              obtain rfl : b2 = true := H.o3_2 rfl
              obtain rfl : b1 = true := H.o2_1 rfl
              have l6 := H.f6 rfl
              have l7 := H.f7 rfl
              have l8 := H.f8 rfl
              have l_0 := LK.h0; have l_2 := LK.h2; have l_5 := LK.h5; have l_10 := LK.h10
              refine wpOp_run (o := _) rfl (fun K hK => ?_)
              go_simp
              refine hK _ _ ?_
              exact ⟨_, _, _, _, _, _, _, _, _, _, _, _, _, _, _, _, _, _, rfl, LK.put 129 (by decide), { H with f0 := nx H.f0, f1 := nx H.f1, f2 := nx H.f2, f3 := nx H.f3, f4 := nx H.f4, f5 := nx H.f5, f6 := nx H.f6, f7 := nx H.f7, f8 := nx H.f8, f9 := la LK, f10 := nx H.f10, f11 := nx H.f11, f12 := nx H.f12, f13 := nx H.f13, f14 := nx H.f14, f15 := nx H.f15, f17 := nx H.f17, o9_7 := fun _ => rfl, o9_8 := fun _ => rfl, o10_9 := fun _ => rfl }⟩
            · obtain rfl : b10 = false := ready_new hi
              obtain rfl : b9 = true := ready_dep (d := 9) hi (by kernel_rfl)
              obtain rfl : b7 = true := H.o9_7 rfl
              obtain rfl : b8 = true := H.o9_8 rfl
              obtain rfl : b6 = true := H.o7_6 rfl
              obtain rfl : b5 = true := H.o6_5 rfl
              obtain rfl : b4 = true := H.o5_4 rfl
              obtain rfl : b3 = true := H.o4_3 rfl
              obtain rfl : b2 = true := H.o3_2 rfl
              obtain rfl : b1 = true := H.o2_1 rfl
              have l6 := H.f6 rfl
              have l9 := H.f9 rfl
              have l_0 := LK.h0; have l_2 := LK.h2; have l_5 := LK.h5; have l_10 := LK.h10
              refine wpOp_run (o := _) rfl (fun K hK => ?_)
              go_simp
              refine hK _ _ ?_
              exact ⟨_, _, _, _, _, _, _, _, _, _, _, _, _, _, _, _, _, _, rfl, LK.put 130 (by decide), { H with f0 := nx H.f0, f1 := nx H.f1, f2 := nx H.f2, f3 := nx H.f3, f4 := nx H.f4, f5 := nx H.f5, f6 := nx H.f6, f7 := nx H.f7, f8 := nx H.f8, f9 := nx H.f9, f10 := la LK, f11 := nx H.f11, f12 := nx H.f12, f13 := nx H.f13, f14 := nx H.f14, f15 := nx H.f15, f17 := nx H.f17, o10_9 := fun _ => rfl, o11_10 := fun _ => rfl }⟩
            · obtain rfl : b11 = false := ready_new hi
              obtain rfl : b10 = true := ready_dep (d := 10) hi (by kernel_rfl)
              obtain rfl : b9 = true := H.o10_9 rfl
              obtain rfl : b7 = true := H.o9_7 rfl
              obtain rfl : b8 = true := H.o9_8 rfl
              obtain rfl : b6 = true := H.o7_6 rfl
              obtain rfl : b5 = true := H.o6_5 rfl
              obtain rfl : b4 = true := H.o5_4 rfl
              obtain rfl : b3 = true := H.o4_3 rfl
              obtain rfl : b2 = true := H.o3_2 rfl
              obtain rfl : b1 = true := H.o2_1 rfl
              have l10 := H.f10 rfl
              have l_0 := LK.h0; have l_2 := LK.h2; have l_5 := LK.h5; have l_10 := LK.h10
              refine wpOp_run (o := _) rfl (fun K hK => ?_)
              go_simp
              refine hK _ _ ?_
              exact ⟨_, _, _, _, _, _, _, _, _, _, _, _, _, _, _, _, _, _, rfl, LK.put 131 (by decide), { H with f0 := nx H.f0, f1 := nx H.f1, f2 := nx H.f2, f3 := nx H.f3, f4 := nx H.f4, f5 := nx H.f5, f6 := nx H.f6, f7 := nx H.f7, f8 := nx H.f8, f9 := nx H.f9, f10 := nx H.f10, f11 := la LK, f12 := nx H.f12, f13 := nx H.f13, f14 := nx H.f14, f15 := nx H.f15, f17 := nx H.f17, o11_10 := fun _ => rfl, o12_11 := fun _ => rfl, o16_11 := fun _ => rfl }⟩
            · obtain rfl : b12 = false := ready_new hi
              obtain rfl : b11 = true := ready_dep (d := 11) hi (by kernel_rfl)
              obtain rfl : b10 = true := H.o11_10 rfl
              obtain rfl : b9 = true := H.o10_9 rfl
              obtain rfl : b7 = true := H.o9_7 rfl
              obtain rfl : b8 = true := H.o9_8 rfl
              obtain rfl : b6 = true := H.o7_6 rfl
              obtain rfl : b5 = true := H.o6_5 rfl
              obtain rfl : b4 = true := H.o5_4 rfl
              obtain rfl : b3 = true := H.o4_3 rfl
              obtain rfl : b2 = true := H.o3_2 rfl
              obtain rfl : b1 = true := H.o2_1 rfl
              have l11 := H.f11 rfl
              have l_0 := LK.h0; have l_2 := LK.h2; have l_5 := LK.h5; have l_10 := LK.h10
              refine wpOp_run (o := _) rfl (fun K hK => ?_)
              go_simp
              refine hK _ _ ?_
              exact ⟨_, _, _, _, _, _, _, _, _, _, _, _, _, _, _, _, _, _, rfl, LK.put 132 (by decide), { H with f0 := nx H.f0, f1 := nx H.f1, f2 := nx H.f2, f3 := nx H.f3, f4 := nx H.f4, f5 := nx H.f5, f6 := nx H.f6, f7 := nx H.f7, f8 := nx H.f8, f9 := nx H.f9, f10 := nx H.f10, f11 := nx H.f11, f12 := la LK, f13 := nx H.f13, f14 := nx H.f14, f15 := nx H.f15, f17 := nx H.f17, o12_11 := fun _ => rfl, o13_12 := fun _ => rfl }⟩
            · obtain rfl : b13 = false := ready_new hi
              obtain rfl : b12 = true := ready_dep (d := 12) hi (by kernel_rfl)
              obtain rfl : b11 = true := H.o12_11 rfl
              obtain rfl : b10 = true := H.o11_10 rfl
              obtain rfl : b9 = true := H.o10_9 rfl
              obtain rfl : b7 = true := H.o9_7 rfl
              obtain rfl : b8 = true := H.o9_8 rfl
              obtain rfl : b6 = true := H.o7_6 rfl
              obtain rfl : b5 = true := H.o6_5 rfl
              obtain rfl : b4 = true := H.o5_4 rfl
              obtain rfl : b3 = true := H.o4_3 rfl
              obtain rfl : b2 = true := H.o3_2 rfl
              obtain rfl : b1 = true := H.o2_1 rfl
              have l11 := H.f11 rfl
              have l12 := H.f12 rfl
              have l_0 := LK.h0; have l_2 := LK.h2; have l_5 := LK.h5; have l_10 := LK.h10
              refine wpOp_run (o := _) rfl (fun K hK => ?_)
              go_simp
              refine hK _ _ ?_
              exact ⟨_, _, _, _, _, _, _, _, _, _, _, _, _, _, _, _, _, _, rfl, LK.put 133 (by decide), { H with f0 := nx H.f0, f1 := nx H.f1, f2 := nx H.f2, f3 := nx H.f3, f4 := nx H.f4, f5 := nx H.f5, f6 := nx H.f6, f7 := nx H.f7, f8 := nx H.f8, f9 := nx H.f9, f10 := nx H.f10, f11 := nx H.f11, f12 := nx H.f12, f13 := la LK, f14 := nx H.f14, f15 := nx H.f15, f17 := nx H.f17, o13_12 := fun _ => rfl, o14_13 := fun _ => rfl }⟩
            · obtain rfl : b14 = false := ready_new hi
              obtain rfl : b13 = true := ready_dep (d := 13) hi (by kernel_rfl)
              obtain rfl : b12 = true := H.o13_12 rfl
              obtain rfl : b11 = true := H.o12_11 rfl
              obtain rfl : b10 = true := H.o11_10 rfl
              obtain rfl : b9 = true := H.o10_9 rfl
              obtain rfl : b7 = true := H.o9_7 rfl
              obtain rfl : b8 = true := H.o9_8 rfl
              obtain rfl : b6 = true := H.o7_6 rfl
              obtain rfl : b5 = true := H.o6_5 rfl
              obtain rfl : b4 = true := H.o5_4 rfl
              obtain rfl : b3 = true := H.o4_3 rfl
              obtain rfl : b2 = true := H.o3_2 rfl
              obtain rfl : b1 = true := H.o2_1 rfl
              have l11 := H.f11 rfl
              have l13 := H.f13 rfl
              have l_0 := LK.h0; have l_2 := LK.h2; have l_5 := LK.h5; have l_10 := LK.h10
              refine wpOp_run (o := _) rfl (fun K hK => ?_)
              go_simp
              refine hK _ _ ?_
              exact ⟨_, _, _, _, _, _, _, _, _, _, _, _, _, _, _, _, _, _, rfl, LK.put 134 (by decide), { H with f0 := nx H.f0, f1 := nx H.f1, f2 := nx H.f2, f3 := nx H.f3, f4 := nx H.f4, f5 := nx H.f5, f6 := nx H.f6, f7 := nx H.f7, f8 := nx H.f8, f9 := nx H.f9, f10 := nx H.f10, f11 := nx H.f11, f12 := nx H.f12, f13 := nx H.f13, f14 := la LK, f15 := nx H.f15, f17 := nx H.f17, o14_13 := fun _ => rfl, o15_14 := fun _ => rfl }⟩
            · obtain rfl : b15 = false := ready_new hi
              obtain rfl : b14 = true := ready_dep (d := 14) hi (by kernel_rfl)
              obtain rfl : b13 = true := H.o14_13 rfl
              obtain rfl : b12 = true := H.o13_12 rfl
              obtain rfl : b11 = true := H.o12_11 rfl
              obtain rfl : b10 = true := H.o11_10 rfl
              obtain rfl : b9 = true := H.o10_9 rfl
              obtain rfl : b7 = true := H.o9_7 rfl
              obtain rfl : b8 = true := H.o9_8 rfl
              obtain rfl : b6 = true := H.o7_6 rfl
              obtain rfl : b5 = true := H.o6_5 rfl
              obtain rfl : b4 = true := H.o5_4 rfl
              obtain rfl : b3 = true := H.o4_3 rfl
              obtain rfl : b2 = true := H.o3_2 rfl
              obtain rfl : b1 = true := H.o2_1 rfl
              have l11 := H.f11 rfl
              have l14 := H.f14 rfl
              have l_0 := LK.h0; have l_2 := LK.h2; have l_5 := LK.h5; have l_10 := LK.h10
              refine wpOp_run (o := _) rfl (fun K hK => ?_)
              go_simp
              refine hK _ _ ?_
              exact ⟨_, _, _, _, _, _, _, _, _, _, _, _, _, _, _, _, _, _, rfl, LK.put 135 (by decide), { H with f0 := nx H.f0, f1 := nx H.f1, f2 := nx H.f2, f3 := nx H.f3, f4 := nx H.f4, f5 := nx H.f5, f6 := nx H.f6, f7 := nx H.f7, f8 := nx H.f8, f9 := nx H.f9, f10 := nx H.f10, f11 := nx H.f11, f12 := nx H.f12, f13 := nx H.f13, f14 := nx H.f14, f15 := la LK, f17 := nx H.f17, o15_14 := fun _ => rfl, o17_15 := fun _ => rfl }⟩
            · obtain rfl : b16 = false := ready_new hi
              obtain rfl : b0 = true := ready_dep (d := 0) hi (by kernel_rfl)
              obtain rfl : b11 = true := ready_dep (d := 11) hi (by kernel_rfl)
              obtain rfl : b10 = true := H.o11_10 rfl
              obtain rfl : b9 = true := H.o10_9 rfl
              obtain rfl : b7 = true := H.o9_7 rfl
              obtain rfl : b8 = true := H.o9_8 rfl
              obtain rfl : b6 = true := H.o7_6 rfl
              obtain rfl : b5 = true := H.o6_5 rfl
              obtain rfl : b4 = true := H.o5_4 rfl
              obtain rfl : b3 = true := H.o4_3 rfl
              obtain rfl : b2 = true := H.o3_2 rfl
              obtain rfl : b1 = true := H.o2_1 rfl
              have l0 := H.f0 rfl
              have l_0 := LK.h0; have l_2 := LK.h2; have l_5 := LK.h5; have l_10 := LK.h10
              have hbR : v.heap[w.heap.size]? = some (.cells #[.int .i64 0, .int .i64 0, .slice none 0 0, .slice none 0 0] 30 (0, 0)) := ((H.bel rfl).block w.heap.size hRl).trans HSL.out.res
              obtain ⟨q0, q1, q2, q3, q4, q5, q6, q7⟩ := cells4 hbR
              refine wpOp_run (o := _) rfl (fun K hK => ?_)
              go_simp
              refine hK _ _ ?_
              exact ⟨_, _, _, _, _, _, _, _, _, _, _, _, _, _, _, _, _, _, rfl, LK, { H with bel := nofun, f16 := fun _ => ⟨v, H.bel rfl, rfl⟩, o16_0 := fun _ => rfl, o16_11 := fun _ => rfl, o16_3 := fun _ => rfl, o16_7 := fun _ => rfl }⟩
            · obtain rfl : b17 = false := ready_new hi
              obtain rfl : b15 = true := ready_dep (d := 15) hi (by kernel_rfl)
              obtain rfl : b14 = true := H.o15_14 rfl
              obtain rfl : b13 = true := H.o14_13 rfl
              obtain rfl : b12 = true := H.o13_12 rfl
              obtain rfl : b11 = true := H.o12_11 rfl
              obtain rfl : b10 = true := H.o11_10 rfl
              obtain rfl : b9 = true := H.o10_9 rfl
              obtain rfl : b7 = true := H.o9_7 rfl
              obtain rfl : b8 = true := H.o9_8 rfl
              obtain rfl : b6 = true := H.o7_6 rfl
              obtain rfl : b5 = true := H.o6_5 rfl
              obtain rfl : b4 = true := H.o5_4 rfl
              obtain rfl : b3 = true := H.o4_3 rfl
              obtain rfl : b2 = true := H.o3_2 rfl
              obtain rfl : b1 = true := H.o2_1 rfl
              have l15 := H.f15 rfl
              have l_0 := LK.h0; have l_2 := LK.h2; have l_5 := LK.h5; have l_10 := LK.h10
              refine wpOp_run (o := _) rfl (fun K hK => ?_)
              go_simp
              refine hK _ _ ?_
              exact ⟨_, _, _, _, _, _, _, _, _, _, _, _, _, _, _, _, _, _, rfl, LK.put 3 (by decide), { H with f0 := nx H.f0, f1 := nx H.f1, f2 := nx H.f2, f3 := nx H.f3, f4 := nx H.f4, f5 := nx H.f5, f6 := nx H.f6, f7 := nx H.f7, f8 := nx H.f8, f9 := nx H.f9, f10 := nx H.f10, f11 := nx H.f11, f12 := nx H.f12, f13 := nx H.f13, f14 := nx H.f14, f15 := nx H.f15, f17 := la LK, o17_15 := fun _ => rfl }⟩

end Go.Proofs.YtppfhepipadepaaGreatDoor
