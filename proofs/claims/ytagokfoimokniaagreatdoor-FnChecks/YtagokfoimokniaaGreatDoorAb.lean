/- The program's CheckTx keeps its contract. -/
import Derived.Test.YtagokfoimokniaaGreatDoorAa
import Derived.Lib.QuietBelow
namespace Go.Proofs.YtagokfoimokniaaGreatDoor
open Go.RowKit Go.Shelf Go.Maps Go.WideMaps Go.Sort

theorem tx_member {k f : Int} {rs : List (Int × Int)} {os : List Ou} (h : txR k f rs os = 0) (hk : k = 2) : 1 ≤ f ∧ f ≤ 999 := by
  unfold txR at h
  by_cases h1 : inB k 0 2 = false ∨ ¬ (k = 0 ↔ f = 0)
  · rw [if_pos h1] at h; cases h
  rw [if_neg h1] at h
  by_cases h2 : k ≠ 0 ∧ inB f 1 999 = false
  · rw [if_pos h2] at h; cases h
  have h3 : inB f 1 999 = true := by
    cases e : inB f 1 999
    · exact absurd ⟨by omega, e⟩ h2
    · rfl
  simpa [inB] using h3
theorem fieldIntA (a b : Int) (W : World) : (Instr.field 36 (.agg #[.int .i64 a, .int .i64 b]) 1).run Tryz.prog W = .ok (.int .i64 b) W := by kernel_rfl

set_option maxRecDepth 20000 in
set_option maxHeartbeats 4000000 in
theorem feeOf_any (p q base top B lo : Nat) (ss : List ByteArray) (gs : List (Int × Int)) (ps : List (Co × Value)) (cs : List Co) (n c m d : Nat) (ia oa : Option Addr) (k f : Int) (rs : List (Int × Int)) (os : List Ou) (h : Int) (w : World) (hT : TwS w base p ss) (hG : TwG w top q gs) (hE : Ev w) (hH : Holds w lo B ps cs) (hok : ∀ c ∈ cs, coinR c = 0) (h40 : cs.length ≤ 40) (hs60 : ss.length ≤ 60) (hn : n ≤ 1048576) (hm : m ≤ 1048576) (hc1 : n ≤ c) (hc2 : c ≤ maxLen) (hk : ∀ j, j < m → (os.getD j O0).l.length ≤ 1048576) (hX : TxAt w ia n oa m rs os) (h0 : txR k f rs os = 0) (hh : inB h 0 999 = true) :
    Calls Tryz.prog 58 #[.agg #[.pointer (some ⟨p, 0, none⟩), .pointer (some ⟨q, 0, none⟩)], .map (some B), .agg #[.int .i64 k, .int .i64 f, .slice ia n c, .slice oa m d], .int .i64 h] w fun e w' => NumO w w' e (fee2R ss gs cs k f rs os h).1 (fee2R ss gs cs k f rs os h).2 := by
  have HW0 : Hid (FBx w ((w.alloc (.cells #[.pointer (some ⟨p, 0, none⟩), .pointer (some ⟨q, 0, none⟩)] 71)).alloc (.cells #[.int .i64 k, .int .i64 f, .slice ia n c, .slice oa m d] 32)) p q k f ia n c oa m d) := FBx.start
  obtain ⟨p0, p1, p2, p3, _⟩ := cells4 HW0.out.tx
  obtain ⟨y0, y1⟩ := cells2 HW0.out.bk
  have hNi := notedId_any p q base ss n c m d ia oa k f rs os ((w.alloc (.cells #[.pointer (some ⟨p, 0, none⟩), .pointer (some ⟨q, 0, none⟩)] 71)).alloc (.cells #[.int .i64 k, .int .i64 f, .slice ia n c, .slice oa m d] 32)) (hT.below HW0.out.bel) (hE.below HW0.out.bel (Nat.le_refl _)) hn hm hc1 hc2 hk (hX.below HW0.out.bel (Nat.le_refl _)) h0
  obtain ⟨hrb, hrd, hr4, ho4⟩ := tx_facts h0
  rw [hX.r.1] at hr4
  have hsb : ∀ v, Below w.heap.size w v → Calls Tryz.prog 34 #[.map (some B), .agg #[.int .i64 k, .int .i64 f, .slice ia n c, .slice oa m d]] v fun e w' => SpB v w' e (rs.all (hasC cs)) (inC cs rs) := fun v hv =>
    spentBy_any B lo ps cs n c m d ia oa k f rs v (hH.below hv) (fun c hc => (coin_more (hok c hc)).2.2.1) (by omega) hrb hrd (hX.r.below hv (Nat.le_refl _))
  unfold fee2R
  have hnr : notedC ss k f rs os = 0 → 1 ≤ num ss (str (ttR k f rs os).2) := fun e => by
    unfold notedC at e
    by_cases a : (ttR k f rs os).1 ≠ 0
    · rw [if_pos a] at e; exact absurd e a
    · rw [if_neg a] at e
      by_cases b : num ss (str (ttR k f rs os).2) = 0
      · rw [if_pos b] at e; cases e
      · omega
  have hnl := num_le ss (str (ttR k f rs os).2)
  obtain ⟨nc, hnc⟩ : ∃ x, x = notedC ss k f rs os := ⟨_, rfl⟩
  obtain ⟨nn, hnn⟩ : ∃ x, x = num ss (str (ttR k f rs os).2) := ⟨_, rfl⟩
  rw [← hnc, ← hnn] at hNi hnr
  rw [← hnn] at hnl
  rw [← hnc, ← hnn]
  by_cases hz : nc = 0
  · rw [if_neg (by simp [hz])]
    have hn1 := hnr hz
    have hNi0 : Calls Tryz.prog 112 #[.agg #[.pointer (some ⟨p, 0, none⟩), .pointer (some ⟨q, 0, none⟩)], .agg #[.int .i64 k, .int .i64 f, .slice ia n c, .slice oa m d]] ((w.alloc (.cells #[.pointer (some ⟨p, 0, none⟩), .pointer (some ⟨q, 0, none⟩)] 71)).alloc (.cells #[.int .i64 k, .int .i64 f, .slice ia n c, .slice oa m d] 32)) fun e w' => e = .returned (.tuple #[.int .i64 nn, .nilIface]) ∧ Below ((w.alloc (.cells #[.pointer (some ⟨p, 0, none⟩), .pointer (some ⟨q, 0, none⟩)] 71)).alloc (.cells #[.int .i64 k, .int .i64 f, .slice ia n c, .slice oa m d] 32)).heap.size ((w.alloc (.cells #[.pointer (some ⟨p, 0, none⟩), .pointer (some ⟨q, 0, none⟩)] 71)).alloc (.cells #[.int .i64 k, .int .i64 f, .slice ia n c, .slice oa m d] 32)) w' := hNi.mono fun e w' q => by
      rcases q.2 with ⟨_, q1⟩ | ⟨q1, _⟩
      · exact ⟨q1, q.1⟩
      · exact absurd hz q1
    obtain ⟨ts, hts⟩ : ∃ x, x = inC cs rs := ⟨_, rfl⟩
    obtain ⟨jb, hjb⟩ : ∃ b, b = rs.all (hasC cs) := ⟨_, rfl⟩
    rw [← hts, ← hjb] at hsb
    unfold feeR
    rw [← hts, ← hjb]
    clear hNi hnr
    cases jb
    · rw [if_pos rfl]
      have HSP : ∀ v, Below w.heap.size w v → Calls Tryz.prog 34 #[.map (some B), .agg #[.int .i64 k, .int .i64 f, .slice ia n c, .slice oa m d]] v fun e w' => Below v.heap.size v w' ∧ e = .returned (.tuple #[.slice none 0 0, .iface 141 (.agg #[.string ⟨#[97, 32, 99, 111, 105, 110]⟩, .int .i64 4])]) := fun v hv => (hsb v hv).mono fun e w' q => by
        rcases q.2 with ⟨_, q1⟩ | ⟨q1, _⟩
        · exact ⟨q.1, q1⟩
        · cases q1
      clear hsb hts hjb hnc hnn hT hG hE hH hok hk hX h0 hh hrb hrd
      go_enter Tryz.func58, Tryz.ntmps58
      go_wp2_with (first
        | (go_at_call 112; (with_reducible refine hNi0.mono ?_); clear hNi0; rintro e w2 ⟨rfl, hb2⟩; have HW2 : Hid (FBx w w2 p q k f ia n c oa m d) := HW0.out.step hb2; clear hb2 p0 p1 p2 p3; obtain ⟨p0, p1, p2, p3, _⟩ := cells4 HW2.out.tx; have hsp := HSP w2 HW2.out.bel)
        | (go_at_call 34; (with_reducible refine hsp.mono ?_); clear hsp; rintro e w3 ⟨hb3, rfl⟩; have HW3 : Hid (FBx w w3 p q k f ia n c oa m d) := HW2.out.step hb3; clear hb3))
      exact bodyPost_ret (v := .tuple #[.int .i64 0, .iface 141 (.agg #[.string ⟨#[97, 32, 99, 111, 105, 110]⟩, .int .i64 4])]) (by simp [results, Tryz.results58, go_sem]) rfl ⟨HW3.out.bel, .inr ⟨by decide, _, rfl⟩⟩
    · rw [if_neg (by simp)]
      have HSP : ∀ v, Below w.heap.size w v → Calls Tryz.prog 34 #[.map (some B), .agg #[.int .i64 k, .int .i64 f, .slice ia n c, .slice oa m d]] v fun e w' => Below v.heap.size v w' ∧ ∃ va vc, e = .returned (.tuple #[.slice va ts.length vc, .nilIface]) ∧ Hid (∃ kv, COwn w' v.heap.size w'.heap.size (.slice va ts.length vc) ts.length (fun j => ts.getD j C0) kv) := fun v hv => (hsb v hv).mono fun e w' q => by
        rcases q.2 with ⟨q1, _⟩ | ⟨_, va, vc, q1, q2⟩
        · cases q1
        · exact ⟨q.1, va, vc, q1, q2⟩
      have HTK : Hid (∀ c ∈ ts, coinR c = 0) := fun c hc => hok c (by rw [hts] at hc; exact (List.mem_filter.1 hc).1)
      have htl : ts.length ≤ 40 := by rw [hts]; exact Nat.le_trans (List.length_filter_le _ _) h40
      have HVO : Hid (ValsOk ts) := fun c hc => (coin_rule (HTK.out c hc)).2.2
      have hvl := vals_le HVO.out
      obtain ⟨hm4, hov⟩ := txR_zero hX.o.1 h0.symm
      have hsl := out_vals hX.o.1 hm4 hov
      have hsr : sumR k f rs os = (0, (os.map Ou.v).sum) := by unfold sumR; rw [if_neg (by simp [h0])]
      obtain ⟨r, hr⟩ : ∃ x, x = maysR gs nn h ts := ⟨_, rfl⟩
      obtain ⟨mb, hmb⟩ : ∃ x, x = memB gs (f, nn) := ⟨_, rfl⟩
      obtain ⟨sv, hsv⟩ : ∃ x, x = valsR ts := ⟨_, rfl⟩
      obtain ⟨so, hso⟩ : ∃ x, x = (os.map Ou.v).sum := ⟨_, rfl⟩
      have HR : Hid (r = maysR gs nn h ts) := hr
      have HMB : Hid (mb = memB gs (f, nn)) := hmb
      have HSV : Hid (sv = valsR ts) := hsv
      have HG : Hid (TwG w top q gs ∧ TwS w base p ss) := ⟨hG, hT⟩
      have HX : Hid (TxAt w ia n oa m rs os) := hX
      have HK : Hid (∀ j, j < m → (os.getD j O0).l.length ≤ 1048576) := hk
      have HT0 : Hid (txR k f rs os = 0) := h0
      have HHH : Hid (inB h 0 999 = true) := hh
      have HID : Hid (inB (nn : Int) 1 ss.length = true) := by show _ = _; simp [inB]; omega
      have hwi : (Lit.int .i64 (nn : Int)).wf = true := WalkArith.wf_i64 (by omega)
      rw [← hso] at hsl hsr
      rw [← hsv] at hvl
      have HSR : Hid (sumR k f rs os = (0, so)) := hsr
      rw [← hr, ← hmb, ← hsv, ← hso]
      obtain ⟨P, hP⟩ : ∃ P : Int × Int, P = if r ≠ 0 then (r, 0) else if k = 2 ∧ mb = false then (6, 0) else if sv - so < 0 then (8, 0) else (0, sv - so) := ⟨_, rfl⟩
      rw [← hP]
      obtain ⟨rc, fee⟩ := P
      have HP : Hid ((rc, fee) = if r ≠ 0 then (r, 0) else if k = 2 ∧ mb = false then (6, 0) else if sv - so < 0 then (8, 0) else (0, sv - so)) := hP
      have hmix : Tryz.prog.follows .mixedOrders = true := by kernel_rfl
      have hfw : IntKind.i64.wrap (sv - so) = sv - so := IntWalk.i64_in _ (by omega)
      simp only
      clear hP hr hmb hsv hso hsb hts hjb hnc hnn hT hG hE hH hok hk hX h0 hh hrb hrd hov hsr hsl hvl
      go_enter Tryz.func58, Tryz.ntmps58
      go_wp2_with (first
        | (go_at_call 112; (with_reducible refine hNi0.mono ?_); clear hNi0; rintro e w2 ⟨rfl, hb2⟩; have HW2 : Hid (FBx w w2 p q k f ia n c oa m d) := HW0.out.step hb2; clear hb2 p0 p1 p2 p3; obtain ⟨p0, p1, p2, p3, _⟩ := cells4 HW2.out.tx; have hsp := HSP w2 HW2.out.bel)
        | (go_at_call 34; (with_reducible refine hsp.mono ?_); clear hsp; rintro e w3 ⟨hb3, va, vc, rfl, HO3⟩; have HW3 : Hid (FBx w w3 p q k f ia n c oa m d) := HW2.out.step hb3; clear hb3))
      clear p0 p1 p2 p3 y0 y1
      go_loopw [37] (fun i wr => ∃ j : Nat, j ≤ ts.length ∧ i = .int .i64 j ∧ Hid (r = maysR gs nn h (ts.drop j)) ∧ Hid (Below w3.heap.size w3 wr)) (fun i _ => ts.length - (intOf i).toNat)
      case atStart => exact ⟨0, Nat.zero_le _, rfl, HR.out, Below.refl _ _⟩
      case round =>
        obtain ⟨j, hj, rfl, HRJ, HBW⟩ := hrel
        have HWR : Hid (FBx w wr p q k f ia n c oa m d) := HW3.out.step HBW.out
        obtain ⟨kv, hO3⟩ := HO3.out
        have hO := hO3.below HBW.out
        by_cases hlt : j < ts.length
        · obtain ⟨g, ug, eg⟩ : ∃ g ug, (Value.slice va ts.length vc) = .slice (some ⟨g, 0, none⟩) ts.length ug := by
            obtain ⟨xs, h1, _⟩ := hO.row
            rcases h1.2 with ⟨e1, e2⟩ | ⟨g, cp, cur, e1, _⟩
            · omega
            · exact ⟨g, cp, e1⟩
          cases eg
          obtain ⟨o, ho⟩ : ∃ o, o = ts.getD j C0 := ⟨_, rfl⟩
          have hmem : o ∈ ts := by rw [ho]; exact getC_mem hlt
          obtain ⟨g1, g2, g3, g4⟩ := coin_more (HTK.out o hmem)
          obtain ⟨u1, u2, _⟩ := coin_rule (HTK.out o hmem)
          have hrow := (hO.keys j hlt).1
          obtain ⟨kb, kc, hkv⟩ : ∃ kb kc, kv j = .slice (some ⟨kb, 0, none⟩) o.l.length kc := by
            rcases hrow.2 with ⟨_, e1⟩ | ⟨g, cp, cur, e1, _⟩
            · rw [← ho] at e1; omega
            · rw [← ho] at e1; exact ⟨g, cp, e1⟩
          rw [hkv, ← ho] at hrow
          obtain ⟨⟨x0, x1, x2, x3, x4, x5, x6, x7⟩, _⟩ := hO.cells hlt (show ts.getD j C0 = o from ho.symm) hkv
          have HNX : Hid (ts.drop j = o :: ts.drop (j + 1)) := next_co hlt ho
          obtain ⟨op, oq, ov, ol, ox, oy, oh, om⟩ := o
          simp only at x0 x1 x2 x3 x4 x5 x6 x7 hrow g1 g2 g3 g4 u1 u2
          have hbx : Below wr.heap.size wr (wr.alloc (.cells #[.int .i64 op, .int .i64 oq, .int .i64 ov, .slice (some ⟨kb, 0, none⟩) ol.length kc, .int .i64 ox, .int .i64 oy, .int .i64 oh, .bool om] 54)) := below_box _
          have HWA : Hid (FBx w (wr.alloc (.cells #[.int .i64 op, .int .i64 oq, .int .i64 ov, .slice (some ⟨kb, 0, none⟩) ol.length kc, .int .i64 ox, .int .i64 oy, .int .i64 oh, .bool om] 54)) p q k f ia n c oa m d) := HWR.out.step hbx
          have HBA : Hid (Below w3.heap.size w3 (wr.alloc (.cells #[.int .i64 op, .int .i64 oq, .int .i64 ov, .slice (some ⟨kb, 0, none⟩) ol.length kc, .int .i64 ox, .int .i64 oy, .int .i64 oh, .bool om] 54))) := HBW.out.trans (hbx.mono HBW.out.size)
          obtain ⟨⟨t0, t1, t2, t3, t4, t5, t6, t7⟩, _⟩ := cells8 (heap_alloc_new wr (.cells #[.int .i64 op, .int .i64 oq, .int .i64 ov, .slice (some ⟨kb, 0, none⟩) ol.length kc, .int .i64 ox, .int .i64 oy, .int .i64 oh, .bool om] 54))
          obtain ⟨y0, y1⟩ := cells2 HWA.out.bk
          have hms := maySpend_any p q base top kc (some ⟨kb, 0, none⟩) ss gs op oq ov ol ox oy oh om nn h (wr.alloc (.cells #[.int .i64 op, .int .i64 oq, .int .i64 ov, .slice (some ⟨kb, 0, none⟩) ol.length kc, .int .i64 ox, .int .i64 oy, .int .i64 oh, .bool om] 54)) (HG.out.2.below HWA.out.bel) (HG.out.1.below HWA.out.bel) ((IAt.owned hrow rfl).below hbx (Nat.le_refl _)) u1 u2 HHH.out HID.out hwi
          obtain ⟨rm, hrm⟩ : ∃ x, x = mayR gs nn h ⟨op, oq, ov, ol, ox, oy, oh, om⟩ := ⟨_, rfl⟩
          rw [← hrm] at hms
          have HRM : Hid (mayR gs nn h ⟨op, oq, ov, ol, ox, oy, oh, om⟩ = rm) := hrm.symm
          have hki : (j : Int) < (ts.length : Int) := by omega
          clear ho hmem g1 g2 g3 g4 u1 u2 hbx hO hO3 hrow hkv hrm
          by_cases hz2 : rm = 0
          · have hms0 : Calls Tryz.prog 113 #[.agg #[.pointer (some ⟨p, 0, none⟩), .pointer (some ⟨q, 0, none⟩)], .agg #[.int .i64 op, .int .i64 oq, .int .i64 ov, .slice (some ⟨kb, 0, none⟩) ol.length kc, .int .i64 ox, .int .i64 oy, .int .i64 oh, .bool om], .int .i64 nn, .int .i64 h] (wr.alloc (.cells #[.int .i64 op, .int .i64 oq, .int .i64 ov, .slice (some ⟨kb, 0, none⟩) ol.length kc, .int .i64 ox, .int .i64 oy, .int .i64 oh, .bool om] 54)) fun e w' => e = .returned .nilIface ∧ Below (wr.alloc (.cells #[.int .i64 op, .int .i64 oq, .int .i64 ov, .slice (some ⟨kb, 0, none⟩) ol.length kc, .int .i64 ox, .int .i64 oy, .int .i64 oh, .bool om] 54)).heap.size (wr.alloc (.cells #[.int .i64 op, .int .i64 oq, .int .i64 ov, .slice (some ⟨kb, 0, none⟩) ol.length kc, .int .i64 ox, .int .i64 oy, .int .i64 oh, .bool om] 54)) w' := hms.mono fun e w' q => by
              rcases q.2 with ⟨_, q1⟩ | ⟨q1, _⟩
              · exact ⟨q1, q.1⟩
              · exact absurd hz2 q1
            clear hms
            go_wp2_with (first
              | (go_at_call 113; (with_reducible refine hms0.mono ?_); clear hms0; rintro e w4 ⟨rfl, hb4⟩; have HB4 : Hid (Below w3.heap.size w3 w4) := HBA.out.trans (hb4.mono HBA.out.size); clear hb4))
            go_roundw
            case rel => exact ⟨j + 1, by omega, by go_num, by show _ = _; rw [HRJ.out, HNX.out]; exact mays_yes (HRM.out.trans hz2), HB4.out⟩
            case measure => simp [intOf]; omega
          · have hms0 : Calls Tryz.prog 113 #[.agg #[.pointer (some ⟨p, 0, none⟩), .pointer (some ⟨q, 0, none⟩)], .agg #[.int .i64 op, .int .i64 oq, .int .i64 ov, .slice (some ⟨kb, 0, none⟩) ol.length kc, .int .i64 ox, .int .i64 oy, .int .i64 oh, .bool om], .int .i64 nn, .int .i64 h] (wr.alloc (.cells #[.int .i64 op, .int .i64 oq, .int .i64 ov, .slice (some ⟨kb, 0, none⟩) ol.length kc, .int .i64 ox, .int .i64 oy, .int .i64 oh, .bool om] 54)) fun e w' => ∃ s, e = .returned (.iface 141 (.agg #[.string s, .int .i64 rm])) ∧ Below (wr.alloc (.cells #[.int .i64 op, .int .i64 oq, .int .i64 ov, .slice (some ⟨kb, 0, none⟩) ol.length kc, .int .i64 ox, .int .i64 oy, .int .i64 oh, .bool om] 54)).heap.size (wr.alloc (.cells #[.int .i64 op, .int .i64 oq, .int .i64 ov, .slice (some ⟨kb, 0, none⟩) ol.length kc, .int .i64 ox, .int .i64 oy, .int .i64 oh, .bool om] 54)) w' := hms.mono fun e w' q => by
              rcases q.2 with ⟨q1, _⟩ | ⟨_, s, q1⟩
              · exact absurd q1 hz2
              · exact ⟨s, q1, q.1⟩
            clear hms
            go_wp2_with (first
              | (go_at_call 113; (with_reducible refine hms0.mono ?_); clear hms0; rintro e w4 ⟨s, rfl, hb4⟩; have HW4 : Hid (FBx w w4 p q k f ia n c oa m d) := HWA.out.step hb4; clear hb4))
            have hrr : r = rm := by rw [HRJ.out, HNX.out]; exact mays_no HRM.out hz2
            have hpp := HP.out
            rw [if_pos (by rw [hrr]; exact hz2)] at hpp
            have hrc : rc = rm := by rw [← hrr]; exact (Prod.mk.inj hpp).1
            exact bodyPost_ret (v := .tuple #[.int .i64 0, .iface 141 (.agg #[.string s, .int .i64 rm])]) (by simp [results, Tryz.results58, go_sem]) rfl ⟨HW4.out.bel, .inr ⟨by rw [hrc]; exact hz2, s, by rw [hrc]⟩⟩
        · have hr0 : r = 0 := by rw [HRJ.out, List.drop_of_length_le (by omega)]; rfl
          have hki : ¬ (j : Int) < (ts.length : Int) := by omega
          have hpp := HP.out
          rw [if_neg (by simp [hr0])] at hpp
          have HPP : Hid ((rc, fee) = if k = 2 ∧ mb = false then (6, 0) else if sv - so < 0 then (8, 0) else (0, sv - so)) := hpp
          have hvs : ∀ V, Below wr.heap.size wr V → Calls Tryz.prog 44 #[.slice va ts.length vc] V fun e w' => e = .returned (.int .i64 sv) ∧ Below V.heap.size V w' := fun V hV => by
            rw [HSV.out]
            exact sumOf_any ts.length vc va ts V htl HVO.out ((own_at2 hO rfl (fun t ht => by have := (coin_more (HTK.out _ (getC_mem ht))).2.2.2; omega)).below hV (Nat.le_refl _))
          have hos : ∀ V, Below wr.heap.size wr V → Calls Tryz.prog 15 #[.agg #[.int .i64 k, .int .i64 f, .slice ia n c, .slice oa m d]] V fun e w' => e = .returned (.agg #[.int .i64 0, .int .i64 so]) ∧ Below V.heap.size V w' := fun V hV => by
            have := iOutSum_any n c m d ia oa k f rs os V hn hm hc1 hc2 HK.out (HX.out.below (HWR.out.bel.trans (hV.mono HWR.out.bel.size)) (Nat.le_refl _))
            rw [HSR.out] at this
            exact this
          obtain ⟨p0, p1, p2, p3, _⟩ := cells4 HWR.out.tx
          obtain ⟨y0, y1⟩ := cells2 HWR.out.bk
          obtain ⟨W, hWW⟩ : ∃ W, W = wr := ⟨_, rfl⟩
          subst hWW
          clear hr0 hpp hO hO3
          by_cases hk2 : k = 2
          · have hk2b : (k == 2) = true := by simp [hk2]
            have hwf : (Lit.int .i64 f).wf = true := by have := tx_member HT0.out hk2; exact WalkArith.wf_i64 (by omega)
            have HK2 : Hid (k = 2) := hk2
            clear hk2
            have hhs := bookHas_any (some ⟨p, 0, none⟩) q top gs f nn W hwf hwi (HG.out.1.below HWR.out.bel)
            rw [← HMB.out] at hhs
            cases mb
            · go_wp2_with (first
                | (go_at_call 114; (with_reducible refine hhs.mono ?_); clear hhs; rintro e w5 ⟨rfl, hb5⟩; have HW5 : Hid (FBx w w5 p q k f ia n c oa m d) := HWR.out.step hb5; clear hb5))
              have hrc : rc = 6 := by have q := HPP.out; simp [HK2.out] at q; exact q.1
              exact bodyPost_ret (v := .tuple #[.int .i64 0, .iface 141 (.agg #[.string ⟨#[116, 104, 101, 32, 115, 105, 103, 110, 97, 116, 117, 114, 101, 32, 111, 102, 32, 119, 104, 111, 32, 108, 101, 97, 118, 101, 115]⟩, .int .i64 6])]) (by simp [results, Tryz.results58, go_sem]) rfl ⟨HW5.out.bel, .inr ⟨by rw [hrc]; decide, _, by rw [hrc]⟩⟩
            · have hpq := HPP.out.trans (if_neg (by simp))
              have HPQ : Hid ((rc, fee) = if sv - so < 0 then ((8, 0) : Int × Int) else (0, sv - so)) := hpq
              clear hpq
              go_wp2_with (first
                | (go_at_call 114; (with_reducible refine hhs.mono ?_); clear hhs; rintro e w5 ⟨rfl, hb5⟩; have HW5 : Hid (FBx w w5 p q k f ia n c oa m d) := HWR.out.step hb5; have HB5 : Hid (Below W.heap.size W w5) := hb5; clear hb5))
              clear p0 p1 p2 p3 y0 y1
              obtain ⟨z0, z1, z2, z3, _⟩ := cells4 HW5.out.tx
              have a0 := cell_regrown z0
              have a1 := cell_regrown z1
              have a2 := cell_regrown z2
              have a3 := cell_regrown z3
              have cV : ∀ dd oq, Calls Tryz.prog 44 #[.slice va ts.length vc] (grow (redrawn w5 dd) oq) fun e w'' => e = .returned (.int .i64 sv) ∧ ∃ p : Regrown, w'' = grow (redrawn w5 p.d) p.os := fun dd oq => Calls.regrown_of (hvs _ (HB5.out.trans ((below_regrown w5 dd oq).mono HB5.out.size)))
              have cO : ∀ dd oq, Calls Tryz.prog 15 #[.agg #[.int .i64 k, .int .i64 f, .slice ia n c, .slice oa m d]] (grow (redrawn w5 dd) oq) fun e w'' => e = .returned (.agg #[.int .i64 0, .int .i64 so]) ∧ ∃ p : Regrown, w'' = grow (redrawn w5 p.d) p.os := fun dd oq => Calls.regrown_of (hos _ (HB5.out.trans ((below_regrown w5 dd oq).mono HB5.out.size)))
              have cF := fieldIntA 0 so
              clear z0 z1 z2 z3 hvs hos
              by_cases hfee : sv - so < 0
              · refine wp_region_quiet_below hmix (by kernel_rfl) ?_
                repeat (go_big_quiet_step (first | (with_reducible exact cV _ _) | (with_reducible exact cO _ _)))
                refine wpQuiet_nil ?_
                intro _ hw'
                obtain ⟨⟨dq, osq⟩, hw''⟩ := hw'
                subst hw''
                go_wp2
                have hrc : rc = 8 := by have q := HPQ.out; rw [if_pos (by omega)] at q; exact (Prod.mk.inj q).1
                exact bodyPost_ret (v := .tuple #[.int .i64 0, .iface 141 (.agg #[.string ⟨#[115, 111, 109, 101, 32, 111, 102, 32, 116, 104, 101, 32, 118, 97, 108, 117, 101]⟩, .int .i64 8])]) (by simp [results, Tryz.results58, go_sem]) rfl ⟨(HW5.out.step (below_regrown w5 dq osq)).bel, .inr ⟨by rw [hrc]; decide, _, by rw [hrc]⟩⟩
              · refine wp_region_quiet_below hmix (by kernel_rfl) ?_
                repeat (go_big_quiet_step (first | (with_reducible exact cV _ _) | (with_reducible exact cO _ _)))
                refine wpQuiet_nil ?_
                intro _ hw'
                obtain ⟨⟨dq, osq⟩, hw''⟩ := hw'
                subst hw''
                go_wp2
                have hrc : rc = 0 ∧ fee = sv - so := by have q := HPQ.out; rw [if_neg (by omega)] at q; exact ⟨(Prod.mk.inj q).1, (Prod.mk.inj q).2⟩
                exact bodyPost_ret (v := .tuple #[.int .i64 (sv - so), .nilIface]) (by simp [results, Tryz.results58, go_sem]) rfl ⟨(HW5.out.step (below_regrown w5 dq osq)).bel, .inl ⟨hrc.1, by rw [hrc.2]⟩⟩
          · have hk2b : (k == 2) = false := by simpa using hk2
            have HPQ : Hid ((rc, fee) = if sv - so < 0 then ((8, 0) : Int × Int) else (0, sv - so)) := HPP.out.trans (if_neg (fun e => hk2 e.1))
            go_wp2
            have HBR : Hid (Below W.heap.size W W) := Below.refl _ _
            clear p0 p1 p2 p3 y0 y1
            obtain ⟨z0, z1, z2, z3, _⟩ := cells4 HWR.out.tx
            have a0 := cell_regrown z0
            have a1 := cell_regrown z1
            have a2 := cell_regrown z2
            have a3 := cell_regrown z3
            have cV : ∀ dd oq, Calls Tryz.prog 44 #[.slice va ts.length vc] (grow (redrawn W dd) oq) fun e w'' => e = .returned (.int .i64 sv) ∧ ∃ p : Regrown, w'' = grow (redrawn W p.d) p.os := fun dd oq => Calls.regrown_of (hvs _ (HBR.out.trans ((below_regrown W dd oq).mono HBR.out.size)))
            have cO : ∀ dd oq, Calls Tryz.prog 15 #[.agg #[.int .i64 k, .int .i64 f, .slice ia n c, .slice oa m d]] (grow (redrawn W dd) oq) fun e w'' => e = .returned (.agg #[.int .i64 0, .int .i64 so]) ∧ ∃ p : Regrown, w'' = grow (redrawn W p.d) p.os := fun dd oq => Calls.regrown_of (hos _ (HBR.out.trans ((below_regrown W dd oq).mono HBR.out.size)))
            have cF := fieldIntA 0 so
            clear z0 z1 z2 z3 hvs hos
            by_cases hfee : sv - so < 0
            · refine wp_region_quiet_below hmix (by kernel_rfl) ?_
              repeat (go_big_quiet_step (first | (with_reducible exact cV _ _) | (with_reducible exact cO _ _)))
              refine wpQuiet_nil ?_
              intro _ hw'
              obtain ⟨⟨dq, osq⟩, hw''⟩ := hw'
              subst hw''
              go_wp2
              have hrc : rc = 8 := by have q := HPQ.out; rw [if_pos (by omega)] at q; exact (Prod.mk.inj q).1
              exact bodyPost_ret (v := .tuple #[.int .i64 0, .iface 141 (.agg #[.string ⟨#[115, 111, 109, 101, 32, 111, 102, 32, 116, 104, 101, 32, 118, 97, 108, 117, 101]⟩, .int .i64 8])]) (by simp [results, Tryz.results58, go_sem]) rfl ⟨(HWR.out.step (below_regrown W dq osq)).bel, .inr ⟨by rw [hrc]; decide, _, by rw [hrc]⟩⟩
            · refine wp_region_quiet_below hmix (by kernel_rfl) ?_
              repeat (go_big_quiet_step (first | (with_reducible exact cV _ _) | (with_reducible exact cO _ _)))
              refine wpQuiet_nil ?_
              intro _ hw'
              obtain ⟨⟨dq, osq⟩, hw''⟩ := hw'
              subst hw''
              go_wp2
              have hrc : rc = 0 ∧ fee = sv - so := by have q := HPQ.out; rw [if_neg (by omega)] at q; exact ⟨(Prod.mk.inj q).1, (Prod.mk.inj q).2⟩
              exact bodyPost_ret (v := .tuple #[.int .i64 (sv - so), .nilIface]) (by simp [results, Tryz.results58, go_sem]) rfl ⟨(HWR.out.step (below_regrown W dq osq)).bel, .inl ⟨hrc.1, by rw [hrc.2]⟩⟩
  · rw [if_pos hz]
    have hNi0 : Calls Tryz.prog 112 #[.agg #[.pointer (some ⟨p, 0, none⟩), .pointer (some ⟨q, 0, none⟩)], .agg #[.int .i64 k, .int .i64 f, .slice ia n c, .slice oa m d]] ((w.alloc (.cells #[.pointer (some ⟨p, 0, none⟩), .pointer (some ⟨q, 0, none⟩)] 71)).alloc (.cells #[.int .i64 k, .int .i64 f, .slice ia n c, .slice oa m d] 32)) fun e w' => ∃ s, e = .returned (.tuple #[.int .i64 0, .iface 141 (.agg #[.string s, .int .i64 nc])]) ∧ Below ((w.alloc (.cells #[.pointer (some ⟨p, 0, none⟩), .pointer (some ⟨q, 0, none⟩)] 71)).alloc (.cells #[.int .i64 k, .int .i64 f, .slice ia n c, .slice oa m d] 32)).heap.size ((w.alloc (.cells #[.pointer (some ⟨p, 0, none⟩), .pointer (some ⟨q, 0, none⟩)] 71)).alloc (.cells #[.int .i64 k, .int .i64 f, .slice ia n c, .slice oa m d] 32)) w' := hNi.mono fun e w' q => by
      rcases q.2 with ⟨q1, _⟩ | ⟨_, s, q1⟩
      · exact absurd q1 hz
      · exact ⟨s, q1, q.1⟩
    clear hNi hnr hsb hnc hnn hT hG hE hH hok hk hX h0 hh hrb hrd
    go_enter Tryz.func58, Tryz.ntmps58
    go_wp2_with (first
      | (go_at_call 112; (with_reducible refine hNi0.mono ?_); clear hNi0; rintro e w2 ⟨s, rfl, hb2⟩; have HW2 : Hid (FBx w w2 p q k f ia n c oa m d) := HW0.out.step hb2; clear hb2 p0 p1 p2 p3))
    exact bodyPost_ret (v := .tuple #[.int .i64 0, .iface 141 (.agg #[.string s, .int .i64 nc])]) (by simp [results, Tryz.results58, go_sem]) rfl ⟨HW2.out.bel, .inr ⟨hz, s, rfl⟩⟩

end Go.Proofs.YtagokfoimokniaaGreatDoor
