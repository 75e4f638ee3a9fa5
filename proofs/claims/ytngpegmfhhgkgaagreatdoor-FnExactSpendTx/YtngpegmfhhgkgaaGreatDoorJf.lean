/- The law on SpentBy answers true, whatever comes in, and writes nothing that was there. The law on SpendTx answers true, whatever comes in, and writes nothing that was there. Coins that come in as a law's argument, read as data, give their numbers. Closed facts of the whole translation that each row's proof asks: proved once. -/
import Derived.Test.YtngpegmfhhgkgaaGreatDoorQm
import Derived.Test.YtngpegmfhhgkgaaGreatDoorQr
import Derived.Test.YtngpegmfhhgkgaaGreatDoorQu
import Derived.Test.YtngpegmfhhgkgaaGreatDoorOpT
import Derived.Test.YtngpegmfhhgkgaaGreatDoorCnA
import Derived.Test.YtngpegmfhhgkgaaGreatDoorRows
import Derived.Test.YtngpegmfhhgkgaaGreatDoorChecked
import Derived.ProofKit
namespace Go.Proofs.YtngpegmfhhgkgaaGreatDoor
open Go.RowKit Go.Maps Go.WideMaps

theorem keptG {w u : World} {v : Value} (h : w.cell? ⟨0, 0, none⟩ = some v) (hb : Below w.heap.size w u) : u.cell? ⟨0, 0, none⟩ = some v := (hb.cell (p := ⟨0, 0, none⟩) (block_lt_of_cell h)).trans h

end Go.Proofs.YtngpegmfhhgkgaaGreatDoor

namespace Go.Proofs.YtngpegmfhhgkgaaGreatDoor
open Go.RowKit Go.Maps Go.WideMaps

theorem spendF_facts {cs : List Co} {k f : Int} {rs : List (Int × Int)} {os : List Ou} {id h : Int} (e : spendF cs k f rs os id h = 0) : hasT cs id = false ∧ putsR (outC2 cs rs).length false id os h = 0 := by
  unfold spendF at e
  by_cases h1 : txR k f rs os ≠ 0
  · rw [if_pos h1] at e; exact absurd e h1
  rw [if_neg h1] at e
  by_cases h2 : rs.all (hasC cs) = false
  · rw [if_pos h2] at e; cases e
  rw [if_neg h2] at e
  by_cases h3 : hasT cs id = true
  · rw [if_pos h3] at e; cases e
  rw [if_neg h3] at e
  exact ⟨by simpa using h3, e⟩
theorem spendR_few {cs : List Co} {k f : Int} {rs : List (Int × Int)} {os : List Ou} {id h : Int} : (spendR cs k f rs os id h).2.length ≤ 1000 ∧ ∀ c ∈ (spendR cs k f rs os id h).2, c.l.length ≤ 1048576 := by
  rw [spendR_eq]
  by_cases h0 : coinsR cs ≠ 0
  · rw [if_pos h0]; exact ⟨by simp, fun c hc => by cases hc⟩
  rw [if_neg h0]
  by_cases h1 : spendF cs k f rs os id h ≠ 0
  · rw [if_pos h1]; exact ⟨by simp, fun c hc => by cases hc⟩
  rw [if_neg h1]
  obtain ⟨_, g2⟩ := spendF_facts (show spendF cs k f rs os id h = 0 by simpa using h1)
  obtain ⟨_, a2, _⟩ := coins_rise (show coinsR cs = 0 by simpa using h0)
  have g3 := (puts_taken g2).2
  refine ⟨?_, fun c hc => ?_⟩
  · show (addCs (outC2 cs rs) (newCs id h false os os.length)).length ≤ 1000
    rw [addCs_count]
    simp [newCs]
    omega
  · have hc' : c ∈ addCs (outC2 cs rs) (newCs id h false os os.length) := hc
    rw [addCs_mem, List.mem_append] at hc'
    rcases hc' with hc' | hc'
    · have := (coin_more (a2 c (List.mem_filter.1 hc').1)).2.2.2; omega
    · unfold newCs at hc'
      obtain ⟨j, hj, rfl⟩ := List.mem_map.1 hc'
      have hjl := List.mem_range.1 hj
      have := (puts_outs2 g2 (os.getD j O0) (by rw [List.getD, List.getElem?_eq_getElem hjl]; exact List.getElem_mem _)).2
      show (os.getD j O0).l.length ≤ 1048576
      omega

set_option maxRecDepth 20000 in
set_option maxHeartbeats 16000000 in
theorem lawSpendTx (n c n2 ic m2 oc : Nat) (a ia oa : Option Addr) (cs : List Co) (kd f : Int) (rs : List (Int × Int)) (os : List Ou) (tid hgt : Int) (w : World) (hn : n ≤ maxLen) (hn2 : n2 ≤ maxLen) (hm2 : m2 ≤ maxLen) (hg : w.cell? ⟨0, 0, none⟩ = some (.iface 167 (.agg #[.pointer (some ⟨1, 102, none⟩)]))) (hC : CAt w a n cs) (hT : TxAt w ia n2 oa m2 rs os) :
    Calls Tryz.prog 3 #[.slice a n c, .agg #[.int .i64 kd, .int .i64 f, .slice ia n2 ic, .slice oa m2 oc], .int .i64 tid, .int .i64 hgt] w fun e w' => e = .returned (.bool true) ∧ Below w.heap.size w w' := by
  have HT : Hid (CAt w a n cs) := hC
  have HN : Hid (cs.length = n) := hC.1
  have HGE : Hid (w.cell? ⟨0, 0, none⟩ = some (.iface 167 (.agg #[.pointer (some ⟨1, 102, none⟩)]))) := hg
  have HG : Hid (TxAt w ia n2 oa m2 rs os) := hT
  have HN2 : Hid (rs.length = n2) := hT.r.1
  have HM2 : Hid (os.length = m2) := hT.o.1
  obtain ⟨cd, hcd⟩ : ∃ x, x = (spendR cs kd f rs os tid hgt).1 := ⟨_, rfl⟩
  obtain ⟨res, hres⟩ : ∃ x, x = (spendR cs kd f rs os tid hgt).2 := ⟨_, rfl⟩
  have HAT : Hid ((spendR cs kd f rs os tid hgt).1 = cd ∧ (spendR cs kd f rs os tid hgt).2 = res) := ⟨hcd.symm, hres.symm⟩
  have hrl : res.length ≤ 1048576 := by rw [hres]; exact Nat.le_trans spendR_few.1 (by omega)
  have hrs : res.length ≤ 1000 := by rw [hres]; exact spendR_few.1
  have HRK : Hid (∀ j, j < res.length → (res.getD j C0).l.length ≤ 1048576) := fun j hj => by
    have h1 := get_memC (ts := res) rfl hj
    have h2 := (spendR_few (cs := cs) (k := kd) (f := f) (rs := rs) (os := os) (id := tid) (h := hgt)).2
    rw [← hres] at h2
    exact h2 _ h1
  have HB0 : Hid (TBx w (w.alloc (.cells #[.int .i64 kd, .int .i64 f, .slice ia n2 ic, .slice oa m2 oc] 26)) kd f ia n2 ic oa m2 oc 26) := TBx.start
  have hsz := szCs_any a n c cs 1048576 (w.alloc (.cells #[.int .i64 kd, .int .i64 f, .slice ia n2 ic, .slice oa m2 oc] 26)) (by omega) (by omega) hn (HT.out.below HB0.out.bel (Nat.le_refl _))
  clear hcd hres hC hT hg
  go_enter Tryz.func3, Tryz.ntmps3
  go_wp2_with (go_at_call 4; (with_reducible refine hsz.mono ?_); clear hsz; rintro e w1 ⟨r, rfl, hr, hb1⟩; have HB1 : Hid (TBx w w1 kd f ia n2 ic oa m2 oc 26) := HB0.out.step hb1; clear hb1; obtain ⟨p0, p1, p2, p3, _⟩ := cells4 HB1.out.box)
  · go_ret
    exact ⟨rfl, HB1.out.bel⟩
  have hr0 : 0 ≤ r := by assumption
  rcases hr with e | ⟨_, hr1, hq1, hq2⟩
  · omega
  have hn3 : n ≤ 1048576 := by omega
  have HKC : Hid (∀ j, j < n → (cs.getD j C0).l.length ≤ 1048576) := fun j hj => by have := hq2 j hj; omega
  clear hq1 hq2 p0 p1 p2 p3
  have hsz2 := szTx_any kd f ia oa n2 m2 ic oc os r w1 hr0 hr1 hn2 hm2 (HB1.out.at HG.out).o
  refine hsz2.mono ?_
  clear hsz2
  rintro e w2 ⟨r2, rfl, hr2, hb2⟩
  have HB2 : Hid (TBx w w2 kd f ia n2 ic oa m2 oc 26) := HB1.out.step hb2
  clear hb2
  go_wp2_with fail
  · go_ret
    exact ⟨rfl, HB2.out.bel⟩
  have hr3 : 0 ≤ r2 := by assumption
  rcases hr2 with e | ⟨_, hr4, hq1, hq2, hq3⟩
  · omega
  have hn4 : n2 ≤ 1048576 := by omega
  have hm4 : m2 ≤ 1048576 := by omega
  have HK : Hid (∀ j, j < m2 → (os.getD j O0).l.length ≤ 1048576) := fun j hj => by have := hq3 j hj; omega
  clear hq1 hq2 hq3 hr4
  have hSP : ∀ wb W g cc g0 k0 g1 k1, Hid (PU W g n cc cs) → Hid (TCU W n2 m2 g0 k0 g1 rs os) → Below (World.heap wb).size wb W → World.cell? wb ⟨0, 0, none⟩ = some (.iface 167 (.agg #[.pointer (some ⟨1, 102, none⟩)])) → Calls Tryz.prog 6 #[.slice (some ⟨g, 0, none⟩) n cc, .agg #[.int .i64 kd, .int .i64 f, .slice (some ⟨g0, 0, none⟩) n2 k0, .slice (some ⟨g1, 0, none⟩) m2 k1], .int .i64 tid, .int .i64 hgt] W fun e w' => ∃ va vc, e = .returned (.agg #[.int .i64 cd, .slice va res.length vc]) ∧ Hid (∃ kv, COwn w' W.heap.size w'.heap.size (.slice va res.length vc) res.length (fun j => res.getD j C0) kv) ∧ Hid (Below W.heap.size W w') ∧ Hid (Below wb.heap.size wb w') := fun wb W g cc g0 k0 g1 k1 h1 h5 h3 _ => by
    obtain ⟨lo, hi, kv, q1, q2, q3⟩ := h1.out
    have := sSpendTx_any lo hi kv n cc (some ⟨g, 0, none⟩) cs n2 k0 m2 k1 (some ⟨g0, 0, none⟩) (some ⟨g1, 0, none⟩) kd f rs os tid hgt W hn3 HKC.out hn4 hm4 h5.out.2.1 h5.out.2.2 HK.out HN.out q1 (by omega) h5.out.1
    rw [HAT.out.1, HAT.out.2] at this
    exact this.mono fun e w' ⟨v, kv', e1, hO, hb⟩ => by
      obtain ⟨va, vc, hv⟩ := own_slice4 hO
      subst hv
      exact ⟨va, vc, e1, ⟨kv', hO⟩, hb, h3.trans (hb.mono h3.size)⟩
  have hIM : ∀ wb W g cc g0 k0 g1 k1, Hid (PU W g n cc cs) → Hid (TCU W n2 m2 g0 k0 g1 rs os) → Below (World.heap wb).size wb W → World.cell? wb ⟨0, 0, none⟩ = some (.iface 167 (.agg #[.pointer (some ⟨1, 102, none⟩)])) → Calls Tryz.prog 9 #[.slice (some ⟨g, 0, none⟩) n cc, .agg #[.int .i64 kd, .int .i64 f, .slice (some ⟨g0, 0, none⟩) n2 k0, .slice (some ⟨g1, 0, none⟩) m2 k1], .int .i64 tid, .int .i64 hgt] W fun e w' => ∃ va vc, e = .returned (.agg #[.int .i64 cd, .slice va res.length vc]) ∧ Hid (∃ kv, COwn w' W.heap.size w'.heap.size (.slice va res.length vc) res.length (fun j => res.getD j C0) kv) ∧ Hid (Below W.heap.size W w') ∧ Hid (Below wb.heap.size wb w') := fun wb W g cc g0 k0 g1 k1 h1 h5 h3 h4 => by
    obtain ⟨lo, hi, kv, q1, q2, q3⟩ := h1.out
    have := iSpendTx_any n cc (some ⟨g, 0, none⟩) cs n2 k0 m2 k1 (some ⟨g0, 0, none⟩) (some ⟨g1, 0, none⟩) kd f rs os tid hgt W (keptG h4 h3) hn3 HKC.out hn4 hm4 h5.out.2.1 h5.out.2.2 HK.out (own_at2 q1 HN.out HKC.out) h5.out.1
    rw [HAT.out.1, HAT.out.2] at this
    exact this.mono fun e w' ⟨v, kv', e1, hO, hb⟩ => by
      obtain ⟨va, vc, hv⟩ := own_slice4 hO
      subst hv
      exact ⟨va, vc, e1, ⟨kv', hO⟩, hb, h3.trans (hb.mono h3.size)⟩
  have HCW : Hid (CAt w2 a n cs) := HT.out.below HB2.out.bel (Nat.le_refl _)
  have HBGw2 : Hid (Below w.heap.size w w2) := HB2.out.bel
  have HGW : Hid (TxAt w2 ia n2 oa m2 rs os) := HB2.out.at HG.out
  have HXW := show Hid (w2.heap[w.heap.size]? = some (.cells #[.int .i64 kd, .int .i64 f, .slice ia n2 ic, .slice oa m2 oc] 26 (0, 0))) from HB2.out.box
  have hTA : ∀ V, Below w2.heap.size w2 V → Calls Tryz.prog 7 #[.slice a n c] V fun e w' => ∃ g cc, e = .returned (.slice (some ⟨g, 0, none⟩) n cc) ∧ Hid (PU w' g n cc cs) ∧ Hid (Below V.heap.size V w') ∧ Hid (Below w2.heap.size w2 w') := fun V hV =>
    (toCsO_any a n c cs V hn3 HKC.out (HCW.out.below hV (Nat.le_refl _))).mono fun e w' ⟨g, cc, kv, h1, h2, _, _, h5⟩ => ⟨g, cc, h1, ⟨_, _, kv, h2, h5.size, Nat.le_refl _⟩, h5, hV.trans (h5.mono hV.size)⟩
  have hTR : ∀ V, Below w2.heap.size w2 V → Calls Tryz.prog 8 #[.agg #[.int .i64 kd, .int .i64 f, .slice ia n2 ic, .slice oa m2 oc]] V fun e w' => ∃ g0 k0 g1 k1, e = .returned (.agg #[.int .i64 kd, .int .i64 f, .slice (some ⟨g0, 0, none⟩) n2 k0, .slice (some ⟨g1, 0, none⟩) m2 k1]) ∧ Hid (TCU w' n2 m2 g0 k0 g1 rs os) ∧ Hid (Below V.heap.size V w') ∧ Hid (Below w2.heap.size w2 w') := fun V hV =>
    (toTxO_any kd f ia oa n2 m2 ic oc rs os V hn4 hm4 HK.out (HGW.out.below hV (Nat.le_refl _))).mono fun e w' ⟨g0, k0, g1, k1, _, _, h1, h2, h5⟩ => ⟨g0, k0, g1, k1, h1, ⟨h2.at HN2.out HM2.out HK.out, h2.caps.1, h2.caps.2⟩, h5, hV.trans (h5.mono hV.size)⟩
  have hgW : w2.cell? ⟨0, 0, none⟩ = some (.iface 167 (.agg #[.pointer (some ⟨1, 102, none⟩)])) := keptG HGE.out HBGw2.out
  have d0 : Below w2.heap.size w2 w2.drew := (Below.refl _ _).drew
  have d1 : Below w2.heap.size w2 (w2.alloc (.cells #[.int .i64 0, .slice none 0 0] 31)).drew := (below_box (.cells #[.int .i64 0, .slice none 0 0] 31)).trans ((Below.refl _ _).drew)
  have HZ0 : Hid (ZAt w2 (w2.alloc (.cells #[.int .i64 0, .slice none 0 0] 31)).drew w2.heap.size) := ⟨Nat.le_refl _, heap_alloc_new _ _⟩
  obtain ⟨bx0, bx1, bx2, bx3, _⟩ := cells4 HXW.out
  have HBX : Hid (w2.cell? ⟨w.heap.size, 0, none⟩ = some (.int .i64 kd) ∧ w2.cell? ⟨w.heap.size, 1, none⟩ = some (.int .i64 f) ∧ w2.cell? ⟨w.heap.size, 2, none⟩ = some (.slice ia n2 ic) ∧ w2.cell? ⟨w.heap.size, 3, none⟩ = some (.slice oa m2 oc)) := ⟨bx0, bx1, bx2, bx3⟩
  have hbl := lt_of_block HXW.out
  go_cut [10] (fun s wc => ∃ R, s = .pointer (some ⟨R, 0, none⟩) ∧ Hid (SRc w2 wc R cd res))
  case first =>
    go_region_held3 (fun w' => w'.cell? ⟨w.heap.size, 0, none⟩ = some (.int .i64 kd) ∧ w'.cell? ⟨w.heap.size, 1, none⟩ = some (.int .i64 f) ∧ w'.cell? ⟨w.heap.size, 2, none⟩ = some (.slice ia n2 ic) ∧ w'.cell? ⟨w.heap.size, 3, none⟩ = some (.slice oa m2 oc)) (first | go_keep | exact keepU4 ⟨xc0, xc1, xc2, xc3⟩ HNE.out)
      (first
        | (go_at_call 7; (first
            | ((with_reducible refine (hTA w2.drew d0).mono ?_); rintro e uA ⟨g, cc, rfl, HPA, HA, HAB⟩; obtain ⟨za0, za1, za2, za3⟩ := cellsU HAB.out hbl HBX.out)
            | ((with_reducible refine (hTA (w2.alloc (.cells #[.int .i64 0, .slice none 0 0] 31)).drew d1).mono ?_); rintro e uA ⟨g, cc, rfl, HPA, HA, HAB⟩; have HZ := hidZ HZ0 HA.out; obtain ⟨za0, za1, za2, za3⟩ := cellsU HAB.out hbl HBX.out)))
        | (go_at_call 8; (first
            | ((with_reducible refine (hTR uA HAB.out).mono ?_); rintro e uB ⟨g0, k0, g1, k1, rfl, HTB, HBu, HBB⟩; have HPB : Hid (PU uB g n cc cs) := hidPU HPA HBu.out; (first | (have hz := HZ; clear HZ; have HZ := hidZ hz HBu.out; clear hz) | skip); obtain ⟨yc0, yc1, yc2, yc3⟩ := cellsU HBB.out hbl HBX.out)
            | ((with_reducible refine (hTR (uA.alloc (.cells #[.int .i64 0, .slice none 0 0] 31)) (HAB.out.trans ((below_box _).mono HAB.out.size))).mono ?_); rintro e uB ⟨g0, k0, g1, k1, rfl, HTB, HBu, HBB⟩; have HPB : Hid (PU uB g n cc cs) := hidPU (hidPU HPA (below_box (.cells #[.int .i64 0, .slice none 0 0] 31))) HBu.out; have HZ := hidZ (zat_new HAB) HBu.out; obtain ⟨yc0, yc1, yc2, yc3⟩ := cellsU HBB.out hbl HBX.out)))
        | (go_at_call 6; (first
            | ((with_reducible refine (hSP w2 uB g cc g0 k0 g1 k1 HPB HTB HBB.out hgW).mono ?_); rintro e uD ⟨va, vc, rfl, HOD, HDu, HDD⟩; obtain ⟨xc0, xc1, xc2, xc3⟩ := cellsU HDD.out hbl HBX.out; (first | (have hz := HZ; have HLT := zlt hz; have HZD := hidZ hz HDu.out; have HNE := zne hbl HZD; obtain ⟨y0, y1⟩ := cells2 HZD.out.blk; have f0 := Joins.unfrozen_of_block HZD.out.blk 0; have f1 := Joins.unfrozen_of_block HZD.out.blk 1) | skip))
            | ((with_reducible refine (hSP w2 (uB.alloc (.cells #[.int .i64 0, .slice none 0 0] 31)) g cc g0 k0 g1 k1 (hidPU HPB (below_box (.cells #[.int .i64 0, .slice none 0 0] 31))) (hidTU HTB (below_box (.cells #[.int .i64 0, .slice none 0 0] 31))) (HBB.out.trans ((below_box _).mono HBB.out.size)) hgW).mono ?_); rintro e uD ⟨va, vc, rfl, HOD, HDu, HDD⟩; obtain ⟨xc0, xc1, xc2, xc3⟩ := cellsU HDD.out hbl HBX.out; have hz := zat_new HBB; have HLT := zlt hz; have HZD := hidZ hz HDu.out; have HNE := zne hbl HZD; obtain ⟨y0, y1⟩ := cells2 HZD.out.blk; have f0 := Joins.unfrozen_of_block HZD.out.blk 0; have f1 := Joins.unfrozen_of_block HZD.out.blk 1))))
    all_goals
      go_wp2
      go_meet
      first
        | exact ⟨_, rfl, src_set HRK.out HOD HDD HZD HLT⟩
        | exact ⟨_, rfl, src_new HRK.out HOD HDD⟩
  case rest =>
    obtain ⟨wq, hwq⟩ : ∃ wq, wq = wc := ⟨_, rfl⟩
    subst hwq
    obtain ⟨R6, hs6, HS6⟩ := hcut
    subst hs6
    obtain ⟨hR6, hB5, va, vc, hb6, hC6⟩ := HS6.out
    have HB5 : Hid (Below w.heap.size w wq) := HB2.out.bel.trans (hB5.mono HB2.out.bel.size)
    have HXQ : Hid (wq.heap[w.heap.size]? = some (.cells #[.int .i64 kd, .int .i64 f, .slice ia n2 ic, .slice oa m2 oc] 26 (0, 0))) := keepb HXW.out hB5
    have HR6 : Hid (wq.heap[R6]? = some (.cells #[.int .i64 cd, .slice va res.length vc] 31 (0, 0))) := hb6
    have HC6 : Hid (CAt wq va res.length res) := hC6
    clear hR6 hB5 hb6 hC6 HS6 hTA hTR hgW d0 d1 HZ0 bx0 bx1 bx2 bx3 HBX hbl HCW HGW HXW
    have hx6 := toCsO_any a n c cs wq hn3 HKC.out (HT.out.below HB5.out (Nat.le_refl _))
    go_wp2_with (first
      | (go_at_call 7; have hq := hx6; clear hx6; (with_reducible refine hq.mono ?_); clear hq; rintro e w7 ⟨gx, cx, kvx, rfl, hrow, _, _, hb7⟩; have HOX7 : Hid (COwn w7 wq.heap.size w7.heap.size (.slice (some ⟨gx, 0, none⟩) n cx) n (fun j => cs.getD j C0) kvx) := hrow; have HB7 : Hid (Below w.heap.size w w7) := HB5.out.trans (hb7.mono HB5.out.size); have HW7 : Hid (Below wq.heap.size wq w7) := hb7; have HS7 : Hid (wq.heap.size ≤ w7.heap.size) := hb7.size; obtain ⟨p0, p1, p2, p3, _⟩ := cells4 ((HW7.out.block w.heap.size (lt_of_block HXQ.out)).trans HXQ.out); have h7 := toTxO_any kd f ia oa n2 m2 ic oc rs os w7 hn4 hm4 HK.out (HG.out.below HB7.out (Nat.le_refl _)); clear hrow hb7)
      | (go_at_call 8; have hq := h7; clear h7; (with_reducible refine hq.mono ?_); clear hq; rintro e w8 ⟨g0, k0, g1, k1, mid, kv, rfl, hto, hb8⟩; have HTOw : Hid (TOwn w8 w7.heap.size mid w8.heap.size n2 m2 g0 k0 g1 k1 rs os kv) := hto; have hbz : Below w7.heap.size w7 (w8.alloc (.cells #[.int .i64 kd, .int .i64 f, .slice (some ⟨g0, 0, none⟩) n2 k0, .slice (some ⟨g1, 0, none⟩) m2 k1] 37)) := hb8.trans ((below_box _).mono hb8.size); have HS8 : Hid (w7.heap.size ≤ w8.heap.size) := hb8.size; have HB8 : Hid (Below w.heap.size w (w8.alloc (.cells #[.int .i64 kd, .int .i64 f, .slice (some ⟨g0, 0, none⟩) n2 k0, .slice (some ⟨g1, 0, none⟩) m2 k1] 37))) := HB7.out.trans (hbz.mono HB7.out.size); have HW8 : Hid (Below wq.heap.size wq (w8.alloc (.cells #[.int .i64 kd, .int .i64 f, .slice (some ⟨g0, 0, none⟩) n2 k0, .slice (some ⟨g1, 0, none⟩) m2 k1] 37))) := HW7.out.trans (hbz.mono HW7.out.size); have HOX8 : Hid (COwn (w8.alloc (.cells #[.int .i64 kd, .int .i64 f, .slice (some ⟨g0, 0, none⟩) n2 k0, .slice (some ⟨g1, 0, none⟩) m2 k1] 37)) wq.heap.size w7.heap.size (.slice (some ⟨gx, 0, none⟩) n cx) n (fun j => cs.getD j C0) kvx) := HOX7.out.below hbz; have HTO8 : Hid (TOwn (w8.alloc (.cells #[.int .i64 kd, .int .i64 f, .slice (some ⟨g0, 0, none⟩) n2 k0, .slice (some ⟨g1, 0, none⟩) m2 k1] 37)) w7.heap.size mid w8.heap.size n2 m2 g0 k0 g1 k1 rs os kv) := HTOw.out.below (below_box _); have HXB8 : Hid ((w8.alloc (.cells #[.int .i64 kd, .int .i64 f, .slice (some ⟨g0, 0, none⟩) n2 k0, .slice (some ⟨g1, 0, none⟩) m2 k1] 37)).heap[w8.heap.size]? = some (.cells #[.int .i64 kd, .int .i64 f, .slice (some ⟨g0, 0, none⟩) n2 k0, .slice (some ⟨g1, 0, none⟩) m2 k1] 37 (0, 0))) := heap_alloc_new _ _; have h8 := hIM (w8.alloc (.cells #[.int .i64 kd, .int .i64 f, .slice (some ⟨g0, 0, none⟩) n2 k0, .slice (some ⟨g1, 0, none⟩) m2 k1] 37)) (w8.alloc (.cells #[.int .i64 kd, .int .i64 f, .slice (some ⟨g0, 0, none⟩) n2 k0, .slice (some ⟨g1, 0, none⟩) m2 k1] 37)) gx cx g0 k0 g1 k1 ⟨_, _, kvx, HOX8.out, HS7.out, (by have := HS8.out; simp; omega)⟩ ⟨HTO8.out.at HN2.out HM2.out HK.out, HTO8.out.caps.1, HTO8.out.caps.2⟩ (Below.refl _ _) (keptG HGE.out HB8.out); clear hto hb8 hbz p0 p1 p2 p3)
      | (go_at_call 9; have hq := h8; clear h8; (with_reducible refine hq.mono ?_); clear hq; rintro e w9 ⟨ga, gc, rfl, HOG0, HBG, _⟩; obtain ⟨kvg, hOg⟩ := HOG0.out; clear HOG0; have hbz : Below (w8.alloc (.cells #[.int .i64 kd, .int .i64 f, .slice (some ⟨g0, 0, none⟩) n2 k0, .slice (some ⟨g1, 0, none⟩) m2 k1] 37)).heap.size (w8.alloc (.cells #[.int .i64 kd, .int .i64 f, .slice (some ⟨g0, 0, none⟩) n2 k0, .slice (some ⟨g1, 0, none⟩) m2 k1] 37)) (w9.alloc (.cells #[.int .i64 cd, .slice ga res.length gc] 31)) := HBG.out.trans ((below_box (.cells #[.int .i64 cd, .slice ga res.length gc] 31)).mono HBG.out.size); have HS9 : Hid ((w8.alloc (.cells #[.int .i64 kd, .int .i64 f, .slice (some ⟨g0, 0, none⟩) n2 k0, .slice (some ⟨g1, 0, none⟩) m2 k1] 37)).heap.size ≤ w9.heap.size) := HBG.out.size; have HB9 : Hid (Below w.heap.size w (w9.alloc (.cells #[.int .i64 cd, .slice ga res.length gc] 31))) := HB8.out.trans (hbz.mono HB8.out.size); have HW9 : Hid (Below wq.heap.size wq (w9.alloc (.cells #[.int .i64 cd, .slice ga res.length gc] 31))) := HW8.out.trans (hbz.mono HW8.out.size); have HOX9 : Hid (COwn (w9.alloc (.cells #[.int .i64 cd, .slice ga res.length gc] 31)) wq.heap.size w7.heap.size (.slice (some ⟨gx, 0, none⟩) n cx) n (fun j => cs.getD j C0) kvx) := HOX8.out.below hbz; have HTO9 : Hid (TOwn (w9.alloc (.cells #[.int .i64 cd, .slice ga res.length gc] 31)) w7.heap.size mid w8.heap.size n2 m2 g0 k0 g1 k1 rs os kv) := HTO8.out.below hbz; have HXB9 : Hid ((w9.alloc (.cells #[.int .i64 cd, .slice ga res.length gc] 31)).heap[w8.heap.size]? = some (.cells #[.int .i64 kd, .int .i64 f, .slice (some ⟨g0, 0, none⟩) n2 k0, .slice (some ⟨g1, 0, none⟩) m2 k1] 37 (0, 0))) := keepb HXB8.out hbz; have HR9 : Hid ((w9.alloc (.cells #[.int .i64 cd, .slice ga res.length gc] 31)).heap[w9.heap.size]? = some (.cells #[.int .i64 cd, .slice ga res.length gc] 31 (0, 0))) := heap_alloc_new _ _; have HOG9 : Hid (COwn (w9.alloc (.cells #[.int .i64 cd, .slice ga res.length gc] 31)) (w8.alloc (.cells #[.int .i64 kd, .int .i64 f, .slice (some ⟨g0, 0, none⟩) n2 k0, .slice (some ⟨g1, 0, none⟩) m2 k1] 37)).heap.size w9.heap.size (.slice ga res.length gc) res.length (fun j => res.getD j C0) kvg) := hOg.below (below_box _); obtain ⟨y2, y3⟩ := cells2 ((HW9.out.block R6 (lt_of_block HR6.out)).trans HR6.out); have h9 := eqCR_any cd ga va res.length gc vc res (w9.alloc (.cells #[.int .i64 cd, .slice ga res.length gc] 31)) hrl HRK.out (own_at2 HOG9.out rfl HRK.out) (HC6.out.below HW9.out (Nat.le_refl _)); clear hbz hOg)
      | (go_at_call 10; have hq := h9; clear h9; (with_reducible refine hq.mono ?_); clear hq; rintro e w10 ⟨rfl, hb10⟩; have HB10 : Hid (Below w.heap.size w w10) := HB9.out.trans (hb10.mono HB9.out.size); have HW10 : Hid (Below wq.heap.size wq w10) := HW9.out.trans (hb10.mono HW9.out.size); have HOX10 : Hid (COwn w10 wq.heap.size w7.heap.size (.slice (some ⟨gx, 0, none⟩) n cx) n (fun j => cs.getD j C0) kvx) := HOX9.out.below hb10; have HTO10 : Hid (TOwn w10 w7.heap.size mid w8.heap.size n2 m2 g0 k0 g1 k1 rs os kv) := HTO9.out.below hb10; have HXB10 : Hid (w10.heap[w8.heap.size]? = some (.cells #[.int .i64 kd, .int .i64 f, .slice (some ⟨g0, 0, none⟩) n2 k0, .slice (some ⟨g1, 0, none⟩) m2 k1] 37 (0, 0))) := keepb HXB9.out hb10; have HR10 : Hid (w10.heap[w9.heap.size]? = some (.cells #[.int .i64 cd, .slice ga res.length gc] 31 (0, 0))) := keepb HR9.out hb10; have HOG10 : Hid (COwn w10 (w8.alloc (.cells #[.int .i64 kd, .int .i64 f, .slice (some ⟨g0, 0, none⟩) n2 k0, .slice (some ⟨g1, 0, none⟩) m2 k1] 37)).heap.size w9.heap.size (.slice ga res.length gc) res.length (fun j => res.getD j C0) kvg) := HOG9.out.below hb10; clear y2 y3; have h10 := toCs_any a n c cs w10 hn3 HKC.out (HT.out.below HB10.out (Nat.le_refl _)); clear hb10)
      | (go_at_call 7; have hq := h10; clear h10; (with_reducible refine hq.mono ?_); clear hq; rintro e w11 ⟨g11, c11, rfl, hrow, _, _, hb11⟩; have HB11 : Hid (Below w.heap.size w w11) := HB10.out.trans (hb11.mono HB10.out.size); have HW11 : Hid (Below wq.heap.size wq w11) := HW10.out.trans (hb11.mono HW10.out.size); have HOX11 : Hid (COwn w11 wq.heap.size w7.heap.size (.slice (some ⟨gx, 0, none⟩) n cx) n (fun j => cs.getD j C0) kvx) := HOX10.out.below hb11; have HTO11 : Hid (TOwn w11 w7.heap.size mid w8.heap.size n2 m2 g0 k0 g1 k1 rs os kv) := HTO10.out.below hb11; have HXB11 : Hid (w11.heap[w8.heap.size]? = some (.cells #[.int .i64 kd, .int .i64 f, .slice (some ⟨g0, 0, none⟩) n2 k0, .slice (some ⟨g1, 0, none⟩) m2 k1] 37 (0, 0))) := keepb HXB10.out hb11; have HR11 : Hid (w11.heap[w9.heap.size]? = some (.cells #[.int .i64 cd, .slice ga res.length gc] 31 (0, 0))) := keepb HR10.out hb11; have HOG11 : Hid (COwn w11 (w8.alloc (.cells #[.int .i64 kd, .int .i64 f, .slice (some ⟨g0, 0, none⟩) n2 k0, .slice (some ⟨g1, 0, none⟩) m2 k1] 37)).heap.size w9.heap.size (.slice ga res.length gc) res.length (fun j => res.getD j C0) kvg) := HOG10.out.below hb11; have h11 := eqCs_any (some ⟨gx, 0, none⟩) (some ⟨g11, 0, none⟩) n cx c11 cs w11 hn3 HKC.out (own_at2 HOX11.out HN.out HKC.out) hrow.at; clear hrow hb11)
      | (go_at_call 11; have hq := h11; clear h11; (with_reducible refine hq.mono ?_); clear hq; rintro e w12 ⟨rfl, hb12⟩; have HB12 : Hid (Below w.heap.size w w12) := HB11.out.trans (hb12.mono HB11.out.size); have HW12 : Hid (Below wq.heap.size wq w12) := HW11.out.trans (hb12.mono HW11.out.size); have HOX12 : Hid (COwn w12 wq.heap.size w7.heap.size (.slice (some ⟨gx, 0, none⟩) n cx) n (fun j => cs.getD j C0) kvx) := HOX11.out.below hb12; have HTO12 : Hid (TOwn w12 w7.heap.size mid w8.heap.size n2 m2 g0 k0 g1 k1 rs os kv) := HTO11.out.below hb12; have HXB12 : Hid (w12.heap[w8.heap.size]? = some (.cells #[.int .i64 kd, .int .i64 f, .slice (some ⟨g0, 0, none⟩) n2 k0, .slice (some ⟨g1, 0, none⟩) m2 k1] 37 (0, 0))) := keepb HXB11.out hb12; have HR12 : Hid (w12.heap[w9.heap.size]? = some (.cells #[.int .i64 cd, .slice ga res.length gc] 31 (0, 0))) := keepb HR11.out hb12; have HOG12 : Hid (COwn w12 (w8.alloc (.cells #[.int .i64 kd, .int .i64 f, .slice (some ⟨g0, 0, none⟩) n2 k0, .slice (some ⟨g1, 0, none⟩) m2 k1] 37)).heap.size w9.heap.size (.slice ga res.length gc) res.length (fun j => res.getD j C0) kvg) := HOG11.out.below hb12; clear hb12))
    obtain ⟨p0, p1, p2, p3, _⟩ := cells4 ((HW12.out.block w.heap.size (lt_of_block HXQ.out)).trans HXQ.out)
    obtain ⟨x0, x1, x2, x3, _⟩ := cells4 HXB12.out
    have hl4 := lt_of_block HXB12.out
    have hl0 := Nat.lt_of_lt_of_le (lt_of_block HXQ.out) HW12.out.size
    have hto : Calls Tryz.prog 8 #[.agg #[.int .i64 kd, .int .i64 f, .slice ia n2 ic, .slice oa m2 oc]] w12.drew fun e w' => ∃ g0 k0 g1 k1, e = .returned (.agg #[.int .i64 kd, .int .i64 f, .slice (some ⟨g0, 0, none⟩) n2 k0, .slice (some ⟨g1, 0, none⟩) m2 k1]) ∧ Hid (TCU w' n2 m2 g0 k0 g1 rs os) ∧ Below w12.heap.size w12 w' :=
      (toTxO_any kd f ia oa n2 m2 ic oc rs os w12.drew hn4 hm4 HK.out ((HG.out.below HB12.out (Nat.le_refl _)).below (Below.refl _ _).drew (Nat.le_refl _))).mono fun e w' ⟨g0, k0, g1, k1, _, _, h1, h2, h5⟩ => ⟨g0, k0, g1, k1, h1, ⟨h2.at HN2.out HM2.out HK.out, h2.caps.1, h2.caps.2⟩, (Below.refl _ _).drew.trans h5⟩
    go_region_held3 (fun w' => (w'.cell? ⟨w8.heap.size, 0, none⟩ = some (.int .i64 kd) ∧ w'.cell? ⟨w8.heap.size, 1, none⟩ = some (.int .i64 f) ∧ w'.cell? ⟨w8.heap.size, 2, none⟩ = some (.slice (some ⟨g0, 0, none⟩) n2 k0) ∧ w'.cell? ⟨w8.heap.size, 3, none⟩ = some (.slice (some ⟨g1, 0, none⟩) m2 k1)) ∧ w'.cell? ⟨w.heap.size, 0, none⟩ = some (.int .i64 kd) ∧ w'.cell? ⟨w.heap.size, 1, none⟩ = some (.int .i64 f) ∧ w'.cell? ⟨w.heap.size, 2, none⟩ = some (.slice ia n2 ic) ∧ w'.cell? ⟨w.heap.size, 3, none⟩ = some (.slice oa m2 oc)) (go_keep)
      (first
        | (go_at_call 8; (with_reducible refine hto.mono ?_); rintro e w13 ⟨h0, l0, h1, l1, rfl, HT13, hb13⟩; obtain ⟨z0, z1, z2, z3⟩ := keepF hl4 hb13 ⟨x0, x1, x2, x3⟩; obtain ⟨z4, z5, z6, z7⟩ := keepF hl0 hb13 ⟨p0, p1, p2, p3⟩)
        | (go_at_call 12; refine (eqTx_any kd f _ _ _ _ n2 m2 k0 l0 k1 l1 rs os _ hn4 hm4 HK.out ((HTO12.out.at HN2.out HM2.out HK.out).below hb13 (Nat.le_refl _)) HT13.out.1).mono ?_; rintro e w14 ⟨rfl, hb14⟩; have hs6 := hb13.size; obtain ⟨y0, y1, y2, y3⟩ := keepF (Nat.lt_of_lt_of_le hl4 hs6) hb14 ⟨z0, z1, z2, z3⟩; obtain ⟨y4, y5, y6, y7⟩ := keepF (Nat.lt_of_lt_of_le hl0 hs6) hb14 ⟨z4, z5, z6, z7⟩))
    have hbz : Below w12.heap.size w12 w14 := hb13.trans (hb14.mono hb13.size)
    have HB14 : Hid (Below w.heap.size w w14) := HB12.out.trans (hbz.mono HB12.out.size)
    have HW14 : Hid (Below wq.heap.size wq w14) := HW12.out.trans (hbz.mono HW12.out.size)
    have HOX14 : Hid (COwn w14 wq.heap.size w7.heap.size (.slice (some ⟨gx, 0, none⟩) n cx) n (fun j => cs.getD j C0) kvx) := HOX12.out.below hbz
    have HTO14 : Hid (TOwn w14 w7.heap.size mid w8.heap.size n2 m2 g0 k0 g1 k1 rs os kv) := HTO12.out.below hbz
    have HXB14 : Hid (w14.heap[w8.heap.size]? = some (.cells #[.int .i64 kd, .int .i64 f, .slice (some ⟨g0, 0, none⟩) n2 k0, .slice (some ⟨g1, 0, none⟩) m2 k1] 37 (0, 0))) := keepb HXB12.out hbz
    have HR14 : Hid (w14.heap[w9.heap.size]? = some (.cells #[.int .i64 cd, .slice ga res.length gc] 31 (0, 0))) := keepb HR12.out hbz
    have HOG14 : Hid (COwn w14 (w8.alloc (.cells #[.int .i64 kd, .int .i64 f, .slice (some ⟨g0, 0, none⟩) n2 k0, .slice (some ⟨g1, 0, none⟩) m2 k1] 37)).heap.size w9.heap.size (.slice ga res.length gc) res.length (fun j => res.getD j C0) kvg) := HOG12.out.below hbz
    clear hbz hb13 hb14 x0 x1 x2 x3 p0 p1 p2 p3 z0 z1 z2 z3 z4 z5 z6 z7 y0 y1 y2 y3 y4 y5 y6 y7 hto hl4 hl0 hs6 HT13
    obtain ⟨K1, hK1⟩ : ∃ K, K = kAt 1 (fun j => cs.getD j C0) n := ⟨_, rfl⟩
    obtain ⟨M, hM⟩ : ∃ K, K = kAt 1 (fun j => res.getD j C0) res.length := ⟨_, rfl⟩
    have hK1b : K1 ≤ 10000000000000 := by have := kAt_le (k := 1) (f := (fun j => cs.getD j C0)) (n := n) HKC.out n (Nat.le_refl _); rw [← hK1] at this; omega
    have hMb : M ≤ 10000000000000 := by have := kAt_le (k := 1) (f := (fun j => res.getD j C0)) (n := res.length) HRK.out res.length (Nat.le_refl _); rw [← hM] at this; omega
    have HK1 : Hid (kAt 1 (fun j => cs.getD j C0) n = K1) := hK1.symm
    have HM : Hid (kAt 1 (fun j => res.getD j C0) res.length = M) := hM.symm
    have d2 : decide ((M : Int) < 0) = false := decide_eq_false (by omega)
    have d4 : ¬ (M : Int) < 0 := by omega
    clear hK1 hM
    have h16 := mkU1 HK1.out (markCs_any (.slice (some ⟨gx, 0, none⟩) n cx) n wq.heap.size w7.heap.size 1 (fun j => cs.getD j C0) kvx w14 hn3 HKC.out (by omega) HOX14.out)
    go_wp2_with (first
      | (go_at_call 13; have hq := h16; clear h16; (with_reducible refine hq.mono ?_); clear hq; rintro e w17 ⟨rfl, _, hch⟩; have HB17 : Hid (Below w.heap.size w w17) := HB14.out.trans (hch.below HB5.out.size HB14.out.size); have HW17 : Hid (Below wq.heap.size wq w17) := HW14.out.trans (hch.below (Nat.le_refl _) HW14.out.size); have HTO17 : Hid (TOwn w17 w7.heap.size mid w8.heap.size n2 m2 g0 k0 g1 k1 rs os kv) := HTO14.out.chg hch (.inr (Nat.le_refl _)); have HXB17 : Hid (w17.heap[w8.heap.size]? = some (.cells #[.int .i64 kd, .int .i64 f, .slice (some ⟨g0, 0, none⟩) n2 k0, .slice (some ⟨g1, 0, none⟩) m2 k1] 37 (0, 0))) := hch.keep HXB14.out (.inr HS8.out); have HR17 : Hid (w17.heap[w9.heap.size]? = some (.cells #[.int .i64 cd, .slice ga res.length gc] 31 (0, 0))) := hch.keep HR14.out (.inr (by have := HS8.out; have := HS9.out; simp at this; omega)); have HOG17 : Hid (COwn w17 (w8.alloc (.cells #[.int .i64 kd, .int .i64 f, .slice (some ⟨g0, 0, none⟩) n2 k0, .slice (some ⟨g1, 0, none⟩) m2 k1] 37)).heap.size w9.heap.size (.slice ga res.length gc) res.length (fun j => res.getD j C0) kvg) := HOG14.out.chg hch (.inr (by have := HS8.out; simp; omega)); obtain ⟨x0, x1, x2, x3, _⟩ := cells4 HXB17.out; have h17 := markTx_any kd f n2 m2 k0 k1 g0 g1 w7.heap.size mid w8.heap.size K1 rs os kv w17 hK1b hn4 hm4 HK.out (Nat.le_of_lt (lt_of_block HXB17.out)) HTO17.out; clear hch)
      | (go_at_call 14; have hq := h17; clear h17; (with_reducible refine hq.mono ?_); clear hq; rintro e w19 ⟨K3, rfl, hK3, hch⟩; clear x0 x1 x2 x3; have d1 : decide ((K3 : Int) < 0) = false := decide_eq_false (by omega); have d3 : ¬ (K3 : Int) < 0 := (by omega); clear hK3; have HB19 : Hid (Below w.heap.size w w19) := HB17.out.trans (hch.below HB7.out.size HB17.out.size); have HW19 : Hid (Below wq.heap.size wq w19) := HW17.out.trans (hch.below HS7.out HW17.out.size); have HR19 : Hid (w19.heap[w9.heap.size]? = some (.cells #[.int .i64 cd, .slice ga res.length gc] 31 (0, 0))) := hch.keep HR17.out (.inr (by have := HS9.out; simp at this; omega)); have HOG19 : Hid (COwn w19 (w8.alloc (.cells #[.int .i64 kd, .int .i64 f, .slice (some ⟨g0, 0, none⟩) n2 k0, .slice (some ⟨g1, 0, none⟩) m2 k1] 37)).heap.size w9.heap.size (.slice ga res.length gc) res.length (fun j => res.getD j C0) kvg) := HOG17.out.chg hch (.inr (by simp)); obtain ⟨y0, y1⟩ := cells2 HR19.out; obtain ⟨y2, y3⟩ := cells2 ((HW19.out.block R6 (lt_of_block HR6.out)).trans HR6.out); have h19 := eqCR_any cd ga va res.length gc vc res w19 hrl HRK.out (own_at2 HOG19.out rfl HRK.out) (HC6.out.below HW19.out (Nat.le_refl _)); clear hch)
      | (go_at_call 10; have hq := h19; clear h19; (with_reducible refine hq.mono ?_); clear hq; rintro e w20 ⟨rfl, hb20⟩; have HB20 : Hid (Below w.heap.size w w20) := HB19.out.trans (hb20.mono HB19.out.size); have HW20 : Hid (Below wq.heap.size wq w20) := HW19.out.trans (hb20.mono HW19.out.size); have HR20 : Hid (w20.heap[w9.heap.size]? = some (.cells #[.int .i64 cd, .slice ga res.length gc] 31 (0, 0))) := keepb HR19.out hb20; have HOG20 : Hid (COwn w20 (w8.alloc (.cells #[.int .i64 kd, .int .i64 f, .slice (some ⟨g0, 0, none⟩) n2 k0, .slice (some ⟨g1, 0, none⟩) m2 k1] 37)).heap.size w9.heap.size (.slice ga res.length gc) res.length (fun j => res.getD j C0) kvg) := HOG19.out.below hb20; clear y0 y1 y2 y3; obtain ⟨y0, y1⟩ := cells2 HR20.out; have h20 := mkU1 HM.out (markCR_any (.slice ga res.length gc) cd res.length (w8.alloc (.cells #[.int .i64 kd, .int .i64 f, .slice (some ⟨g0, 0, none⟩) n2 k0, .slice (some ⟨g1, 0, none⟩) m2 k1] 37)).heap.size w9.heap.size 1 (fun j => res.getD j C0) kvg w20 hrl HRK.out (by omega) (Nat.le_of_lt (lt_of_block HR20.out)) HOG20.out); clear hb20)
      | (go_at_call 15; have hq := h20; clear h20; (with_reducible refine hq.mono ?_); clear hq; rintro e w21 ⟨rfl, hO21, hch⟩; have HB21 : Hid (Below w.heap.size w w21) := HB20.out.trans (hch.below HB8.out.size HB20.out.size); have HW21 : Hid (Below wq.heap.size wq w21) := HW20.out.trans (hch.below HW8.out.size HW20.out.size); have HR21 : Hid (w21.heap[w9.heap.size]? = some (.cells #[.int .i64 cd, .slice ga res.length gc] 31 (0, 0))) := hch.keep HR20.out (.inr (Nat.le_refl _)); have HOG21 : Hid (COwn w21 (w8.alloc (.cells #[.int .i64 kd, .int .i64 f, .slice (some ⟨g0, 0, none⟩) n2 k0, .slice (some ⟨g1, 0, none⟩) m2 k1] 37)).heap.size w9.heap.size (.slice ga res.length gc) res.length (mkF 1 (fun j => res.getD j C0)) kvg) := hO21; clear y0 y1; obtain ⟨y0, y1⟩ := cells2 HR21.out; have h21 := mkU1 HM.out (heldCR_any (.slice ga res.length gc) cd res.length (w8.alloc (.cells #[.int .i64 kd, .int .i64 f, .slice (some ⟨g0, 0, none⟩) n2 k0, .slice (some ⟨g1, 0, none⟩) m2 k1] 37)).heap.size w9.heap.size 1 (fun j => res.getD j C0) kvg w21 hrl HRK.out (by omega) HOG21.out); clear hch hO21)
      | (go_at_call 16; have hq := h21; clear h21; (with_reducible refine hq.mono ?_); clear hq; rintro e w22 ⟨rfl, hb22⟩; have HB22 : Hid (Below w.heap.size w w22) := HB21.out.trans (hb22.mono HB21.out.size); have HW22 : Hid (Below wq.heap.size wq w22) := HW21.out.trans (hb22.mono HW21.out.size); have HR22 : Hid (w22.heap[w9.heap.size]? = some (.cells #[.int .i64 cd, .slice ga res.length gc] 31 (0, 0))) := keepb HR21.out hb22; have HOG22 : Hid (COwn w22 (w8.alloc (.cells #[.int .i64 kd, .int .i64 f, .slice (some ⟨g0, 0, none⟩) n2 k0, .slice (some ⟨g1, 0, none⟩) m2 k1] 37)).heap.size w9.heap.size (.slice ga res.length gc) res.length (mkF 1 (fun j => res.getD j C0)) kvg) := HOG21.out.below hb22; clear y0 y1 hb22))
    have HCW : Hid (CAt w22 a n cs) := HT.out.below HB22.out (Nat.le_refl _)
    have HBGw22 : Hid (Below w.heap.size w w22) := HB22.out
    have HGW : Hid (TxAt w22 ia n2 oa m2 rs os) := HG.out.below HB22.out (Nat.le_refl _)
    have HXW : Hid (w22.heap[w.heap.size]? = some (.cells #[.int .i64 kd, .int .i64 f, .slice ia n2 ic, .slice oa m2 oc] 26 (0, 0))) := (HW22.out.block w.heap.size (lt_of_block HXQ.out)).trans HXQ.out
    have hTA : ∀ V, Below w22.heap.size w22 V → Calls Tryz.prog 7 #[.slice a n c] V fun e w' => ∃ g cc, e = .returned (.slice (some ⟨g, 0, none⟩) n cc) ∧ Hid (PU w' g n cc cs) ∧ Hid (Below V.heap.size V w') ∧ Hid (Below w22.heap.size w22 w') := fun V hV =>
      (toCsO_any a n c cs V hn3 HKC.out (HCW.out.below hV (Nat.le_refl _))).mono fun e w' ⟨g, cc, kv, h1, h2, _, _, h5⟩ => ⟨g, cc, h1, ⟨_, _, kv, h2, h5.size, Nat.le_refl _⟩, h5, hV.trans (h5.mono hV.size)⟩
    have hTR : ∀ V, Below w22.heap.size w22 V → Calls Tryz.prog 8 #[.agg #[.int .i64 kd, .int .i64 f, .slice ia n2 ic, .slice oa m2 oc]] V fun e w' => ∃ g0 k0 g1 k1, e = .returned (.agg #[.int .i64 kd, .int .i64 f, .slice (some ⟨g0, 0, none⟩) n2 k0, .slice (some ⟨g1, 0, none⟩) m2 k1]) ∧ Hid (TCU w' n2 m2 g0 k0 g1 rs os) ∧ Hid (Below V.heap.size V w') ∧ Hid (Below w22.heap.size w22 w') := fun V hV =>
      (toTxO_any kd f ia oa n2 m2 ic oc rs os V hn4 hm4 HK.out (HGW.out.below hV (Nat.le_refl _))).mono fun e w' ⟨g0, k0, g1, k1, _, _, h1, h2, h5⟩ => ⟨g0, k0, g1, k1, h1, ⟨h2.at HN2.out HM2.out HK.out, h2.caps.1, h2.caps.2⟩, h5, hV.trans (h5.mono hV.size)⟩
    have hgW : w22.cell? ⟨0, 0, none⟩ = some (.iface 167 (.agg #[.pointer (some ⟨1, 102, none⟩)])) := keptG HGE.out HBGw22.out
    have d0 : Below w22.heap.size w22 w22.drew := (Below.refl _ _).drew
    have d1 : Below w22.heap.size w22 (w22.alloc (.cells #[.int .i64 0, .slice none 0 0] 31)).drew := (below_box (.cells #[.int .i64 0, .slice none 0 0] 31)).trans ((Below.refl _ _).drew)
    have HZ0 : Hid (ZAt w22 (w22.alloc (.cells #[.int .i64 0, .slice none 0 0] 31)).drew w22.heap.size) := ⟨Nat.le_refl _, heap_alloc_new _ _⟩
    obtain ⟨bx0, bx1, bx2, bx3, _⟩ := cells4 HXW.out
    have HBX : Hid (w22.cell? ⟨w.heap.size, 0, none⟩ = some (.int .i64 kd) ∧ w22.cell? ⟨w.heap.size, 1, none⟩ = some (.int .i64 f) ∧ w22.cell? ⟨w.heap.size, 2, none⟩ = some (.slice ia n2 ic) ∧ w22.cell? ⟨w.heap.size, 3, none⟩ = some (.slice oa m2 oc)) := ⟨bx0, bx1, bx2, bx3⟩
    have hbl := lt_of_block HXW.out
    go_cut [17] (fun s wc => ∃ R, s = .pointer (some ⟨R, 0, none⟩) ∧ Hid (SRc w22 wc R cd res))
    case first =>
      go_region_held3 (fun w' => w'.cell? ⟨w.heap.size, 0, none⟩ = some (.int .i64 kd) ∧ w'.cell? ⟨w.heap.size, 1, none⟩ = some (.int .i64 f) ∧ w'.cell? ⟨w.heap.size, 2, none⟩ = some (.slice ia n2 ic) ∧ w'.cell? ⟨w.heap.size, 3, none⟩ = some (.slice oa m2 oc)) (first | go_keep | exact keepU4 ⟨xc0, xc1, xc2, xc3⟩ HNE.out)
        (first
          | (go_at_call 7; (first
              | ((with_reducible refine (hTA w22.drew d0).mono ?_); rintro e uA ⟨g, cc, rfl, HPA, HA, HAB⟩; obtain ⟨za0, za1, za2, za3⟩ := cellsU HAB.out hbl HBX.out)
              | ((with_reducible refine (hTA (w22.alloc (.cells #[.int .i64 0, .slice none 0 0] 31)).drew d1).mono ?_); rintro e uA ⟨g, cc, rfl, HPA, HA, HAB⟩; have HZ := hidZ HZ0 HA.out; obtain ⟨za0, za1, za2, za3⟩ := cellsU HAB.out hbl HBX.out)))
          | (go_at_call 8; (first
              | ((with_reducible refine (hTR uA HAB.out).mono ?_); rintro e uB ⟨g0, k0, g1, k1, rfl, HTB, HBu, HBB⟩; have HPB : Hid (PU uB g n cc cs) := hidPU HPA HBu.out; (first | (have hz := HZ; clear HZ; have HZ := hidZ hz HBu.out; clear hz) | skip); obtain ⟨yc0, yc1, yc2, yc3⟩ := cellsU HBB.out hbl HBX.out)
              | ((with_reducible refine (hTR (uA.alloc (.cells #[.int .i64 0, .slice none 0 0] 31)) (HAB.out.trans ((below_box _).mono HAB.out.size))).mono ?_); rintro e uB ⟨g0, k0, g1, k1, rfl, HTB, HBu, HBB⟩; have HPB : Hid (PU uB g n cc cs) := hidPU (hidPU HPA (below_box (.cells #[.int .i64 0, .slice none 0 0] 31))) HBu.out; have HZ := hidZ (zat_new HAB) HBu.out; obtain ⟨yc0, yc1, yc2, yc3⟩ := cellsU HBB.out hbl HBX.out)))
          | (go_at_call 9; (first
              | ((with_reducible refine (hIM w22 uB g cc g0 k0 g1 k1 HPB HTB HBB.out hgW).mono ?_); rintro e uD ⟨va, vc, rfl, HOD, HDu, HDD⟩; obtain ⟨xc0, xc1, xc2, xc3⟩ := cellsU HDD.out hbl HBX.out; (first | (have hz := HZ; have HLT := zlt hz; have HZD := hidZ hz HDu.out; have HNE := zne hbl HZD; obtain ⟨y0, y1⟩ := cells2 HZD.out.blk; have f0 := Joins.unfrozen_of_block HZD.out.blk 0; have f1 := Joins.unfrozen_of_block HZD.out.blk 1) | skip))
              | ((with_reducible refine (hIM w22 (uB.alloc (.cells #[.int .i64 0, .slice none 0 0] 31)) g cc g0 k0 g1 k1 (hidPU HPB (below_box (.cells #[.int .i64 0, .slice none 0 0] 31))) (hidTU HTB (below_box (.cells #[.int .i64 0, .slice none 0 0] 31))) (HBB.out.trans ((below_box _).mono HBB.out.size)) hgW).mono ?_); rintro e uD ⟨va, vc, rfl, HOD, HDu, HDD⟩; obtain ⟨xc0, xc1, xc2, xc3⟩ := cellsU HDD.out hbl HBX.out; have hz := zat_new HBB; have HLT := zlt hz; have HZD := hidZ hz HDu.out; have HNE := zne hbl HZD; obtain ⟨y0, y1⟩ := cells2 HZD.out.blk; have f0 := Joins.unfrozen_of_block HZD.out.blk 0; have f1 := Joins.unfrozen_of_block HZD.out.blk 1))))
      all_goals
        go_wp2
        go_meet
        first
          | exact ⟨_, rfl, src_set HRK.out HOD HDD HZD HLT⟩
          | exact ⟨_, rfl, src_new HRK.out HOD HDD⟩
    case rest =>
      obtain ⟨R12, hs12, HS12⟩ := hcut
      subst hs12
      obtain ⟨hR12, hB12', vb, vd, hb12, hC12⟩ := HS12.out
      have HB24 : Hid (Below w.heap.size w wc) := HB22.out.trans (hB12'.mono HB22.out.size)
      have HW24 : Hid (Below wq.heap.size wq wc) := HW22.out.trans (hB12'.mono HW22.out.size)
      have HR24 : Hid (wc.heap[w9.heap.size]? = some (.cells #[.int .i64 cd, .slice ga res.length gc] 31 (0, 0))) := keepb HR22.out hB12'
      have HOG24 : Hid (COwn wc (w8.alloc (.cells #[.int .i64 kd, .int .i64 f, .slice (some ⟨g0, 0, none⟩) n2 k0, .slice (some ⟨g1, 0, none⟩) m2 k1] 37)).heap.size w9.heap.size (.slice ga res.length gc) res.length (mkF 1 (fun j => res.getD j C0)) kvg) := HOG22.out.below hB12'
      obtain ⟨x0, x1⟩ := cells2 hb12
      obtain ⟨y2, y3⟩ := cells2 ((HW24.out.block R6 (lt_of_block HR6.out)).trans HR6.out)
      obtain ⟨z0, z1⟩ := cells2 HR24.out
      have heq24 := eqCR_any cd vb va res.length vd vc res wc hrl HRK.out hC12 (HC6.out.below HW24.out (Nat.le_refl _))
      clear hR12 hB12' hb12 hC12 HS12 hTA hTR hgW d0 HZ0 bx0 bx1 bx2 bx3 HBX hbl
      go_wp2_with (first
        | (go_at_call 10; have hq := heq24; clear heq24; (with_reducible refine hq.mono ?_); clear hq; rintro e w25 ⟨rfl, hb25⟩; have HB25 : Hid (Below w.heap.size w w25) := HB24.out.trans (hb25.mono HB24.out.size); have HR25 : Hid (w25.heap[w9.heap.size]? = some (.cells #[.int .i64 cd, .slice ga res.length gc] 31 (0, 0))) := keepb HR24.out hb25; clear z0 z1 x0 x1 y2 y3; obtain ⟨z0, z1⟩ := cells2 HR25.out; have h25 := mkU1 HM.out (heldCR_any (.slice ga res.length gc) cd res.length (w8.alloc (.cells #[.int .i64 kd, .int .i64 f, .slice (some ⟨g0, 0, none⟩) n2 k0, .slice (some ⟨g1, 0, none⟩) m2 k1] 37)).heap.size w9.heap.size 1 (fun j => res.getD j C0) kvg w25 hrl HRK.out (by omega) (HOG24.out.below hb25)); clear hb25)
        | (go_at_call 16; have hq := h25; clear h25; (with_reducible refine hq.mono ?_); clear hq; rintro e w26 ⟨rfl, hb26⟩; have HB26 : Hid (Below w.heap.size w w26) := HB25.out.trans (hb26.mono HB25.out.size); clear hb26))
      go_ret
      exact ⟨rfl, HB26.out⟩

end Go.Proofs.YtngpegmfhhgkgaaGreatDoor

namespace Go.Proofs.YtngpegmfhhgkgaaGreatDoor
open Go.ChangeShapes Go.WideShapes Go.ChangeAt Go.RowKit Go.Joins Go.Deep
open Go.ChangeMaps (open_string shut_string)

theorem Tryz.cellsLCoin : Tryz.prog.cellsOf 55 = 8 := by kernel_rfl
theorem Tryz.cellsBoolC : Tryz.prog.cellsOf 4 = 1 := by kernel_rfl

def FineC (cs : List Co) : Prop := ∀ j, (Lit.int .i64 (cs.getD j C0).p).wf = true ∧ (Lit.int .i64 (cs.getD j C0).q).wf = true ∧ (Lit.int .i64 (cs.getD j C0).v).wf = true ∧ (∀ k ∈ (cs.getD j C0).l, (Lit.int .i64 k).wf = true) ∧ (Lit.int .i64 (cs.getD j C0).x).wf = true ∧ (Lit.int .i64 (cs.getD j C0).y).wf = true ∧ (Lit.int .i64 (cs.getD j C0).h).wf = true

section
variable {H : Type} {enc : TypeId × Value → H} {W : World} {base : Nat} {spare : Nat → Bool} {held : Bool}

theorem open_coin {fuel : Nat} {v0 v1 v2 v3 v4 v5 v6 v7 : Value} {x : DataW H × List MemPlace} (h : DataW.trod enc Tryz.prog W base spare held fuel 55 [v0, v1, v2, v3, v4, v5, v6, v7] = some x) :
    ∃ (o : Co) (ka : Option Addr) (kc : Nat), (v0 = .int .i64 o.p ∧ v1 = .int .i64 o.q ∧ v2 = .int .i64 o.v ∧ v3 = .slice ka o.l.length kc ∧ v4 = .int .i64 o.x ∧ v5 = .int .i64 o.y ∧ v6 = .int .i64 o.h ∧ v7 = .bool o.m) ∧ o.l.length ≤ maxLen ∧ IAt W ka o.l.length o.l ∧ (Lit.int .i64 o.p).wf = true ∧ (Lit.int .i64 o.q).wf = true ∧ (Lit.int .i64 o.v).wf = true ∧ (∀ k ∈ o.l, (Lit.int .i64 k).wf = true) ∧ (Lit.int .i64 o.x).wf = true ∧ (Lit.int .i64 o.y).wf = true ∧ (Lit.int .i64 o.h).wf = true := by
  obtain ⟨xs, k, hk, hxy, _, hxl, hf⟩ := DataW.trod_struct Tryz.underlying55 h
  match xs, hxl with
  | [y0, y1, y2, y3], _ =>
    have g0 := hf 0 _ rfl
    have g1 := hf 1 _ rfl
    have g2 := hf 2 _ rfl
    have g3 := hf 3 _ rfl
    simp [Tryz.cellsI64, Tryz.cellsLRef, Tryz.cellsLOut, Tryz.cellsBoolC] at g0 g1 g2 g3
    obtain ⟨hh, e2, _, w2⟩ := DataW.trod_int Tryz.underlying2 g2
    obtain ⟨bb, e3, _⟩ := DataW.trod_bool Tryz.underlying4 g3
    obtain ⟨ys, k2, hk2, hxy2, _, hyl, hf2⟩ := DataW.trod_struct Tryz.underlying48 g0
    match ys, hyl with
    | [z0, z1], _ =>
      have f0 := hf2 0 _ rfl
      have f1 := hf2 1 _ rfl
      simp [Tryz.cellsI64] at f0 f1
      obtain ⟨p, a0, _, u0⟩ := DataW.trod_int Tryz.underlying2 f0
      obtain ⟨q, a1, _, u1⟩ := DataW.trod_int Tryz.underlying2 f1
      obtain ⟨o, ka, kn, kc, b0, b1, b2, b3, hn, hI, t0, t1, t2, t3⟩ := open_out g1
      simp at a0 a1 e2 e3
      obtain rfl := hI.1
      exact ⟨⟨p, q, o.v, o.l, o.x, o.y, hh, bb⟩, ka, kc, ⟨a0, a1, b0, b1, b2, b3, e2, e3⟩, hn, hI, u0, u1, t0, t1, t2, t3, w2⟩

theorem fine_C0 : (Lit.int .i64 C0.p).wf = true ∧ (Lit.int .i64 C0.q).wf = true ∧ (Lit.int .i64 C0.v).wf = true ∧ (∀ k ∈ C0.l, (Lit.int .i64 k).wf = true) ∧ (Lit.int .i64 C0.x).wf = true ∧ (Lit.int .i64 C0.y).wf = true ∧ (Lit.int .i64 C0.h).wf = true := ⟨wf_zero, wf_zero, wf_zero, fun k hk => (by cases hk), wf_zero, wf_zero, wf_zero⟩

theorem open_coins {fuel : Nat} {c : Value} {x : DataW H × List MemPlace} (h : DataW.trod enc Tryz.prog W base spare held fuel 22 [c] = some x) :
    ∃ a n cap cs, c = .slice a n cap ∧ n ≤ maxLen ∧ CAt W a n cs ∧ FineC cs := by
  rcases open_slice Tryz.underlying22 h with ⟨hcs, _⟩ | ⟨a, len, cap, m, n, D, Pl, hcs, _, hl, hm, hmm, _, hx⟩
  · exact ⟨none, 0, 0, [], by simpa using hcs, by unfold maxLen; omega, ⟨rfl, .inl rfl⟩, fun j => by simpa using fine_C0⟩
  · have hlm : len ≤ m := by rw [hmm]; split <;> omega
    have each : ∀ i, i < len → ∃ o : Co, (∃ (ka : Option Addr) (kc : Nat), (W.cell? (a.add (i * 8)) = some (.int .i64 o.p) ∧ W.cell? (a.add (i * 8 + 1)) = some (.int .i64 o.q) ∧ W.cell? (a.add (i * 8 + 2)) = some (.int .i64 o.v) ∧ W.cell? (a.add (i * 8 + 3)) = some (.slice ka o.l.length kc) ∧ W.cell? (a.add (i * 8 + 4)) = some (.int .i64 o.x) ∧ W.cell? (a.add (i * 8 + 5)) = some (.int .i64 o.y) ∧ W.cell? (a.add (i * 8 + 6)) = some (.int .i64 o.h) ∧ W.cell? (a.add (i * 8 + 7)) = some (.bool o.m)) ∧ o.l.length ≤ maxLen ∧ IAt W ka o.l.length o.l) ∧ (Lit.int .i64 o.p).wf = true ∧ (Lit.int .i64 o.q).wf = true ∧ (Lit.int .i64 o.v).wf = true ∧ (∀ k ∈ o.l, (Lit.int .i64 k).wf = true) ∧ (Lit.int .i64 o.x).wf = true ∧ (Lit.int .i64 o.y).wf = true ∧ (Lit.int .i64 o.h).wf = true := by
      intro i hi
      obtain ⟨cs', h1, h2⟩ := hx i (by omega)
      rw [Tryz.cellsLCoin] at h1
      obtain ⟨_, hlen, hcell⟩ := World.cells?_some h1
      match cs', hlen with
      | [v0, v1, v2, v3, v4, v5, v6, v7], _ =>
        obtain ⟨o, ka, kc, ⟨rfl, rfl, rfl, rfl, rfl, rfl, rfl, rfl⟩, hkn, hI, f⟩ := open_coin h2
        have e0 := hcell 0 (by omega)
        have e1 := hcell 1 (by omega)
        have e2 := hcell 2 (by omega)
        have e3 := hcell 3 (by omega)
        have e4 := hcell 4 (by omega)
        have e5 := hcell 5 (by omega)
        have e6 := hcell 6 (by omega)
        have e7 := hcell 7 (by omega)
        rw [add_add] at e0 e1 e2 e3 e4 e5 e6 e7
        exact ⟨o, ⟨ka, kc, ⟨by simpa using e0, by simpa using e1, by simpa using e2, by simpa using e3, by simpa using e4, by simpa using e5, by simpa using e6, by simpa using e7⟩, hkn, hI⟩, f⟩
    haveI : Inhabited Co := ⟨C0⟩
    obtain ⟨q, hq⟩ := choose_lt each
    have hget : ∀ j, j < len → (((List.range len).map q).getD j C0) = q j := by
      intro j hj
      simp [List.getD, hj]
    refine ⟨some a, len, cap, (List.range len).map q, by simpa using hcs, by omega, ⟨by simp, ?_⟩, fun j => ?_⟩
    · by_cases h0 : len = 0
      · exact .inl h0
      · obtain ⟨b, off, spot⟩ := a
        obtain ⟨⟨_, _, ⟨h1, _⟩, _⟩, _⟩ := hq 0 (by omega)
        have hspot : spot = none := by simpa [Addr.add] using World.cell?_spot h1
        subst hspot
        refine .inr ⟨b, off, rfl, World.block_lt_of_cell? _ _ h1, fun j hj => ?_⟩
        obtain ⟨⟨ka, kc, ⟨x0, x1, x2, x3, x4, x5, x6, x7⟩, x8, x9⟩, _⟩ := hq j hj
        rw [add_none] at x0 x1 x2 x3 x4 x5 x6 x7
        rw [hget j hj]
        exact ⟨ka, kc, ⟨x0, by rw [Nat.add_assoc]; exact x1, by rw [Nat.add_assoc]; exact x2, by rw [Nat.add_assoc]; exact x3, by rw [Nat.add_assoc]; exact x4, by rw [Nat.add_assoc]; exact x5, by rw [Nat.add_assoc]; exact x6, by rw [Nat.add_assoc]; exact x7⟩, x8, x9⟩
    · by_cases hj : j < len
      · rw [hget j hj]
        exact (hq j hj).2
      · have : (((List.range len).map q).getD j C0) = C0 := by rw [List.getD, List.getElem?_eq_none (by simp; omega)]; rfl
        rw [this]
        exact fine_C0

set_option maxRecDepth 100000 in
theorem open_coinS {b0 : Nat} {r : Reach} {v : Value} {d : DataW H} {p : List MemPlace} (hv : Value.okWide Tryz.prog W r b0 22 v) (h : DataW.Trod enc Tryz.prog W base spare held 22 v d p) :
    ∃ a n cap cs, v = .slice a n cap ∧ n ≤ maxLen ∧ CAt W a n cs ∧ FineC cs := by
  obtain ⟨a, len, cap, rfl⟩ := okWide_slice Tryz.underlying22 hv
  obtain ⟨fuel, hf⟩ := h
  exact open_coins (c := .slice a len cap) hf

end
end Go.Proofs.YtngpegmfhhgkgaaGreatDoor

namespace Go.Proofs.YtngpegmfhhgkgaaGreatDoor
open Go.RowKit

theorem Tryz.stopsHeardIs : Tryz.prog.stopsHeard = true := by kernel_rfl
theorem Tryz.mayEnterIs : Tryz.prog.mayEnter = true := by kernel_rfl
theorem Tryz.liftsIs : (false == Tryz.prog.liftsFinal) = true := by kernel_rfl
theorem Tryz.lifts_of {x : Bool} (h : x = false) : (x == Tryz.prog.liftsFinal) = true := by rw [h]; exact Tryz.liftsIs

end Go.Proofs.YtngpegmfhhgkgaaGreatDoor
