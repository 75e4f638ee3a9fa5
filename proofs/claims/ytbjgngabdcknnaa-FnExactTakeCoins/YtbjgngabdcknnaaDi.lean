/- The program's TakeCoins keeps its contract. -/
import Derived.Test.YtbjgngabdcknnaaDh
import Derived.Test.YtbjgngabdcknnaaCx
namespace Go.Proofs.Ytbjgngabdcknnaa
open Go.RowKit Go.Maps Go.WideMaps

/-- A code alone, in the result's block. -/
theorem out_code {w W : World} {R : Nat} {cd : Int} (hR : w.heap.size ≤ R) (hb : Below w.heap.size w W) : OutCs w ((W.setCell ⟨R, 0, none⟩ (.int .i64 cd)).setCell ⟨R, 1, none⟩ (.slice none 0 0)) (.returned (.agg #[.int .i64 cd, .slice none 0 0])) cd [] :=
  ⟨_, _, rfl, COwn.zero _, (hb.setCell (p := ⟨R, 0, none⟩) hR _).setCell (p := ⟨R, 1, none⟩) hR _⟩
/-- Coins of their own, in the result's block. -/
theorem out_coins {w W : World} {R lo : Nat} {cs : List Co} {va : Option Addr} {vc : Nat} (hR : w.heap.size ≤ R) (hlo : R < lo) (hb : Below w.heap.size w W) (hO : ∃ kv, COwn W lo W.heap.size (.slice va cs.length vc) cs.length (fun j => cs.getD j C0) kv) :
    OutCs w ((W.setCell ⟨R, 0, none⟩ (.int .i64 0)).setCell ⟨R, 1, none⟩ (.slice va cs.length vc)) (.returned (.agg #[.int .i64 0, .slice va cs.length vc])) 0 cs := by
  obtain ⟨kv, hO⟩ := hO
  have nv : (Value.slice va cs.length vc).ownBlock ≠ some R := fun e => by
    obtain ⟨xs, h1, _⟩ := hO.row
    have := (h1.lt _ e).1
    omega
  have nk : ∀ j, j < cs.length → (kv j).ownBlock ≠ some R := fun j hj e => by have := ((hO.keys j hj).1.lt _ e).1; omega
  exact ⟨_, kv, rfl, ((hO.set2 nv nk 0 (.int .i64 0)).set2 nv nk 1 (.slice va cs.length vc)).lower (by omega) (by simp), (hb.setCell (p := ⟨R, 0, none⟩) hR _).setCell (p := ⟨R, 1, none⟩) hR _⟩
theorem own_slice3 {w : World} {lo hi n : Nat} {v : Value} {f : Nat → Co} (h : ∃ kv, COwn w lo hi v n f kv) : ∃ a c, v = .slice a n c := by
  obtain ⟨kv, h⟩ := h
  obtain ⟨xs, h1, _⟩ := h.row
  rcases h1.2 with ⟨rfl, rfl⟩ | ⟨g, cap, cur, rfl, _⟩
  · exact ⟨none, 0, rfl⟩
  · exact ⟨_, cap, rfl⟩

/-- What is left to take, in the midst. -/
structure Mid (wr : World) (lo B : Nat) (cs : List Co) (rs : List (Int × Int)) (j : Nat) (ps : List (Co × Value)) : Prop where
  pu : Pu wr lo B ps
  rise : (ps.map (·.1)).Pairwise (fun x y => 0 < cmpR (y.p, y.q) (x.p, x.q))
  goes : goT cs rs = goT (ps.map (·.1)) (rs.drop j)
  few : ps.length ≤ 40

set_option maxRecDepth 20000 in
set_option maxHeartbeats 4000000 in
theorem iTakeCoins_any (n c n2 c2 : Nat) (a a2 : Option Addr) (cs : List Co) (rs : List (Int × Int)) (w : World) (hn : n ≤ 1048576) (hk : ∀ j, j < n → (cs.getD j C0).l.length ≤ 1048576) (hn2 : n2 ≤ 1048576) (hw : ∀ j, j < n2 → (Lit.int .i64 (rs.getD j G0).1).wf = true ∧ (Lit.int .i64 (rs.getD j G0).2).wf = true) (hC : CAt w a n cs) (hG : GAt w a2 n2 rs) :
    Calls Try.prog 20 #[.slice a n c, .slice a2 n2 c2] w fun e w' => OutCs w w' e (takeR cs rs).1 (takeR cs rs).2 := by
  have hbx : Below w.heap.size w (w.alloc (.cells #[.int .i64 0, .slice none 0 0] 28)) := below_box _
  have hF := fillPurse_any n c a cs (w.alloc (.cells #[.int .i64 0, .slice none 0 0] 28)) hn hk (hC.below hbx (Nat.le_refl _))
  have HBX : Hid (Below w.heap.size w (w.alloc (.cells #[.int .i64 0, .slice none 0 0] 28))) := hbx
  have T1 : Hid ((w.alloc (.cells #[.int .i64 0, .slice none 0 0] 28)).heap[w.heap.size]? = some (.cells #[.int .i64 0, .slice none 0 0] 28 (0, 0))) := heap_alloc_new _ _
  have HSZ : Hid ((w.alloc (.cells #[.int .i64 0, .slice none 0 0] 28)).heap.size = w.heap.size + 1) := by show (w.alloc (.cells #[.int .i64 0, .slice none 0 0] 28)).heap.size = _; simp
  have HG : Hid (GAt w a2 n2 rs) := hG
  have HN : Hid (rs.length = n2) := hG.1
  have HW : Hid (∀ j, j < n2 → (Lit.int .i64 (rs.getD j G0).1).wf = true ∧ (Lit.int .i64 (rs.getD j G0).2).wf = true) := hw
  clear hbx hC hk hG hw
  by_cases h0 : coinsR cs = 0
  · have hF' : Calls Try.prog 39 #[.slice a n c] (w.alloc (.cells #[.int .i64 0, .slice none 0 0] 28)) fun e w' => Below (w.alloc (.cells #[.int .i64 0, .slice none 0 0] 28)).heap.size (w.alloc (.cells #[.int .i64 0, .slice none 0 0] 28)) w' ∧ ∃ B, e = .returned (.tuple #[.map (some B), .int .i64 0]) ∧ Hid (∃ ps, Pu w' (w.heap.size + 1) B ps ∧ ps.map (·.1) = cs) := hF.mono fun e w' h => by
      rcases h.2 with h1 | ⟨_, B, ps, h1, h2, h3⟩
      · exact absurd h0 h1.1
      · rw [HSZ.out] at h2
        exact ⟨h.1, B, h1, ps, h2, h3⟩
    clear hF
    by_cases h4 : 4 < n2
    · have hr : takeR cs rs = (2, []) := by unfold takeR; rw [if_neg (by simp [h0]), if_pos (by rw [HN.out]; exact h4)]
      rw [hr]
      have h4i : (4 : Int) < (n2 : Int) := by omega
      clear hr h0 h4
      go_enter Try.func20, Try.ntmps20
      go_wp2_with (first
        | (go_at_call 39; (with_reducible refine hF'.mono ?_); clear hF'; rintro e w2 ⟨hb2, B, rfl, HPU⟩; have HT1 := keepb T1.out hb2; have HB2 : Hid (Below w.heap.size w w2) := HBX.out.trans (hb2.mono HBX.out.size); obtain ⟨y0, y1⟩ := cells2 HT1.out; have f0 := Joins.unfrozen_of_block HT1.out 0; have f1 := Joins.unfrozen_of_block HT1.out 1; have HW2 : Hid (Below (w.alloc (.cells #[.int .i64 0, .slice none 0 0] 28)).heap.size (w.alloc (.cells #[.int .i64 0, .slice none 0 0] 28)) w2) := hb2; have hsz2 := hb2.size; clear hb2))
      obtain ⟨_, j1⟩ := two_set HT1.out (.int .i64 2) (.slice none 0 0)
      exact bodyPost_ret (v := .agg #[.int .i64 2, .slice none 0 0]) (by simp [results, Try.results20, go_sem, j1]) rfl (out_code (Nat.le_refl _) HB2.out)
    · have hr : takeR cs rs = goT cs rs := by unfold takeR; rw [if_neg (by simp [h0]), if_neg (by rw [HN.out]; exact h4)]
      rw [hr]
      obtain ⟨h40, _, hri⟩ := coins_rise h0
      have HRI : Hid (cs.length ≤ 40 ∧ cs.Pairwise (fun a b => 0 < cmpR (b.p, b.q) (a.p, a.q))) := ⟨h40, hri⟩
      have h4i : ¬ (4 : Int) < (n2 : Int) := by omega
      clear hr h0 h40 hri
      go_enter Try.func20, Try.ntmps20
      go_wp2_with (first
        | (go_at_call 39; (with_reducible refine hF'.mono ?_); clear hF'; rintro e w2 ⟨hb2, B, rfl, HPU⟩; have HT1 := keepb T1.out hb2; have HB2 : Hid (Below w.heap.size w w2) := HBX.out.trans (hb2.mono HBX.out.size); obtain ⟨y0, y1⟩ := cells2 HT1.out; have f0 := Joins.unfrozen_of_block HT1.out 0; have f1 := Joins.unfrozen_of_block HT1.out 1; have HW2 : Hid (Below (w.alloc (.cells #[.int .i64 0, .slice none 0 0] 28)).heap.size (w.alloc (.cells #[.int .i64 0, .slice none 0 0] 28)) w2) := hb2; have hsz2 := hb2.size; clear hb2))
      go_loopw [24] (fun i wr => ∃ j : Nat, j ≤ n2 ∧ i = .int .i64 j ∧ Below (w.alloc (.cells #[.int .i64 0, .slice none 0 0] 28)).heap.size (w.alloc (.cells #[.int .i64 0, .slice none 0 0] 28)) wr ∧ Hid (∃ ps, Mid wr (w.heap.size + 1) B cs rs j ps)) (fun i _ => n2 - (intOf i).toNat)
      case atStart =>
        obtain ⟨ps, h1, h2⟩ := HPU.out
        exact ⟨0, Nat.zero_le _, rfl, HW2.out, ps, h1, by rw [h2]; exact HRI.out.2, by rw [h2]; rfl, by have := HRI.out.1; rw [← h2] at this; simpa using this⟩
      case round =>
        obtain ⟨j, hj, rfl, hbel, HM⟩ := hrel
        have HBW : Hid (Below w.heap.size w wr) := HBX.out.trans (hbel.mono HBX.out.size)
        have HTR := keepb T1.out hbel
        clear y0 y1 f0 f1
        by_cases hlt : j < n2
        · rcases HG.out.2 with h0 | ⟨b, off, e0, l0, d0⟩
          · omega
          subst e0
          obtain ⟨r, hr⟩ : ∃ r, r = rs.getD j G0 := ⟨_, rfl⟩
          obtain ⟨x0, x1⟩ := d0 j hlt
          rw [← hr] at x0 x1
          have z0 := (HBW.out.cell (p := ⟨b, off + j * 2, none⟩) l0).trans x0
          have z1 := (HBW.out.cell (p := ⟨b, off + j * 2 + 1, none⟩) l0).trans x1
          have hww := HW.out j hlt
          rw [← hr] at hww
          have HNX : Hid (rs.drop j = r :: rs.drop (j + 1)) := next_ref HN.out hlt hr
          obtain ⟨rp, rq⟩ := r
          simp only at z0 z1 hww
          obtain ⟨ps, hM⟩ := HM.out
          have hbx3 : Below wr.heap.size wr (wr.alloc (.cells #[.int .i64 rp, .int .i64 rq] 31)) := below_box _
          have hP3 := hM.pu.below hbx3
          have HB3 : Hid (Below w.heap.size w (wr.alloc (.cells #[.int .i64 rp, .int .i64 rq] 31))) := HBW.out.trans (hbx3.mono HBW.out.size)
          have HW3 : Hid (Below (w.alloc (.cells #[.int .i64 0, .slice none 0 0] 28)).heap.size (w.alloc (.cells #[.int .i64 0, .slice none 0 0] 28)) (wr.alloc (.cells #[.int .i64 rp, .int .i64 rq] 31))) := hbel.trans (hbx3.mono hbel.size)
          have hBl := hM.pu.base
          have hPl := hM.pu.lt
          have hki : (j : Int) < (n2 : Int) := by omega
          have HM' : Hid (Mid wr (w.heap.size + 1) B cs rs j ps) := hM
          clear hM x0 x1 d0 hr HM
          cases hf : findP ps (rp, rq) with
          | none =>
            have ht := take_none B (w.heap.size + 1) rp rq ps _ hP3 hf hww.1 hww.2
            have HGO : Hid (goT cs rs = (4, [])) := by
              show goT cs rs = _
              rw [HM'.out.goes, HNX.out]
              unfold goT
              rw [if_neg (by rw [has_map, hf]; simp)]
            clear hf hP3 hww hbx3
            go_wp2_with (first
              | (go_at_call 44; (with_reducible refine ht.mono ?_); clear ht; rintro e w4 ⟨rfl, hb4⟩; have HB4 : Hid (Below w.heap.size w w4) := HB3.out.trans (hb4.mono HB3.out.size); have HT4 := keepb (keepb HTR.out (below_box (.cells #[.int .i64 rp, .int .i64 rq] 31))).out hb4; obtain ⟨y0, y1⟩ := cells2 HT4.out; have f0 := Joins.unfrozen_of_block HT4.out 0; have f1 := Joins.unfrozen_of_block HT4.out 1; clear hb4))
            obtain ⟨_, j1⟩ := two_set HT4.out (.int .i64 4) (.slice none 0 0)
            exact bodyPost_ret (v := .agg #[.int .i64 4, .slice none 0 0]) (by simp [results, Try.results20, go_sem, j1]) rfl (by show OutCs _ _ _ _ _; rw [HGO.out]; exact out_code (Nat.le_refl _) HB4.out)
          | some x =>
            have ht := take_any B (w.heap.size + 1) rp rq ps x _ hP3 hf hww.1 hww.2
            have HGO : Hid (goT cs rs = goT ((dropP ps (rp, rq)).map (·.1)) (rs.drop (j + 1))) := by
              show goT cs rs = _
              rw [HM'.out.goes, HNX.out, drop_map]
              show (if hasC (ps.map (·.1)) (rp, rq) = true then _ else _) = _
              rw [if_pos (by rw [has_map, hf]; rfl)]
            have HLE : Hid ((dropP ps (rp, rq)).length ≤ 40) := Nat.le_trans (List.length_filter_le _ _) HM'.out.few
            clear hf hP3 hww hbx3
            go_wp2_with (first
              | (go_at_call 44; (with_reducible refine ht.mono ?_); clear ht; rintro e w4 ⟨rfl, HPU4, HCH4⟩))
            go_roundw
            case rel => exact ⟨j + 1, by omega, by go_num, HW3.out.trans (HCH4.out.below (by simp; omega) HW3.out.size), _, HPU4.out, by rw [drop_map]; exact rise_drop _ HM'.out.rise, HGO.out, HLE.out⟩
            case measure => simp [intOf]; omega
        · obtain ⟨ps, hM⟩ := HM.out
          have hjn : j = n2 := by omega
          have hgo : goT cs rs = (0, ps.map (·.1)) := by rw [hM.goes, List.drop_of_length_le (by rw [HN.out]; omega)]; rfl
          have hco := coins_any B (w.heap.size + 1) ps (ps.map (·.1)) wr hM.pu (by have := hM.pu.base; have := hM.pu.lt; omega) (by have := hM.few; omega) hM.rise (fun c => Iff.rfl)
          obtain ⟨qs, hqs⟩ : ∃ qs, qs = ps.map (·.1) := ⟨_, rfl⟩
          rw [← hqs] at hco hgo
          have HGO : Hid (goT cs rs = (0, qs)) := hgo
          clear hM hgo HM hqs
          go_wp2_with (first
            | (go_at_call 45; (with_reducible refine hco.mono ?_); clear hco; rintro e w5 ⟨v, rfl, HS⟩; obtain ⟨va, vc, hv⟩ := own_slice3 HS.out.1; subst hv; have HT5 := keepb HTR.out HS.out.2; obtain ⟨y0, y1⟩ := cells2 HT5.out; have f0 := Joins.unfrozen_of_block HT5.out 0; have f1 := Joins.unfrozen_of_block HT5.out 1))
          obtain ⟨_, j1⟩ := two_set HT5.out (.int .i64 0) (.slice va qs.length vc)
          exact bodyPost_ret (v := .agg #[.int .i64 0, .slice va qs.length vc]) (by simp [results, Try.results20, go_sem, j1]) rfl (by show OutCs _ _ _ _ _; rw [HGO.out]; exact out_coins (lo := w.heap.size + 1) (Nat.le_refl _) (by omega) (HBW.out.trans (HS.out.2.mono HBW.out.size)) HS.out.1)
  · have hr : takeR cs rs = (coinsR cs, []) := by unfold takeR; rw [if_pos h0]
    rw [hr]
    obtain ⟨cd, hcd⟩ : ∃ r, r = coinsR cs := ⟨_, rfl⟩
    have hF' : Calls Try.prog 39 #[.slice a n c] (w.alloc (.cells #[.int .i64 0, .slice none 0 0] 28)) fun e w' => Below (w.alloc (.cells #[.int .i64 0, .slice none 0 0] 28)).heap.size (w.alloc (.cells #[.int .i64 0, .slice none 0 0] 28)) w' ∧ e = .returned (.tuple #[.map none, .int .i64 cd]) := hF.mono fun e w' h => by
      rcases h.2 with h1 | h1
      · rw [hcd]; exact ⟨h.1, h1.2⟩
      · exact absurd h1.1 h0
    rw [← hcd] at h0 ⊢
    clear hF hcd hr
    go_enter Try.func20, Try.ntmps20
    go_wp2_with (first
      | (go_at_call 39; (with_reducible refine hF'.mono ?_); clear hF'; rintro e w2 ⟨hb2, rfl⟩; have HT1 := keepb T1.out hb2; have HB2 : Hid (Below w.heap.size w w2) := HBX.out.trans (hb2.mono HBX.out.size); obtain ⟨y0, y1⟩ := cells2 HT1.out; have f0 := Joins.unfrozen_of_block HT1.out 0; have f1 := Joins.unfrozen_of_block HT1.out 1; have HW2 : Hid (Below (w.alloc (.cells #[.int .i64 0, .slice none 0 0] 28)).heap.size (w.alloc (.cells #[.int .i64 0, .slice none 0 0] 28)) w2) := hb2; have hsz2 := hb2.size; clear hb2))
    obtain ⟨_, j1⟩ := two_set HT1.out (.int .i64 cd) (.slice none 0 0)
    exact bodyPost_ret (v := .agg #[.int .i64 cd, .slice none 0 0]) (by simp [results, Try.results20, go_sem, j1]) rfl (out_code (Nat.le_refl _) HB2.out)

end Go.Proofs.Ytbjgngabdcknnaa
