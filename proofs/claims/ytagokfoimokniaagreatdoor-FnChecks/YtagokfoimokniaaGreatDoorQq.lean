/- The program's SpentBy keeps its contract: the whole of it. -/
import Derived.Test.YtagokfoimokniaaGreatDoorQp
import Derived.Test.YtagokfoimokniaaGreatDoorJn3
namespace Go.Proofs.YtagokfoimokniaaGreatDoor
open Go.RowKit Go.Maps Go.WideMaps

theorem own_step {w4 w5 : World} {lo : Nat} {v : Value} {ts : List Co} (h : Hid (∃ kv, COwn w4 lo w4.heap.size v ts.length (fun j => ts.getD j C0) kv)) (hb : Below w4.heap.size w4 w5) : Hid (∃ kv, COwn w5 lo w5.heap.size v ts.length (fun j => ts.getD j C0) kv) := by
  obtain ⟨kv, h1⟩ := h.out
  exact ⟨kv, (h1.below hb).mono hb.size⟩

set_option maxRecDepth 20000 in
set_option maxHeartbeats 4000000 in
theorem iSpentBy_any (nc cc : Nat) (ca : Option Addr) (cs : List Co) (n c m d : Nat) (ia oa : Option Addr) (k f : Int) (rs : List (Int × Int)) (os : List Ou) (w : World) (hg : w.cell? ⟨1, 0, none⟩ = some (.iface 224 (.agg #[.pointer (some ⟨8, 90, none⟩)]))) (hnc : nc ≤ 1048576) (hkc : ∀ j, j < nc → (cs.getD j C0).l.length ≤ 1048576)
    (hn : n ≤ 1048576) (hm : m ≤ 1048576) (hc1 : n ≤ c) (hc2 : c ≤ maxLen) (hk : ∀ j, j < m → (os.getD j O0).l.length ≤ 1048576) (hC : CAt w ca nc cs) (h : TxAt w ia n oa m rs os) :
    Calls Tryz.prog 8 #[.slice ca nc cc, .agg #[.int .i64 k, .int .i64 f, .slice ia n c, .slice oa m d]] w fun e w' => OutCs w w' e (spentR cs k f rs os).1 (spentR cs k f rs os).2 := by
  have HW0 : Hid (UBx w ((w.alloc (.cells #[.int .i64 k, .int .i64 f, .slice ia n c, .slice oa m d] 32)).alloc (.cells #[.int .i64 0, .slice none 0 0] 39)) k f ia n c oa m d) := UBx.start
  have HSZ : Hid (((w.alloc (.cells #[.int .i64 k, .int .i64 f, .slice ia n c, .slice oa m d] 32)).alloc (.cells #[.int .i64 0, .slice none 0 0] 39)).heap.size = w.heap.size + 1 + 1) := (blocks2 w _ _).2.2
  have hF := fillPurse_any nc cc ca cs ((w.alloc (.cells #[.int .i64 k, .int .i64 f, .slice ia n c, .slice oa m d] 32)).alloc (.cells #[.int .i64 0, .slice none 0 0] 39)) hnc hkc (hC.below HW0.out.bel (Nat.le_refl _))
  have HT : ∀ v, UBx w v k f ia n c oa m d → Calls Tryz.prog 33 #[.agg #[.int .i64 k, .int .i64 f, .slice ia n c, .slice oa m d]] v fun e w' => e = .returned (.int .i64 (txR k f rs os)) ∧ Below v.heap.size v w' := fun v hv => iTxFault_any n c m d ia oa k f rs os v hn hm hc1 hc2 hk (h.below hv.bel (Nat.le_refl _))
  unfold spentR
  by_cases h0 : coinsR cs = 0
  · have hF1 : Calls Tryz.prog 24 #[.slice ca nc cc] ((w.alloc (.cells #[.int .i64 k, .int .i64 f, .slice ia n c, .slice oa m d] 32)).alloc (.cells #[.int .i64 0, .slice none 0 0] 39)) fun e w' => Below ((w.alloc (.cells #[.int .i64 k, .int .i64 f, .slice ia n c, .slice oa m d] 32)).alloc (.cells #[.int .i64 0, .slice none 0 0] 39)).heap.size ((w.alloc (.cells #[.int .i64 k, .int .i64 f, .slice ia n c, .slice oa m d] 32)).alloc (.cells #[.int .i64 0, .slice none 0 0] 39)) w' ∧ ∃ B, e = .returned (.tuple #[.map (some B), .int .i64 0]) ∧ Hid (FilledP w' (w.heap.size + 1 + 1) B cs) := hF.mono fun e w' h => by
      rcases h.2 with h1 | ⟨_, B, ps, h1, h2, h3⟩
      · exact absurd h0 h1.1
      · rw [HSZ.out] at h2
        exact ⟨h.1, B, h1, ps, h2, h3, h0⟩
    clear hF
    rw [if_neg (by simp [h0])]
    by_cases h2 : txR k f rs os = 0
    · rw [if_neg (by simp [h2])]
      rw [h2] at HT
      obtain ⟨hrb, hrd, hr4, ho4⟩ := tx_facts h2
      rw [h.r.1] at hr4
      have hsb : ∀ w2 v B, UBx w v k f ia n c oa m d → FilledP w2 (w.heap.size + 1 + 1) B cs → Below w2.heap.size w2 v → Calls Tryz.prog 34 #[.map (some B), .agg #[.int .i64 k, .int .i64 f, .slice ia n c, .slice oa m d]] v fun e w' => SpB v w' e (rs.all (hasC cs)) (inC cs rs) := fun w2 v B hv hf hb => by
        obtain ⟨ps, a1, a2, a3⟩ := hf
        exact spentBy_any B (w.heap.size + 1 + 1) ps cs n c m d ia oa k f rs v ((holds_of a1 a2 a3).below hb) (fun c hc => (coin_more ((coins_rise h0).2.1 c hc)).2.2.1) (by omega) hrb hrd (h.r.below hv.bel (Nat.le_refl _))
      obtain ⟨ts, hts⟩ : ∃ x, x = inC cs rs := ⟨_, rfl⟩
      obtain ⟨jb, hjb⟩ : ∃ b, b = rs.all (hasC cs) := ⟨_, rfl⟩
      rw [← hts, ← hjb] at hsb ⊢
      cases jb
      · have HSP : ∀ w2 v B, UBx w v k f ia n c oa m d → FilledP w2 (w.heap.size + 1 + 1) B cs → Below w2.heap.size w2 v → Calls Tryz.prog 34 #[.map (some B), .agg #[.int .i64 k, .int .i64 f, .slice ia n c, .slice oa m d]] v fun e w' => Below v.heap.size v w' ∧ e = .returned (.tuple #[.slice none 0 0, .iface 141 (.agg #[.string ⟨#[97, 32, 99, 111, 105, 110]⟩, .int .i64 4])]) := fun w2 v B hv hf hb => (hsb w2 v B hv hf hb).mono fun e w' q => by
          rcases q.2 with ⟨_, q1⟩ | ⟨q1, _⟩
          · exact ⟨q.1, q1⟩
          · cases q1
        have HMC : ∀ v, UBx w v k f ia n c oa m d → Calls Tryz.prog 35 #[.iface 141 (.agg #[.string ⟨#[97, 32, 99, 111, 105, 110]⟩, .int .i64 4])] v fun e w' => e = .returned (.int .i64 4) ∧ Below v.heap.size v w' := fun v hv => missing_hit _ _ v ((hv.bel.cell (p := ⟨1, 0, none⟩) (block_lt_of_cell hg)).trans hg)
        rw [if_neg (by simp)]
        clear hsb hts hjb hg h hk hC hkc h0 h2 hrb hrd
        go_enter Tryz.func8, Tryz.ntmps8
        go_wp2_with (first
      | (go_at_call 24; (with_reducible refine hF1.mono ?_); clear hF1; rintro e w2 ⟨hb2, B, rfl, HPU⟩; have HW2 : Hid (UBx w w2 k f ia n c oa m d) := HW0.out.step hb2; have hT := HT w2 HW2.out; clear hb2; obtain ⟨p0, p1, p2, p3, _⟩ := cells4 HW2.out.tx)
      | (go_at_call 33; (with_reducible refine hT.mono ?_); clear hT; rintro e w3 ⟨rfl, hb3⟩; have HW3 : Hid (UBx w w3 k f ia n c oa m d) := HW2.out.step hb3; clear p0 p1 p2 p3; obtain ⟨p0, p1, p2, p3, _⟩ := cells4 HW3.out.tx; have hsp := HSP w2 w3 B HW3.out HPU.out hb3; clear hb3)
      | (go_at_call 34; (with_reducible refine hsp.mono ?_); clear hsp; rintro e w4 ⟨hb4, rfl⟩; have HW4 : Hid (UBx w w4 k f ia n c oa m d) := HW3.out.step hb4; clear hb4; have hmc := HMC w4 HW4.out)
      | (go_at_call 35; (with_reducible refine hmc.mono ?_); clear hmc; rintro e w5 ⟨rfl, hb5⟩; have HW5 : Hid (UBx w w5 k f ia n c oa m d) := HW4.out.step hb5; obtain ⟨y0, y1⟩ := cells2 HW5.out.res; have f0 := Joins.unfrozen_of_block HW5.out.res 0; have f1 := Joins.unfrozen_of_block HW5.out.res 1; clear hb5))
        obtain ⟨_, j1⟩ := two_set HW5.out.res (.int .i64 4) (.slice none 0 0)
        exact bodyPost_ret (v := .agg #[.int .i64 4, .slice none 0 0]) (by simp [results, Tryz.results8, go_sem, j1]) rfl (out_code (by omega) HW5.out.bel)
      · have HSP : ∀ w2 v B, UBx w v k f ia n c oa m d → FilledP w2 (w.heap.size + 1 + 1) B cs → Below w2.heap.size w2 v → Calls Tryz.prog 34 #[.map (some B), .agg #[.int .i64 k, .int .i64 f, .slice ia n c, .slice oa m d]] v fun e w' => Below v.heap.size v w' ∧ ∃ va vc, e = .returned (.tuple #[.slice va ts.length vc, .nilIface]) ∧ Hid (∃ kv, COwn w' v.heap.size w'.heap.size (.slice va ts.length vc) ts.length (fun j => ts.getD j C0) kv) := fun w2 v B hv hf hb => (hsb w2 v B hv hf hb).mono fun e w' q => by
          rcases q.2 with ⟨q1, _⟩ | ⟨_, va, vc, q1, q2⟩
          · cases q1
          · exact ⟨q.1, va, vc, q1, q2⟩
        have HMC : ∀ v, UBx w v k f ia n c oa m d → Calls Tryz.prog 35 #[.nilIface] v fun e w' => e = .returned (.int .i64 0) ∧ Below v.heap.size v w' := fun v _ => missing_nil v
        rw [if_pos rfl]
        clear hsb hts hjb hg h hk hC hkc h0 h2 hrb hrd
        go_enter Tryz.func8, Tryz.ntmps8
        go_wp2_with (first
      | (go_at_call 24; (with_reducible refine hF1.mono ?_); clear hF1; rintro e w2 ⟨hb2, B, rfl, HPU⟩; have HW2 : Hid (UBx w w2 k f ia n c oa m d) := HW0.out.step hb2; have hT := HT w2 HW2.out; clear hb2; obtain ⟨p0, p1, p2, p3, _⟩ := cells4 HW2.out.tx)
      | (go_at_call 33; (with_reducible refine hT.mono ?_); clear hT; rintro e w3 ⟨rfl, hb3⟩; have HW3 : Hid (UBx w w3 k f ia n c oa m d) := HW2.out.step hb3; clear p0 p1 p2 p3; obtain ⟨p0, p1, p2, p3, _⟩ := cells4 HW3.out.tx; have hsp := HSP w2 w3 B HW3.out HPU.out hb3; clear hb3)
      | (go_at_call 34; (with_reducible refine hsp.mono ?_); clear hsp; rintro e w4 ⟨hb4, va, vc, rfl, HO4⟩; have HW4 : Hid (UBx w w4 k f ia n c oa m d) := HW3.out.step hb4; clear hb4; have hmc := HMC w4 HW4.out)
      | (go_at_call 35; (with_reducible refine hmc.mono ?_); clear hmc; rintro e w5 ⟨rfl, hb5⟩; have HW5 : Hid (UBx w w5 k f ia n c oa m d) := HW4.out.step hb5; obtain ⟨y0, y1⟩ := cells2 HW5.out.res; have f0 := Joins.unfrozen_of_block HW5.out.res 0; have f1 := Joins.unfrozen_of_block HW5.out.res 1; have HO5 := own_step HO4 hb5; clear hb5))
        have hbg := HW3.out.big
        obtain ⟨_, j1⟩ := two_set HW5.out.res (.int .i64 0) (.slice va ts.length vc)
        exact bodyPost_ret (v := .agg #[.int .i64 0, .slice va ts.length vc]) (by simp [results, Tryz.results8, go_sem, j1]) rfl (out_coins (lo := w3.heap.size) (by omega) (by omega) HW5.out.bel HO5.out)
    · rw [if_pos h2]
      obtain ⟨cd, hcd⟩ : ∃ r, r = txR k f rs os := ⟨_, rfl⟩
      rw [← hcd] at h2 HT ⊢
      clear hcd hg h hk hC hkc h0
      go_enter Tryz.func8, Tryz.ntmps8
      go_wp2_with (first
      | (go_at_call 24; (with_reducible refine hF1.mono ?_); clear hF1; rintro e w2 ⟨hb2, B, rfl, HPU⟩; have HW2 : Hid (UBx w w2 k f ia n c oa m d) := HW0.out.step hb2; have hT := HT w2 HW2.out; clear hb2; obtain ⟨p0, p1, p2, p3, _⟩ := cells4 HW2.out.tx)
      | (go_at_call 33; (with_reducible refine hT.mono ?_); clear hT; rintro e w3 ⟨rfl, hb3⟩; have HW3 : Hid (UBx w w3 k f ia n c oa m d) := HW2.out.step hb3; clear p0 p1 p2 p3; obtain ⟨p0, p1, p2, p3, _⟩ := cells4 HW3.out.tx; obtain ⟨y0, y1⟩ := cells2 HW3.out.res; have f0 := Joins.unfrozen_of_block HW3.out.res 0; have f1 := Joins.unfrozen_of_block HW3.out.res 1; clear hb3))
      obtain ⟨_, j1⟩ := two_set HW3.out.res (.int .i64 cd) (.slice none 0 0)
      exact bodyPost_ret (v := .agg #[.int .i64 cd, .slice none 0 0]) (by simp [results, Tryz.results8, go_sem, j1]) rfl (out_code (by omega) HW3.out.bel)
  · rw [if_pos h0]
    obtain ⟨cd, hcd⟩ : ∃ r, r = coinsR cs := ⟨_, rfl⟩
    have hF1 : Calls Tryz.prog 24 #[.slice ca nc cc] ((w.alloc (.cells #[.int .i64 k, .int .i64 f, .slice ia n c, .slice oa m d] 32)).alloc (.cells #[.int .i64 0, .slice none 0 0] 39)) fun e w' => Below ((w.alloc (.cells #[.int .i64 k, .int .i64 f, .slice ia n c, .slice oa m d] 32)).alloc (.cells #[.int .i64 0, .slice none 0 0] 39)).heap.size ((w.alloc (.cells #[.int .i64 k, .int .i64 f, .slice ia n c, .slice oa m d] 32)).alloc (.cells #[.int .i64 0, .slice none 0 0] 39)) w' ∧ e = .returned (.tuple #[.map none, .int .i64 cd]) := hF.mono fun e w' h => by
      rcases h.2 with h1 | h1
      · rw [hcd]; exact ⟨h.1, h1.2⟩
      · exact absurd h1.1 h0
    rw [← hcd] at h0 ⊢
    clear hF hcd hg h hk hC hkc HT
    go_enter Tryz.func8, Tryz.ntmps8
    go_wp2_with (first
      | (go_at_call 24; (with_reducible refine hF1.mono ?_); clear hF1; rintro e w2 ⟨hb2, rfl⟩; have HW2 : Hid (UBx w w2 k f ia n c oa m d) := HW0.out.step hb2; obtain ⟨y0, y1⟩ := cells2 HW2.out.res; have f0 := Joins.unfrozen_of_block HW2.out.res 0; have f1 := Joins.unfrozen_of_block HW2.out.res 1; clear hb2))
    obtain ⟨_, j1⟩ := two_set HW2.out.res (.int .i64 cd) (.slice none 0 0)
    exact bodyPost_ret (v := .agg #[.int .i64 cd, .slice none 0 0]) (by simp [results, Tryz.results8, go_sem, j1]) rfl (out_code (by omega) HW2.out.bel)

end Go.Proofs.YtagokfoimokniaaGreatDoor
