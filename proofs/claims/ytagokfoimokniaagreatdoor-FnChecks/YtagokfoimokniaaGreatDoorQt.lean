/- The program's SpendTx keeps its contract. -/
import Derived.Test.YtagokfoimokniaaGreatDoorQs
namespace Go.Proofs.YtagokfoimokniaaGreatDoor
open Go.RowKit Go.Maps Go.WideMaps

set_option maxRecDepth 20000 in
set_option maxHeartbeats 4000000 in
theorem iSpendTx_any (nc cc : Nat) (ca : Option Addr) (cs : List Co) (n c m d : Nat) (ia oa : Option Addr) (k f : Int) (rs : List (Int × Int)) (os : List Ou) (id h : Int) (w : World) (hg : w.cell? ⟨1, 0, none⟩ = some (.iface 224 (.agg #[.pointer (some ⟨8, 90, none⟩)]))) (hnc : nc ≤ 1048576) (hkc : ∀ j, j < nc → (cs.getD j C0).l.length ≤ 1048576)
    (hn : n ≤ 1048576) (hm : m ≤ 1048576) (hc1 : n ≤ c) (hc2 : c ≤ maxLen) (hk : ∀ j, j < m → (os.getD j O0).l.length ≤ 1048576) (hC : CAt w ca nc cs) (hT : TxAt w ia n oa m rs os) :
    Calls Tryz.prog 13 #[.slice ca nc cc, .agg #[.int .i64 k, .int .i64 f, .slice ia n c, .slice oa m d], .int .i64 id, .int .i64 h] w fun e w' => OutCs w w' e (spendR cs k f rs os id h).1 (spendR cs k f rs os id h).2 := by
  have HW0 : Hid (UBx w ((w.alloc (.cells #[.int .i64 k, .int .i64 f, .slice ia n c, .slice oa m d] 32)).alloc (.cells #[.int .i64 0, .slice none 0 0] 39)) k f ia n c oa m d) := UBx.start
  have HSZ : Hid (((w.alloc (.cells #[.int .i64 k, .int .i64 f, .slice ia n c, .slice oa m d] 32)).alloc (.cells #[.int .i64 0, .slice none 0 0] 39)).heap.size = w.heap.size + 1 + 1) := (blocks2 w _ _).2.2
  have hF := fillPurse_any nc cc ca cs ((w.alloc (.cells #[.int .i64 k, .int .i64 f, .slice ia n c, .slice oa m d] 32)).alloc (.cells #[.int .i64 0, .slice none 0 0] 39)) hnc hkc (hC.below HW0.out.bel (Nat.le_refl _))
  rw [spendR_eq]
  by_cases h0 : coinsR cs = 0
  · have hF1 : Calls Tryz.prog 24 #[.slice ca nc cc] ((w.alloc (.cells #[.int .i64 k, .int .i64 f, .slice ia n c, .slice oa m d] 32)).alloc (.cells #[.int .i64 0, .slice none 0 0] 39)) fun e w' => Below ((w.alloc (.cells #[.int .i64 k, .int .i64 f, .slice ia n c, .slice oa m d] 32)).alloc (.cells #[.int .i64 0, .slice none 0 0] 39)).heap.size ((w.alloc (.cells #[.int .i64 k, .int .i64 f, .slice ia n c, .slice oa m d] 32)).alloc (.cells #[.int .i64 0, .slice none 0 0] 39)) w' ∧ ∃ B, e = .returned (.tuple #[.map (some B), .int .i64 0]) ∧ Hid (FilledP w' (w.heap.size + 1 + 1) B cs) := hF.mono fun e w' h => by
      rcases h.2 with h1 | ⟨_, B, ps, h1, h2, h3⟩
      · exact absurd h0 h1.1
      · rw [HSZ.out] at h2
        exact ⟨h.1, B, h1, ps, h2, h3, h0⟩
    clear hF
    rw [if_neg (by simp [h0])]
    have hsp : ∀ v B, UBx w v k f ia n c oa m d → FilledP v (w.heap.size + 1 + 1) B cs → Calls Tryz.prog 41 #[.map (some B), .agg #[.int .i64 k, .int .i64 f, .slice ia n c, .slice oa m d], .int .i64 id, .int .i64 h] v fun e w' => w.heap.size + 1 + 1 ≤ B ∧ SpendO v w' e (w.heap.size + 1 + 1) B (spendF cs k f rs os id h) cs (inC cs rs) (addCs (outC2 cs rs) (newCs id h false os os.length)) := fun v B hv ⟨ps, a1, a2, a3⟩ =>
      (spend_any B (w.heap.size + 1 + 1) ps cs n c m d ia oa k f rs os id h v ((hv.bel.cell (p := ⟨1, 0, none⟩) (block_lt_of_cell hg)).trans hg) (holds_of a1 a2 a3) (coins_rise h0).2.1 (coins_rise h0).1 hv.big hn hm hc1 hc2 hk (hT.below hv.bel (Nat.le_refl _))).mono fun e w' q => ⟨a1.base, q⟩
    obtain ⟨u, hu⟩ : ∃ u, u = spendF cs k f rs os id h := ⟨_, rfl⟩
    obtain ⟨zs, hzs⟩ : ∃ z, z = addCs (outC2 cs rs) (newCs id h false os os.length) := ⟨_, rfl⟩
    obtain ⟨ts, hts⟩ : ∃ z, z = inC cs rs := ⟨_, rfl⟩
    rw [← hu, ← hzs, ← hts] at hsp
    rw [← hu, ← hzs]
    by_cases h1 : u = 0
    · rw [if_neg (by simp [h1])]
      have HSP : ∀ v B, UBx w v k f ia n c oa m d → FilledP v (w.heap.size + 1 + 1) B cs → Calls Tryz.prog 41 #[.map (some B), .agg #[.int .i64 k, .int .i64 f, .slice ia n c, .slice oa m d], .int .i64 id, .int .i64 h] v fun e w' => (∃ va vc, e = .returned (.tuple #[.slice va ts.length vc, .int .i64 0])) ∧ Hid (w.heap.size + 1 + 1 ≤ B ∧ Chg v w' B (B + 1)) ∧ Hid (∃ ps', Holds w' (w.heap.size + 1 + 1) B ps' zs) := fun v B hv hp => (hsp v B hv hp).mono fun e w' ⟨q0, q1, q2⟩ => by
        rcases q2 with ⟨q3, _⟩ | ⟨_, va, vc, q4, _, q6⟩
        · exact absurd h1 q3
        · exact ⟨⟨va, vc, q4⟩, ⟨q0, q1⟩, q6⟩
      have HCO : ∀ v B, UBx w v k f ia n c oa m d → (∃ ps', Holds v (w.heap.size + 1 + 1) B ps' zs) → Calls Tryz.prog 42 #[.map (some B)] v fun e w' => ∃ r, e = .returned r ∧ Hid ((∃ kv, COwn w' (w.heap.size + 1 + 1) w'.heap.size r zs.length (fun j => zs.getD j C0) kv) ∧ Below v.heap.size v w') := fun v B hv ⟨ps', a⟩ =>
        coins_any B (w.heap.size + 1 + 1) ps' zs v a.pu hv.big (by have := a.len; have := a.few; omega) a.rise a.mem
      clear hu hzs hts hsp hT hk hC hkc h0 hg
      go_enter Tryz.func13, Tryz.ntmps13
      go_wp2_with (first
        | (go_at_call 24; (with_reducible refine hF1.mono ?_); clear hF1; rintro e w2 ⟨hb2, B, rfl, HPU⟩; have HW2 : Hid (UBx w w2 k f ia n c oa m d) := HW0.out.step hb2; clear hb2; obtain ⟨p0, p1, p2, p3, _⟩ := cells4 HW2.out.tx; have hs := HSP w2 B HW2.out HPU.out)
        | (go_at_call 41; (with_reducible refine hs.mono ?_); clear hs; rintro e w4 ⟨⟨xa, xc, rfl⟩, HCH, HHD⟩; have HW4 : Hid (UBx w w4 k f ia n c oa m d) := HW2.out.turn HCH.out.1 HCH.out.2; clear p0 p1 p2 p3; have hco := HCO w4 B HW4.out HHD.out)
        | (go_at_call 42; (with_reducible refine hco.mono ?_); clear hco; rintro e w5 ⟨v, rfl, HS⟩; obtain ⟨va, vc, hv⟩ := own_slice3 HS.out.1; subst hv; have HW5 : Hid (UBx w w5 k f ia n c oa m d) := HW4.out.step HS.out.2; obtain ⟨y0, y1⟩ := cells2 HW5.out.res; have f0 := Joins.unfrozen_of_block HW5.out.res 0; have f1 := Joins.unfrozen_of_block HW5.out.res 1))
      obtain ⟨_, j1⟩ := two_set HW5.out.res (.int .i64 0) (.slice va zs.length vc)
      exact bodyPost_ret (v := .agg #[.int .i64 0, .slice va zs.length vc]) (by simp [results, Tryz.results13, go_sem, j1]) rfl (out_coins (lo := w.heap.size + 1 + 1) (by omega) (by omega) HW5.out.bel HS.out.1)
    · rw [if_pos h1]
      have HSP : ∀ v B, UBx w v k f ia n c oa m d → FilledP v (w.heap.size + 1 + 1) B cs → Calls Tryz.prog 41 #[.map (some B), .agg #[.int .i64 k, .int .i64 f, .slice ia n c, .slice oa m d], .int .i64 id, .int .i64 h] v fun e w' => e = .returned (.tuple #[.slice none 0 0, .int .i64 u]) ∧ Hid (w.heap.size + 1 + 1 ≤ B ∧ Chg v w' B (B + 1)) := fun v B hv hp => (hsp v B hv hp).mono fun e w' ⟨q0, q1, q2⟩ => by
        rcases q2 with ⟨_, q4, _⟩ | ⟨q3, _⟩
        · exact ⟨q4, q0, q1⟩
        · exact absurd q3 h1
      clear hu hzs hts hsp hT hk hC hkc h0 hg
      go_enter Tryz.func13, Tryz.ntmps13
      go_wp2_with (first
        | (go_at_call 24; (with_reducible refine hF1.mono ?_); clear hF1; rintro e w2 ⟨hb2, B, rfl, HPU⟩; have HW2 : Hid (UBx w w2 k f ia n c oa m d) := HW0.out.step hb2; clear hb2; obtain ⟨p0, p1, p2, p3, _⟩ := cells4 HW2.out.tx; have hs := HSP w2 B HW2.out HPU.out)
        | (go_at_call 41; (with_reducible refine hs.mono ?_); clear hs; rintro e w4 ⟨rfl, HCH⟩; have HW4 : Hid (UBx w w4 k f ia n c oa m d) := HW2.out.turn HCH.out.1 HCH.out.2; clear p0 p1 p2 p3; obtain ⟨y0, y1⟩ := cells2 HW4.out.res; have f0 := Joins.unfrozen_of_block HW4.out.res 0; have f1 := Joins.unfrozen_of_block HW4.out.res 1))
      obtain ⟨_, j1⟩ := two_set HW4.out.res (.int .i64 u) (.slice none 0 0)
      exact bodyPost_ret (v := .agg #[.int .i64 u, .slice none 0 0]) (by simp [results, Tryz.results13, go_sem, j1]) rfl (out_code (by omega) HW4.out.bel)
  · rw [if_pos h0]
    obtain ⟨cd, hcd⟩ : ∃ r, r = coinsR cs := ⟨_, rfl⟩
    have hF1 : Calls Tryz.prog 24 #[.slice ca nc cc] ((w.alloc (.cells #[.int .i64 k, .int .i64 f, .slice ia n c, .slice oa m d] 32)).alloc (.cells #[.int .i64 0, .slice none 0 0] 39)) fun e w' => Below ((w.alloc (.cells #[.int .i64 k, .int .i64 f, .slice ia n c, .slice oa m d] 32)).alloc (.cells #[.int .i64 0, .slice none 0 0] 39)).heap.size ((w.alloc (.cells #[.int .i64 k, .int .i64 f, .slice ia n c, .slice oa m d] 32)).alloc (.cells #[.int .i64 0, .slice none 0 0] 39)) w' ∧ e = .returned (.tuple #[.map none, .int .i64 cd]) := hF.mono fun e w' h => by
      rcases h.2 with h1 | h1
      · rw [hcd]; exact ⟨h.1, h1.2⟩
      · exact absurd h1.1 h0
    rw [← hcd] at h0 ⊢
    clear hF hcd hg hT hk hC hkc
    go_enter Tryz.func13, Tryz.ntmps13
    go_wp2_with (first
      | (go_at_call 24; (with_reducible refine hF1.mono ?_); clear hF1; rintro e w2 ⟨hb2, rfl⟩; have HW2 : Hid (UBx w w2 k f ia n c oa m d) := HW0.out.step hb2; obtain ⟨y0, y1⟩ := cells2 HW2.out.res; have f0 := Joins.unfrozen_of_block HW2.out.res 0; have f1 := Joins.unfrozen_of_block HW2.out.res 1; clear hb2))
    obtain ⟨_, j1⟩ := two_set HW2.out.res (.int .i64 cd) (.slice none 0 0)
    exact bodyPost_ret (v := .agg #[.int .i64 cd, .slice none 0 0]) (by simp [results, Tryz.results13, go_sem, j1]) rfl (out_code (by omega) HW2.out.bel)

end Go.Proofs.YtagokfoimokniaaGreatDoor
