/- The program's UndoTx keeps its contract. -/
import Derived.Test.YthjolannlefbcaaGreatDoorQf
import Derived.Test.YthjolannlefbcaaGreatDoorJn7
namespace Go.Proofs.YthjolannlefbcaaGreatDoor
open Go.RowKit Go.Maps Go.WideMaps

theorem addC_count {x : Co} : ∀ {ts : List Co}, (addC ts x).length = ts.length + 1
  | [] => rfl
  | a :: l => by
    unfold addC
    by_cases e : cmpR (a.p, a.q) (x.p, x.q) < 0
    · rw [if_pos e, List.length_cons, addC_count, List.length_cons]
    · rw [if_neg e]; rfl
theorem addCs_count : ∀ (xs cs : List Co), (addCs cs xs).length = cs.length + xs.length
  | [], cs => rfl
  | x :: xs, cs => by
    show (addCs (addC cs x) xs).length = _
    rw [addCs_count, addC_count, List.length_cons]
    omega

/-- The transaction's box and the result's block, with the worlds that grow. -/
structure UBx (w v : World) (k f : Int) (ia : Option Addr) (n c : Nat) (oa : Option Addr) (m d : Nat) : Prop where
  tx : v.heap[w.heap.size]? = some (.cells #[.int .i64 k, .int .i64 f, .slice ia n c, .slice oa m d] 28 (0, 0))
  res : v.heap[w.heap.size + 1]? = some (.cells #[.int .i64 0, .slice none 0 0] 32 (0, 0))
  bel : Below w.heap.size w v
  big : w.heap.size + 1 + 1 ≤ v.heap.size
section
variable {w v v' : World} {k f : Int} {ia oa : Option Addr} {n c m d : Nat}
theorem UBx.start : UBx w ((w.alloc (.cells #[.int .i64 k, .int .i64 f, .slice ia n c, .slice oa m d] 28)).alloc (.cells #[.int .i64 0, .slice none 0 0] 32)) k f ia n c oa m d :=
  ⟨(blocks2 w _ _).1, (blocks2 w _ _).2.1, below_box2 _ _, by rw [(blocks2 w _ _).2.2]; exact Nat.le_refl _⟩
theorem UBx.step (h : UBx w v k f ia n c oa m d) (hb : Below v.heap.size v v') : UBx w v' k f ia n c oa m d := ⟨(keepb h.tx hb).out, (keepb h.res hb).out, h.bel.trans (hb.mono h.bel.size), Nat.le_trans h.big hb.size⟩
theorem UBx.turn {B : Nat} (h : UBx w v k f ia n c oa m d) (hB : w.heap.size + 1 + 1 ≤ B) (hc : Chg v v' B (B + 1)) : UBx w v' k f ia n c oa m d :=
  ⟨hc.keep h.tx (by omega), hc.keep h.res (by omega), h.bel.trans (hc.below (by omega) h.bel.size), Nat.le_trans h.big hc.size⟩
end
theorem holds_of {w : World} {lo B : Nat} {ps : List (Co × Value)} {cs : List Co} (hP : Pu w lo B ps) (hcs : ps.map (·.1) = cs) (h : coinsR cs = 0) : Holds w lo B ps cs := by
  obtain ⟨h1, h2, h3⟩ := coins_rise h
  exact ⟨hP, h3, fun c => by rw [hcs], fun c hc => by have := (coin_more (h2 c hc)).2.2.2; omega, by omega⟩
def FilledP (v : World) (lo B : Nat) (cs : List Co) : Prop := ∃ ps, Pu v lo B ps ∧ ps.map (·.1) = cs ∧ coinsR cs = 0
theorem purses_two {w2 w3 : World} {lo B B2 : Nat} {cs sp : List Co} (h : FilledP w2 lo B cs) (h2 : FilledP w3 w2.heap.size B2 sp) (hb : Below w2.heap.size w2 w3) : ∃ ps qs, B2 ≠ B ∧ Holds w3 lo B ps cs ∧ Holds w3 w2.heap.size B2 qs sp := by
  obtain ⟨ps, a1, a2, a3⟩ := h
  obtain ⟨qs, b1, b2, b3⟩ := h2
  have := a1.lt
  have := b1.base
  exact ⟨ps, qs, by omega, (holds_of a1 a2 a3).below hb, holds_of b1 b2 b3⟩

set_option maxRecDepth 20000 in
set_option maxHeartbeats 4000000 in
theorem iUndoTx_any (nc cc ns ds : Nat) (ca sa : Option Addr) (cs sp : List Co) (n c m d : Nat) (ia oa : Option Addr) (k f : Int) (rs : List (Int × Int)) (os : List Ou) (id : Int) (w : World) (hnc : nc ≤ 1048576) (hkc : ∀ j, j < nc → (cs.getD j C0).l.length ≤ 1048576) (hns : ns ≤ 1048576) (hks : ∀ j, j < ns → (sp.getD j C0).l.length ≤ 1048576)
    (hn : n ≤ 1048576) (hm : m ≤ 1048576) (hc1 : n ≤ c) (hc2 : c ≤ maxLen) (hk : ∀ j, j < m → (os.getD j O0).l.length ≤ 1048576) (hC : CAt w ca nc cs) (hS : CAt w sa ns sp) (h : TxAt w ia n oa m rs os) :
    Calls Tryz.prog 8 #[.slice ca nc cc, .agg #[.int .i64 k, .int .i64 f, .slice ia n c, .slice oa m d], .int .i64 id, .slice sa ns ds] w fun e w' => OutCs w w' e (undoR cs k f rs os id sp).1 (undoR cs k f rs os id sp).2 := by
  have HW0 : Hid (UBx w ((w.alloc (.cells #[.int .i64 k, .int .i64 f, .slice ia n c, .slice oa m d] 28)).alloc (.cells #[.int .i64 0, .slice none 0 0] 32)) k f ia n c oa m d) := UBx.start
  have HSZ : Hid (((w.alloc (.cells #[.int .i64 k, .int .i64 f, .slice ia n c, .slice oa m d] 28)).alloc (.cells #[.int .i64 0, .slice none 0 0] 32)).heap.size = w.heap.size + 1 + 1) := (blocks2 w _ _).2.2
  have hF := fillPurse_any nc cc ca cs ((w.alloc (.cells #[.int .i64 k, .int .i64 f, .slice ia n c, .slice oa m d] 28)).alloc (.cells #[.int .i64 0, .slice none 0 0] 32)) hnc hkc (hC.below HW0.out.bel (Nat.le_refl _))
  have hFS : ∀ v, UBx w v k f ia n c oa m d → Calls Tryz.prog 17 #[.slice sa ns ds] v fun e w' => FillR v w' e sp := fun v hv => fillPurse_any ns ds sa sp v hns hks (hS.below hv.bel (Nat.le_refl _))
  rw [undoR_eq]
  by_cases h0 : coinsR cs = 0
  · have hF1 : Calls Tryz.prog 17 #[.slice ca nc cc] ((w.alloc (.cells #[.int .i64 k, .int .i64 f, .slice ia n c, .slice oa m d] 28)).alloc (.cells #[.int .i64 0, .slice none 0 0] 32)) fun e w' => Below ((w.alloc (.cells #[.int .i64 k, .int .i64 f, .slice ia n c, .slice oa m d] 28)).alloc (.cells #[.int .i64 0, .slice none 0 0] 32)).heap.size ((w.alloc (.cells #[.int .i64 k, .int .i64 f, .slice ia n c, .slice oa m d] 28)).alloc (.cells #[.int .i64 0, .slice none 0 0] 32)) w' ∧ ∃ B, e = .returned (.tuple #[.map (some B), .int .i64 0]) ∧ Hid (FilledP w' (w.heap.size + 1 + 1) B cs) := hF.mono fun e w' h => by
      rcases h.2 with h1 | ⟨_, B, ps, h1, h2, h3⟩
      · exact absurd h0 h1.1
      · rw [HSZ.out] at h2
        exact ⟨h.1, B, h1, ps, h2, h3, h0⟩
    clear hF
    rw [if_neg (by simp [h0])]
    by_cases h1 : coinsR sp = 0
    · have HF2 : ∀ v, UBx w v k f ia n c oa m d → Calls Tryz.prog 17 #[.slice sa ns ds] v fun e w' => Below v.heap.size v w' ∧ ∃ B, e = .returned (.tuple #[.map (some B), .int .i64 0]) ∧ Hid (FilledP w' v.heap.size B sp) := fun v hv => (hFS v hv).mono fun e w' h => by
        rcases h.2 with h2 | ⟨_, B, ps, h2, h3, h4⟩
        · exact absurd h1 h2.1
        · exact ⟨h.1, B, h2, ps, h3, h4, h1⟩
      clear hFS
      rw [if_neg (by simp [h1])]
      have HUN : ∀ v B B2 (ps qs : List (Co × Value)) (lo2 : Nat), UBx w v k f ia n c oa m d → lo2 ≤ v.heap.size → w.heap.size + 1 + 1 ≤ B → Holds v (w.heap.size + 1 + 1) B ps cs → Holds v lo2 B2 qs sp → B2 ≠ B → Calls Tryz.prog 24 #[.map (some B), .agg #[.int .i64 k, .int .i64 f, .slice ia n c, .slice oa m d], .int .i64 id, .map (some B2)] v fun e w' => UndoO v w' e (w.heap.size + 1 + 1) B (undoF cs k f rs os id sp) (addCs (offC cs id) sp) := fun v B B2 ps qs lo2 hv hlo2 _ hp hq hne =>
        undo_any B (w.heap.size + 1 + 1) B2 lo2 ps qs cs sp n c m d ia oa k f rs os id v hp hq hv.big hlo2 hne (fun c hc => (coin_more ((coins_rise h1).2.1 c hc)).2.2.1) hn hm hc1 hc2 hk (h.below hv.bel (Nat.le_refl _))
      obtain ⟨u, hu⟩ : ∃ u, u = undoF cs k f rs os id sp := ⟨_, rfl⟩
      rw [← hu] at HUN ⊢
      obtain ⟨zs, hzs⟩ : ∃ zs, zs = addCs (offC cs id) sp := ⟨_, rfl⟩
      rw [← hzs] at HUN ⊢
      by_cases h2 : u = 0
      · subst h2
        rw [if_neg (by simp)]
        have hri : RiseC zs := by
          rw [hzs]
          refine addCs_rise ((coins_rise h0).2.2.filter _) ?_
          unfold undoF at hu
          by_cases h3 : txR k f rs os ≠ 0
          · rw [if_pos h3] at hu; exact absurd hu.symm h3
          rw [if_neg h3] at hu
          by_cases h4 : inB id 1 60 = false
          · rw [if_pos h4] at hu; cases hu
          rw [if_neg h4] at hu
          by_cases h5 : justB sp rs = false
          · rw [if_pos h5] at hu; cases hu
          rw [if_neg h5] at hu
          by_cases h6 : madeB (ofC cs id) os = false
          · rw [if_pos h6] at hu; cases hu
          rw [if_neg h6] at hu
          by_cases h7 : rs.any (hasC cs) = true
          · rw [if_pos h7] at hu; cases hu
          exact back_apart (coins_rise h0).2.2 (coins_rise h1).2.2 (tx_facts (by simpa using h3)).2.1 (by simpa using h5) h7
        have hzl : zs.length ≤ 500 := by
          have a := (coins_rise h0).1
          have b := (coins_rise h1).1
          have c := List.length_filter_le (fun c : Co => decide (c.p ≠ id)) cs
          rw [hzs, addCs_count]
          unfold offC
          omega
        have HCO : ∀ v B, (∃ ps', Pu v (w.heap.size + 1 + 1) B ps' ∧ ∀ c, c ∈ zs ↔ c ∈ ps'.map (·.1)) → UBx w v k f ia n c oa m d → Calls Tryz.prog 19 #[.map (some B)] v fun e w' => ∃ r, e = .returned r ∧ Hid ((∃ kv, COwn w' (w.heap.size + 1 + 1) w'.heap.size r zs.length (fun j => zs.getD j C0) kv) ∧ Below v.heap.size v w') := fun v B ⟨ps', a, b⟩ hv =>
          coins_any B (w.heap.size + 1 + 1) ps' zs v a hv.big (by have := len_mem a.refs hri b; omega) hri b
        clear hu hzs hri h hk hC hS hkc hks h0 h1
        go_enter Tryz.func8, Tryz.ntmps8
        go_wp2_with (first
      | (go_at_call 17; (with_reducible refine hF1.mono ?_); clear hF1; rintro e w2 ⟨hb2, B, rfl, HPU⟩; have HW2 : Hid (UBx w w2 k f ia n c oa m d) := HW0.out.step hb2; have hF2 := HF2 w2 HW2.out; have hs2 := hb2.size; clear hb2)
      | (go_at_call 17; (with_reducible refine hF2.mono ?_); clear hF2; rintro e w3 ⟨hb3, B2, rfl, HPU2⟩; have HW3 : Hid (UBx w w3 k f ia n c oa m d) := HW2.out.step hb3; obtain ⟨p0, p1, p2, p3, _⟩ := cells4 HW3.out.tx; obtain ⟨ps, qs, hbb, hps, hqs⟩ := purses_two HPU.out HPU2.out hb3; have hs3 := hb3.size; have hun := HUN w3 B B2 ps qs w2.heap.size HW3.out (by omega) hps.pu.base hps hqs hbb; have HBB : Hid (w.heap.size + 1 + 1 ≤ B) := hps.pu.base; clear hb3 hps hqs hbb)
      | (go_at_call 24; (with_reducible refine hun.mono ?_); clear hun; rintro e w4 ⟨rfl, hch, hre⟩; have HW4 : Hid (UBx w w4 k f ia n c oa m d) := HW3.out.turn HBB.out hch; obtain ⟨y0, y1⟩ := cells2 HW4.out.res; have f0 := Joins.unfrozen_of_block HW4.out.res 0; have f1 := Joins.unfrozen_of_block HW4.out.res 1; clear hch; have hco := HCO w4 B (hre rfl) HW4.out; clear hre)
      | (go_at_call 19; (with_reducible refine hco.mono ?_); clear hco; rintro e w5 ⟨v, rfl, HS⟩; obtain ⟨va, vc, hv⟩ := own_slice3 HS.out.1; subst hv; have HW5 : Hid (UBx w w5 k f ia n c oa m d) := HW4.out.step HS.out.2; clear y0 y1 f0 f1; obtain ⟨y0, y1⟩ := cells2 HW5.out.res; have f0 := Joins.unfrozen_of_block HW5.out.res 0; have f1 := Joins.unfrozen_of_block HW5.out.res 1))
        obtain ⟨_, j1⟩ := two_set HW5.out.res (.int .i64 0) (.slice va zs.length vc)
        exact bodyPost_ret (v := .agg #[.int .i64 0, .slice va zs.length vc]) (by simp [results, Tryz.results8, go_sem, j1]) rfl (out_coins (lo := w.heap.size + 1 + 1) (by omega) (by omega) HW5.out.bel HS.out.1)
      · rw [if_pos h2]
        clear hu hzs h hk hC hS hkc hks h0 h1
        go_enter Tryz.func8, Tryz.ntmps8
        go_wp2_with (first
      | (go_at_call 17; (with_reducible refine hF1.mono ?_); clear hF1; rintro e w2 ⟨hb2, B, rfl, HPU⟩; have HW2 : Hid (UBx w w2 k f ia n c oa m d) := HW0.out.step hb2; have hF2 := HF2 w2 HW2.out; have hs2 := hb2.size; clear hb2)
      | (go_at_call 17; (with_reducible refine hF2.mono ?_); clear hF2; rintro e w3 ⟨hb3, B2, rfl, HPU2⟩; have HW3 : Hid (UBx w w3 k f ia n c oa m d) := HW2.out.step hb3; obtain ⟨p0, p1, p2, p3, _⟩ := cells4 HW3.out.tx; obtain ⟨ps, qs, hbb, hps, hqs⟩ := purses_two HPU.out HPU2.out hb3; have hs3 := hb3.size; have hun := HUN w3 B B2 ps qs w2.heap.size HW3.out (by omega) hps.pu.base hps hqs hbb; have HBB : Hid (w.heap.size + 1 + 1 ≤ B) := hps.pu.base; clear hb3 hps hqs hbb)
      | (go_at_call 24; (with_reducible refine hun.mono ?_); clear hun; rintro e w4 ⟨rfl, hch, hre⟩; have HW4 : Hid (UBx w w4 k f ia n c oa m d) := HW3.out.turn HBB.out hch; obtain ⟨y0, y1⟩ := cells2 HW4.out.res; have f0 := Joins.unfrozen_of_block HW4.out.res 0; have f1 := Joins.unfrozen_of_block HW4.out.res 1; clear hch; clear hre))
        obtain ⟨_, j1⟩ := two_set HW4.out.res (.int .i64 u) (.slice none 0 0)
        exact bodyPost_ret (v := .agg #[.int .i64 u, .slice none 0 0]) (by simp [results, Tryz.results8, go_sem, j1]) rfl (out_code (by omega) HW4.out.bel)
    · rw [if_pos h1]
      obtain ⟨cd, hcd⟩ : ∃ r, r = coinsR sp := ⟨_, rfl⟩
      have HF2 : ∀ v, UBx w v k f ia n c oa m d → Calls Tryz.prog 17 #[.slice sa ns ds] v fun e w' => Below v.heap.size v w' ∧ e = .returned (.tuple #[.map none, .int .i64 cd]) := fun v hv => (hFS v hv).mono fun e w' h => by
        rcases h.2 with h2 | h2
        · rw [hcd]; exact ⟨h.1, h2.2⟩
        · exact absurd h2.1 h1
      rw [← hcd] at h1 ⊢
      clear hFS hcd h hk hC hS hkc hks
      go_enter Tryz.func8, Tryz.ntmps8
      go_wp2_with (first
      | (go_at_call 17; (with_reducible refine hF1.mono ?_); clear hF1; rintro e w2 ⟨hb2, B, rfl, HPU⟩; have HW2 : Hid (UBx w w2 k f ia n c oa m d) := HW0.out.step hb2; have hF2 := HF2 w2 HW2.out; have hs2 := hb2.size; clear hb2)
      | (go_at_call 17; (with_reducible refine hF2.mono ?_); clear hF2; rintro e w3 ⟨hb3, rfl⟩; have HW3 : Hid (UBx w w3 k f ia n c oa m d) := HW2.out.step hb3; obtain ⟨y0, y1⟩ := cells2 HW3.out.res; have f0 := Joins.unfrozen_of_block HW3.out.res 0; have f1 := Joins.unfrozen_of_block HW3.out.res 1; clear hb3))
      obtain ⟨_, j1⟩ := two_set HW3.out.res (.int .i64 cd) (.slice none 0 0)
      exact bodyPost_ret (v := .agg #[.int .i64 cd, .slice none 0 0]) (by simp [results, Tryz.results8, go_sem, j1]) rfl (out_code (by omega) HW3.out.bel)
  · rw [if_pos h0]
    obtain ⟨cd, hcd⟩ : ∃ r, r = coinsR cs := ⟨_, rfl⟩
    have hF1 : Calls Tryz.prog 17 #[.slice ca nc cc] ((w.alloc (.cells #[.int .i64 k, .int .i64 f, .slice ia n c, .slice oa m d] 28)).alloc (.cells #[.int .i64 0, .slice none 0 0] 32)) fun e w' => Below ((w.alloc (.cells #[.int .i64 k, .int .i64 f, .slice ia n c, .slice oa m d] 28)).alloc (.cells #[.int .i64 0, .slice none 0 0] 32)).heap.size ((w.alloc (.cells #[.int .i64 k, .int .i64 f, .slice ia n c, .slice oa m d] 28)).alloc (.cells #[.int .i64 0, .slice none 0 0] 32)) w' ∧ e = .returned (.tuple #[.map none, .int .i64 cd]) := hF.mono fun e w' h => by
      rcases h.2 with h1 | h1
      · rw [hcd]; exact ⟨h.1, h1.2⟩
      · exact absurd h1.1 h0
    rw [← hcd] at h0 ⊢
    clear hF hFS hcd h hk hC hS hkc hks
    go_enter Tryz.func8, Tryz.ntmps8
    go_wp2_with (first
      | (go_at_call 17; (with_reducible refine hF1.mono ?_); clear hF1; rintro e w2 ⟨hb2, rfl⟩; have HW2 : Hid (UBx w w2 k f ia n c oa m d) := HW0.out.step hb2; obtain ⟨y0, y1⟩ := cells2 HW2.out.res; have f0 := Joins.unfrozen_of_block HW2.out.res 0; have f1 := Joins.unfrozen_of_block HW2.out.res 1; clear hb2))
    obtain ⟨_, j1⟩ := two_set HW2.out.res (.int .i64 cd) (.slice none 0 0)
    exact bodyPost_ret (v := .agg #[.int .i64 cd, .slice none 0 0]) (by simp [results, Tryz.results8, go_sem, j1]) rfl (out_code (by omega) HW2.out.bel)

end Go.Proofs.YthjolannlefbcaaGreatDoor
