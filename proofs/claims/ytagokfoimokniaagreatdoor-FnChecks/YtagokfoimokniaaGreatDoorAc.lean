/- The program's CheckTx keeps its contract: checkIn, and the whole of it. -/
import Derived.Test.YtagokfoimokniaaGreatDoorAb
import Derived.Test.YtagokfoimokniaaGreatDoorJn1
namespace Go.Proofs.YtagokfoimokniaaGreatDoor
open Go.RowKit Go.Shelf Go.Maps Go.WideMaps

theorem fee2R_zero {ss : List ByteArray} {gs : List (Int × Int)} {cs : List Co} {k f : Int} {rs : List (Int × Int)} {os : List Ou} {h : Int} : (fee2R ss gs cs k f rs os h).1 ≠ 0 → (fee2R ss gs cs k f rs os h).2 = 0 := by
  unfold fee2R feeR
  repeat' split
  all_goals (intro hq; first | rfl | exact absurd rfl hq)
theorem blocks3 (w : World) (o o' o2 : Obj) : (((w.alloc o).alloc o').alloc o2).heap[w.heap.size]? = some o ∧ (((w.alloc o).alloc o').alloc o2).heap[w.heap.size + 1]? = some o' ∧ (((w.alloc o).alloc o').alloc o2).heap[w.heap.size + 1 + 1]? = some o2 := by
  obtain ⟨a, b, c⟩ := blocks2 w o o'
  exact ⟨(keepb a (below_box _)).out, (keepb b (below_box _)).out, heap_alloc_at _ _ _ c.symm⟩
theorem below_two {w W : World} {R : Nat} (hb : Below w.heap.size w W) (hR : w.heap.size ≤ R) (v0 v1 : Value) : Below w.heap.size w ((W.setCell ⟨R, 0, none⟩ v0).setCell ⟨R, 1, none⟩ v1) :=
  (hb.setCell (p := ⟨R, 0, none⟩) hR _).setCell (p := ⟨R, 1, none⟩) hR _

set_option maxRecDepth 20000 in
set_option maxHeartbeats 4000000 in
theorem checkIn_any (p q base top B lo : Nat) (ss : List ByteArray) (gs : List (Int × Int)) (ps : List (Co × Value)) (cs : List Co) (n c m d : Nat) (ia oa : Option Addr) (k f : Int) (rs : List (Int × Int)) (os : List Ou) (h : Int) (w : World) (hg : w.cell? ⟨1, 0, none⟩ = some (.iface 224 (.agg #[.pointer (some ⟨8, 90, none⟩)]))) (hT : TwS w base p ss) (hG : TwG w top q gs) (hE : Ev w) (hH : Holds w lo B ps cs) (hok : ∀ c ∈ cs, coinR c = 0) (h40 : cs.length ≤ 40) (hs60 : ss.length ≤ 60) (hn : n ≤ 1048576) (hm : m ≤ 1048576) (hc1 : n ≤ c) (hc2 : c ≤ maxLen) (hk : ∀ j, j < m → (os.getD j O0).l.length ≤ 1048576) (hX : TxAt w ia n oa m rs os) :
    Calls Tryz.prog 25 #[.agg #[.pointer (some ⟨p, 0, none⟩), .pointer (some ⟨q, 0, none⟩)], .map (some B), .agg #[.int .i64 k, .int .i64 f, .slice ia n c, .slice oa m d], .int .i64 h] w fun e w' => e = .returned (.agg #[.int .i64 (ckR ss gs cs k f rs os h).1, .int .i64 (ckR ss gs cs k f rs os h).2]) ∧ Below w.heap.size w w' := by
  have HW0 : Hid (FBx w (((w.alloc (.cells #[.pointer (some ⟨p, 0, none⟩), .pointer (some ⟨q, 0, none⟩)] 71)).alloc (.cells #[.int .i64 k, .int .i64 f, .slice ia n c, .slice oa m d] 32)).alloc (.cells #[.int .i64 0, .int .i64 0] 36)) p q k f ia n c oa m d) := FBx.start.step (below_box _)
  have HR0 : Hid ((((w.alloc (.cells #[.pointer (some ⟨p, 0, none⟩), .pointer (some ⟨q, 0, none⟩)] 71)).alloc (.cells #[.int .i64 k, .int .i64 f, .slice ia n c, .slice oa m d] 32)).alloc (.cells #[.int .i64 0, .int .i64 0] 36)).heap[w.heap.size + 1 + 1]? = some (.cells #[.int .i64 0, .int .i64 0] 36 (0, 0))) := (blocks3 w _ _ _).2.2
  obtain ⟨p0, p1, p2, p3, _⟩ := cells4 HW0.out.tx
  have hF := iTxFault_any n c m d ia oa k f rs os (((w.alloc (.cells #[.pointer (some ⟨p, 0, none⟩), .pointer (some ⟨q, 0, none⟩)] 71)).alloc (.cells #[.int .i64 k, .int .i64 f, .slice ia n c, .slice oa m d] 32)).alloc (.cells #[.int .i64 0, .int .i64 0] 36)) hn hm hc1 hc2 hk (hX.below HW0.out.bel (Nat.le_refl _))
  obtain ⟨bh, hbh⟩ : ∃ b, b = inB h 0 999 := ⟨_, rfl⟩
  have HHT : ∀ v, Calls Tryz.prog 39 #[.int .i64 h] v fun e w' => e = .returned (.bool bh) ∧ w' = v := fun v => by rw [hbh]; exact isHeight_any h v
  unfold ckR
  by_cases h0 : txR k f rs os = 0
  · rw [if_neg (by simp [h0])]
    rw [h0] at hF
    rw [← hbh]
    cases bh
    · rw [if_pos rfl]
      clear hbh h0 hg hT hG hE hH hok hk hX
      go_enter Tryz.func25, Tryz.ntmps25
      go_wp2_with (first
        | (go_at_call 33; (with_reducible refine hF.mono ?_); clear hF; rintro e w2 ⟨rfl, hb2⟩; have HW2 : Hid (FBx w w2 p q k f ia n c oa m d) := HW0.out.step hb2; have HR2 : Hid (w2.heap[w.heap.size + 1 + 1]? = some (.cells #[.int .i64 0, .int .i64 0] 36 (0, 0))) := keepb HR0.out hb2; clear hb2 p0 p1 p2 p3; obtain ⟨r0, r1⟩ := cells2 HR2.out; have f0 := Joins.unfrozen_of_block HR2.out 0; have f1 := Joins.unfrozen_of_block HR2.out 1; have hht := HHT w2)
        | (go_at_call 39; (with_reducible refine hht.mono ?_); clear hht; rintro e w3 ⟨rfl, hw3⟩; have hw4 := hw3.symm; subst hw4))
      obtain ⟨s0, s1, s2⟩ := two_set HR2.out (.int .i64 3) (.int .i64 0)
      exact bodyPost_ret (v := .agg #[.int .i64 3, .int .i64 0]) (by simp [results, Tryz.results25, go_sem, s0, s1]) rfl ⟨rfl, below_two HW2.out.bel (by omega) _ _⟩
    · rw [if_neg (by simp)]
      have HFE : ∀ v, Below w.heap.size w v → Calls Tryz.prog 58 #[.agg #[.pointer (some ⟨p, 0, none⟩), .pointer (some ⟨q, 0, none⟩)], .map (some B), .agg #[.int .i64 k, .int .i64 f, .slice ia n c, .slice oa m d], .int .i64 h] v fun e w' => NumO v w' e (fee2R ss gs cs k f rs os h).1 (fee2R ss gs cs k f rs os h).2 := fun v hv =>
        feeOf_any p q base top B lo ss gs ps cs n c m d ia oa k f rs os h v (hT.below hv) (hG.below hv) (hE.below hv (Nat.le_refl _)) (hH.below hv) hok h40 hs60 hn hm hc1 hc2 hk (hX.below hv (Nat.le_refl _)) h0 hbh.symm
      have hz := fee2R_zero (ss := ss) (gs := gs) (cs := cs) (k := k) (f := f) (rs := rs) (os := os) (h := h)
      obtain ⟨rc, hrc⟩ : ∃ x, x = (fee2R ss gs cs k f rs os h).1 := ⟨_, rfl⟩
      obtain ⟨fe, hfe⟩ : ∃ x, x = (fee2R ss gs cs k f rs os h).2 := ⟨_, rfl⟩
      rw [← hrc, ← hfe] at HFE hz ⊢
      have HGE : Hid (w.cell? ⟨1, 0, none⟩ = some (.iface 224 (.agg #[.pointer (some ⟨8, 90, none⟩)]))) := hg
      clear hbh h0 hg hT hG hE hH hok hk hX hrc hfe
      by_cases h1 : rc = 0
      · subst h1
        have HF0 : ∀ v, Below w.heap.size w v → Calls Tryz.prog 58 #[.agg #[.pointer (some ⟨p, 0, none⟩), .pointer (some ⟨q, 0, none⟩)], .map (some B), .agg #[.int .i64 k, .int .i64 f, .slice ia n c, .slice oa m d], .int .i64 h] v fun e w' => e = .returned (.tuple #[.int .i64 fe, .nilIface]) ∧ Below v.heap.size v w' := fun v hv => (HFE v hv).mono fun e w' q => by
          rcases q.2 with ⟨_, q1⟩ | ⟨q1, _⟩
          · exact ⟨q1, q.1⟩
          · exact absurd rfl q1
        clear HFE hz
        go_enter Tryz.func25, Tryz.ntmps25
        go_wp2_with (first
          | (go_at_call 33; (with_reducible refine hF.mono ?_); clear hF; rintro e w2 ⟨rfl, hb2⟩; have HW2 : Hid (FBx w w2 p q k f ia n c oa m d) := HW0.out.step hb2; have HR2 : Hid (w2.heap[w.heap.size + 1 + 1]? = some (.cells #[.int .i64 0, .int .i64 0] 36 (0, 0))) := keepb HR0.out hb2; clear hb2 p0 p1 p2 p3; obtain ⟨p0, p1, p2, p3, _⟩ := cells4 HW2.out.tx; obtain ⟨y0, y1⟩ := cells2 HW2.out.bk; have hht := HHT w2)
          | (go_at_call 39; (with_reducible refine hht.mono ?_); clear hht; rintro e w3 ⟨rfl, hw3⟩; have hw4 := hw3.symm; subst hw4; have hfe := HF0 w2 HW2.out.bel)
          | (go_at_call 58; (with_reducible refine hfe.mono ?_); clear hfe; rintro e w4 ⟨rfl, hb4⟩; have HW4 : Hid (FBx w w4 p q k f ia n c oa m d) := HW2.out.step hb4; have HR4 : Hid (w4.heap[w.heap.size + 1 + 1]? = some (.cells #[.int .i64 0, .int .i64 0] 36 (0, 0))) := keepb HR2.out hb4; clear hb4 p0 p1 p2 p3 y0 y1; have hmc := missing_nil w4)
          | (go_at_call 35; (with_reducible refine hmc.mono ?_); clear hmc; rintro e w5 ⟨rfl, hb5⟩; have HW5 : Hid (FBx w w5 p q k f ia n c oa m d) := HW4.out.step hb5; have HR5 : Hid (w5.heap[w.heap.size + 1 + 1]? = some (.cells #[.int .i64 0, .int .i64 0] 36 (0, 0))) := keepb HR4.out hb5; clear hb5; obtain ⟨r0, r1⟩ := cells2 HR5.out; have f0 := Joins.unfrozen_of_block HR5.out 0; have f1 := Joins.unfrozen_of_block HR5.out 1))
        obtain ⟨s0, s1, s2⟩ := two_set HR5.out (.int .i64 0) (.int .i64 fe)
        exact bodyPost_ret (v := .agg #[.int .i64 0, .int .i64 fe]) (by simp [results, Tryz.results25, go_sem, s0, s1]) rfl ⟨rfl, below_two HW5.out.bel (by omega) _ _⟩
      · obtain rfl : fe = 0 := hz h1
        have HF0 : ∀ v, Below w.heap.size w v → Calls Tryz.prog 58 #[.agg #[.pointer (some ⟨p, 0, none⟩), .pointer (some ⟨q, 0, none⟩)], .map (some B), .agg #[.int .i64 k, .int .i64 f, .slice ia n c, .slice oa m d], .int .i64 h] v fun e w' => ∃ s, e = .returned (.tuple #[.int .i64 0, .iface 141 (.agg #[.string s, .int .i64 rc])]) ∧ Below v.heap.size v w' := fun v hv => (HFE v hv).mono fun e w' q => by
          rcases q.2 with ⟨q1, _⟩ | ⟨_, s, q1⟩
          · exact absurd q1 h1
          · exact ⟨s, q1, q.1⟩
        clear HFE hz
        go_enter Tryz.func25, Tryz.ntmps25
        go_wp2_with (first
          | (go_at_call 33; (with_reducible refine hF.mono ?_); clear hF; rintro e w2 ⟨rfl, hb2⟩; have HW2 : Hid (FBx w w2 p q k f ia n c oa m d) := HW0.out.step hb2; have HR2 : Hid (w2.heap[w.heap.size + 1 + 1]? = some (.cells #[.int .i64 0, .int .i64 0] 36 (0, 0))) := keepb HR0.out hb2; clear hb2 p0 p1 p2 p3; obtain ⟨p0, p1, p2, p3, _⟩ := cells4 HW2.out.tx; obtain ⟨y0, y1⟩ := cells2 HW2.out.bk; have hht := HHT w2)
          | (go_at_call 39; (with_reducible refine hht.mono ?_); clear hht; rintro e w3 ⟨rfl, hw3⟩; have hw4 := hw3.symm; subst hw4; have hfe := HF0 w2 HW2.out.bel)
          | (go_at_call 58; (with_reducible refine hfe.mono ?_); clear hfe; rintro e w4 ⟨s, rfl, hb4⟩; have HW4 : Hid (FBx w w4 p q k f ia n c oa m d) := HW2.out.step hb4; have HR4 : Hid (w4.heap[w.heap.size + 1 + 1]? = some (.cells #[.int .i64 0, .int .i64 0] 36 (0, 0))) := keepb HR2.out hb4; clear hb4 p0 p1 p2 p3 y0 y1; have hmc := missing_hit s rc w4 ((HW4.out.bel.cell (p := ⟨1, 0, none⟩) (block_lt_of_cell HGE.out)).trans HGE.out))
          | (go_at_call 35; (with_reducible refine hmc.mono ?_); clear hmc; rintro e w5 ⟨rfl, hb5⟩; have HW5 : Hid (FBx w w5 p q k f ia n c oa m d) := HW4.out.step hb5; have HR5 : Hid (w5.heap[w.heap.size + 1 + 1]? = some (.cells #[.int .i64 0, .int .i64 0] 36 (0, 0))) := keepb HR4.out hb5; clear hb5; obtain ⟨r0, r1⟩ := cells2 HR5.out; have f0 := Joins.unfrozen_of_block HR5.out 0; have f1 := Joins.unfrozen_of_block HR5.out 1))
        obtain ⟨s0, s1, s2⟩ := two_set HR5.out (.int .i64 rc) (.int .i64 0)
        exact bodyPost_ret (v := .agg #[.int .i64 rc, .int .i64 0]) (by simp [results, Tryz.results25, go_sem, s0, s1]) rfl ⟨rfl, below_two HW5.out.bel (by omega) _ _⟩
  · rw [if_pos h0]
    obtain ⟨cd, hcd⟩ : ∃ r, r = txR k f rs os := ⟨_, rfl⟩
    rw [← hcd] at h0 hF ⊢
    clear hcd hbh hg hT hG hE hH hok hk hX HHT
    go_enter Tryz.func25, Tryz.ntmps25
    go_wp2_with (first
      | (go_at_call 33; (with_reducible refine hF.mono ?_); clear hF; rintro e w2 ⟨rfl, hb2⟩; have HW2 : Hid (FBx w w2 p q k f ia n c oa m d) := HW0.out.step hb2; have HR2 : Hid (w2.heap[w.heap.size + 1 + 1]? = some (.cells #[.int .i64 0, .int .i64 0] 36 (0, 0))) := keepb HR0.out hb2; clear hb2 p0 p1 p2 p3; obtain ⟨r0, r1⟩ := cells2 HR2.out; have f0 := Joins.unfrozen_of_block HR2.out 0; have f1 := Joins.unfrozen_of_block HR2.out 1))
    obtain ⟨s0, s1, s2⟩ := two_set HR2.out (.int .i64 cd) (.int .i64 0)
    exact bodyPost_ret (v := .agg #[.int .i64 cd, .int .i64 0]) (by simp [results, Tryz.results25, go_sem, s0, s1]) rfl ⟨rfl, below_two HW2.out.bel (by omega) _ _⟩

/-- A ledger, a transaction and a result in their boxes. -/
structure KBx (w v : World) (ta : Option Addr) (tn tc : Nat) (ga : Option Addr) (gn gc : Nat) (k f : Int) (ia : Option Addr) (n c : Nat) (oa : Option Addr) (m d : Nat) : Prop where
  led : v.heap[w.heap.size]? = some (.cells #[.slice ta tn tc, .slice ga gn gc] 27 (0, 0))
  tx : v.heap[w.heap.size + 1]? = some (.cells #[.int .i64 k, .int .i64 f, .slice ia n c, .slice oa m d] 32 (0, 0))
  res : v.heap[w.heap.size + 1 + 1]? = some (.cells #[.int .i64 0, .int .i64 0] 36 (0, 0))
  bel : Below w.heap.size w v
section
variable {w v v' : World} {ta ga ia oa : Option Addr} {tn tc gn gc n c m d : Nat} {k f : Int}
theorem KBx.start : KBx w (((w.alloc (.cells #[.slice ta tn tc, .slice ga gn gc] 27)).alloc (.cells #[.int .i64 k, .int .i64 f, .slice ia n c, .slice oa m d] 32)).alloc (.cells #[.int .i64 0, .int .i64 0] 36)) ta tn tc ga gn gc k f ia n c oa m d := ⟨(blocks3 w _ _ _).1, (blocks3 w _ _ _).2.1, (blocks3 w _ _ _).2.2, (below_box2 _ _).trans ((below_box _).mono (below_box2 _ _).size)⟩
theorem KBx.step (h : KBx w v ta tn tc ga gn gc k f ia n c oa m d) (hb : Below v.heap.size v v') : KBx w v' ta tn tc ga gn gc k f ia n c oa m d := ⟨(keepb h.led hb).out, (keepb h.tx hb).out, (keepb h.res hb).out, h.bel.trans (hb.mono h.bel.size)⟩
end

set_option maxRecDepth 20000 in
set_option maxHeartbeats 4000000 in
theorem iCheckTx_any (tn tc gn gc : Nat) (ta ga : Option Addr) (ss : List ByteArray) (gs : List (Int × Int)) (nc cc : Nat) (ca : Option Addr) (cs : List Co) (n c m d : Nat) (ia oa : Option Addr) (k f : Int) (rs : List (Int × Int)) (os : List Ou) (h : Int) (w : World) (hg : w.cell? ⟨1, 0, none⟩ = some (.iface 224 (.agg #[.pointer (some ⟨8, 90, none⟩)]))) (hE : Ev w) (hf : Fine ss gs) (hL : LedAt w ta tn ga gn ss gs) (hnc : nc ≤ 1048576) (hkc : ∀ j, j < nc → (cs.getD j C0).l.length ≤ 1048576) (hC : CAt w ca nc cs) (hn : n ≤ 1048576) (hm : m ≤ 1048576) (hc1 : n ≤ c) (hc2 : c ≤ maxLen) (hk : ∀ j, j < m → (os.getD j O0).l.length ≤ 1048576) (hX : TxAt w ia n oa m rs os) :
    Calls Tryz.prog 6 #[.agg #[.slice ta tn tc, .slice ga gn gc], .slice ca nc cc, .agg #[.int .i64 k, .int .i64 f, .slice ia n c, .slice oa m d], .int .i64 h] w fun e w' => e = .returned (.agg #[.int .i64 (checkR ss gs cs k f rs os h).1, .int .i64 (checkR ss gs cs k f rs os h).2]) ∧ Below w.heap.size w w' := by
  have HW0 : Hid (KBx w (((w.alloc (.cells #[.slice ta tn tc, .slice ga gn gc] 27)).alloc (.cells #[.int .i64 k, .int .i64 f, .slice ia n c, .slice oa m d] 32)).alloc (.cells #[.int .i64 0, .int .i64 0] 36)) ta tn tc ga gn gc k f ia n c oa m d) := KBx.start
  obtain ⟨l0, l1⟩ := cells2 HW0.out.led
  have hR := readLedger_any tn gn tc gc ta ga ss gs (((w.alloc (.cells #[.slice ta tn tc, .slice ga gn gc] 27)).alloc (.cells #[.int .i64 k, .int .i64 f, .slice ia n c, .slice oa m d] 32)).alloc (.cells #[.int .i64 0, .int .i64 0] 36)) hf.s hf.g (hL.s.below HW0.out.bel (Nat.le_refl _)) (hL.g.below HW0.out.bel (Nat.le_refl _))
  have HFP : ∀ v, Below w.heap.size w v → Calls Tryz.prog 24 #[.slice ca nc cc] v fun e w' => FillR v w' e cs := fun v hv => fillPurse_any nc cc ca cs v hnc hkc (hC.below hv (Nat.le_refl _))
  unfold checkR
  by_cases h0 : flt ss gs = 0
  · rw [if_neg (by simp [h0])]
    have hs60 := (flt_le h0.symm).1
    have hR0 : Calls Tryz.prog 23 #[.agg #[.slice ta tn tc, .slice ga gn gc]] (((w.alloc (.cells #[.slice ta tn tc, .slice ga gn gc] 27)).alloc (.cells #[.int .i64 k, .int .i64 f, .slice ia n c, .slice oa m d] 32)).alloc (.cells #[.int .i64 0, .int .i64 0] 36)) fun e w' => ∃ p q, e = .returned (.tuple #[.agg #[.pointer (some ⟨p, 0, none⟩), .pointer (some ⟨q, 0, none⟩)], .int .i64 0]) ∧ Hid (∃ base top, TwS w' base p ss ∧ TwG w' top q gs) ∧ Below (((w.alloc (.cells #[.slice ta tn tc, .slice ga gn gc] 27)).alloc (.cells #[.int .i64 k, .int .i64 f, .slice ia n c, .slice oa m d] 32)).alloc (.cells #[.int .i64 0, .int .i64 0] 36)).heap.size (((w.alloc (.cells #[.slice ta tn tc, .slice ga gn gc] 27)).alloc (.cells #[.int .i64 k, .int .i64 f, .slice ia n c, .slice oa m d] 32)).alloc (.cells #[.int .i64 0, .int .i64 0] 36)) w' := hR.mono fun e w' q => by
      rcases q.2 with ⟨_, p, q', top, e1, e2, _, e3, _⟩ | ⟨q1, _⟩
      · exact ⟨p, q', e1, ⟨_, top, e2, e3⟩, q.1⟩
      · exact absurd h0 q1
    clear hR
    by_cases h1 : coinsR cs = 0
    · rw [if_neg (by simp [h1])]
      have HF0 : ∀ v, Below w.heap.size w v → Calls Tryz.prog 24 #[.slice ca nc cc] v fun e w' => Below v.heap.size v w' ∧ ∃ B, e = .returned (.tuple #[.map (some B), .int .i64 0]) ∧ Hid (FilledP w' v.heap.size B cs) := fun v hv => (HFP v hv).mono fun e w' q => by
        rcases q.2 with q1 | ⟨_, B, ps, q1, q2, q3⟩
        · exact absurd h1 q1.1
        · exact ⟨q.1, B, q1, ps, q2, q3, h1⟩
      have HCK : ∀ v p q B lo, Below w.heap.size w v → (∃ base top, TwS v base p ss ∧ TwG v top q gs) → FilledP v lo B cs → Calls Tryz.prog 25 #[.agg #[.pointer (some ⟨p, 0, none⟩), .pointer (some ⟨q, 0, none⟩)], .map (some B), .agg #[.int .i64 k, .int .i64 f, .slice ia n c, .slice oa m d], .int .i64 h] v fun e w' => e = .returned (.agg #[.int .i64 (ckR ss gs cs k f rs os h).1, .int .i64 (ckR ss gs cs k f rs os h).2]) ∧ Below v.heap.size v w' := fun v p q B lo hv ⟨base, top, a1, a2⟩ ⟨ps, b1, b2, b3⟩ =>
        checkIn_any p q base top B lo ss gs ps cs n c m d ia oa k f rs os h v ((hv.cell (p := ⟨1, 0, none⟩) (block_lt_of_cell hg)).trans hg) a1 a2 (hE.below hv (Nat.le_refl _)) (holds_of b1 b2 b3) (coins_rise h1).2.1 (coins_rise h1).1 hs60 hn hm hc1 hc2 hk (hX.below hv (Nat.le_refl _))
      obtain ⟨rc, hrc⟩ : ∃ x, x = (ckR ss gs cs k f rs os h).1 := ⟨_, rfl⟩
      obtain ⟨fe, hfe⟩ : ∃ x, x = (ckR ss gs cs k f rs os h).2 := ⟨_, rfl⟩
      rw [← hrc, ← hfe] at HCK ⊢
      clear hrc hfe HFP h0 h1 hg hE hf hL hkc hC hk hX
      go_enter Tryz.func6, Tryz.ntmps6
      go_wp2_with (first
        | (go_at_call 23; (with_reducible refine hR0.mono ?_); clear hR0; rintro e w2 ⟨p, q, rfl, HTG, hb2⟩; have HW2 : Hid (KBx w (w2.alloc (.cells #[.pointer (some ⟨p, 0, none⟩), .pointer (some ⟨q, 0, none⟩)] 71)) ta tn tc ga gn gc k f ia n c oa m d) := (HW0.out.step hb2).step (below_box _); clear hb2 l0 l1; have hfp := HF0 (w2.alloc (.cells #[.pointer (some ⟨p, 0, none⟩), .pointer (some ⟨q, 0, none⟩)] 71)) HW2.out.bel)
        | (go_at_call 24; (with_reducible refine hfp.mono ?_); clear hfp; rintro e w3 ⟨hb3, B, rfl, HPU⟩; have HW3 : Hid (KBx w w3 ta tn tc ga gn gc k f ia n c oa m d) := HW2.out.step hb3; have HB3 := keepb (heap_alloc_new w2 (.cells #[.pointer (some ⟨p, 0, none⟩), .pointer (some ⟨q, 0, none⟩)] 71)) hb3; obtain ⟨y0, y1⟩ := cells2 HB3.out; obtain ⟨p0, p1, p2, p3, _⟩ := cells4 HW3.out.tx; have hck := HCK w3 p q B _ HW3.out.bel (by obtain ⟨base, top, a1, a2⟩ := HTG.out; exact ⟨base, top, (a1.below (below_box _)).below hb3, (a2.below (below_box _)).below hb3⟩) HPU.out; clear hb3)
        | (go_at_call 25; (with_reducible refine hck.mono ?_); clear hck; rintro e w4 ⟨rfl, hb4⟩; have HW4 : Hid (KBx w w4 ta tn tc ga gn gc k f ia n c oa m d) := HW3.out.step hb4; clear hb4 p0 p1 p2 p3 y0 y1; obtain ⟨r0, r1⟩ := cells2 HW4.out.res; have f0 := Joins.unfrozen_of_block HW4.out.res 0; have f1 := Joins.unfrozen_of_block HW4.out.res 1))
      obtain ⟨s0, s1, s2⟩ := two_set HW4.out.res (.int .i64 rc) (.int .i64 fe)
      exact bodyPost_ret (v := .agg #[.int .i64 rc, .int .i64 fe]) (by simp [results, Tryz.results6, go_sem, s0, s1]) rfl ⟨rfl, below_two HW4.out.bel (by omega) _ _⟩
    · rw [if_pos h1]
      obtain ⟨cd, hcd⟩ : ∃ r, r = coinsR cs := ⟨_, rfl⟩
      have HF0 : ∀ v, Below w.heap.size w v → Calls Tryz.prog 24 #[.slice ca nc cc] v fun e w' => Below v.heap.size v w' ∧ e = .returned (.tuple #[.map none, .int .i64 cd]) := fun v hv => (HFP v hv).mono fun e w' q => by
        rcases q.2 with q1 | q1
        · rw [hcd]; exact ⟨q.1, q1.2⟩
        · exact absurd q1.1 h1
      rw [← hcd] at h1 ⊢
      clear hcd HFP h0 hg hE hf hL hkc hC hk hX
      go_enter Tryz.func6, Tryz.ntmps6
      go_wp2_with (first
        | (go_at_call 23; (with_reducible refine hR0.mono ?_); clear hR0; rintro e w2 ⟨p, q, rfl, HTG, hb2⟩; have HW2 : Hid (KBx w (w2.alloc (.cells #[.pointer (some ⟨p, 0, none⟩), .pointer (some ⟨q, 0, none⟩)] 71)) ta tn tc ga gn gc k f ia n c oa m d) := (HW0.out.step hb2).step (below_box _); clear hb2 l0 l1; have hfp := HF0 (w2.alloc (.cells #[.pointer (some ⟨p, 0, none⟩), .pointer (some ⟨q, 0, none⟩)] 71)) HW2.out.bel)
        | (go_at_call 24; (with_reducible refine hfp.mono ?_); clear hfp; rintro e w3 ⟨hb3, rfl⟩; have HW3 : Hid (KBx w w3 ta tn tc ga gn gc k f ia n c oa m d) := HW2.out.step hb3; clear hb3; obtain ⟨r0, r1⟩ := cells2 HW3.out.res; have f0 := Joins.unfrozen_of_block HW3.out.res 0; have f1 := Joins.unfrozen_of_block HW3.out.res 1))
      obtain ⟨s0, s1, s2⟩ := two_set HW3.out.res (.int .i64 cd) (.int .i64 0)
      exact bodyPost_ret (v := .agg #[.int .i64 cd, .int .i64 0]) (by simp [results, Tryz.results6, go_sem, s0, s1]) rfl ⟨rfl, below_two HW3.out.bel (by omega) _ _⟩
  · rw [if_pos h0]
    obtain ⟨cd, hcd⟩ : ∃ r, r = flt ss gs := ⟨_, rfl⟩
    have hR0 : Calls Tryz.prog 23 #[.agg #[.slice ta tn tc, .slice ga gn gc]] (((w.alloc (.cells #[.slice ta tn tc, .slice ga gn gc] 27)).alloc (.cells #[.int .i64 k, .int .i64 f, .slice ia n c, .slice oa m d] 32)).alloc (.cells #[.int .i64 0, .int .i64 0] 36)) fun e w' => e = .returned (.tuple #[.agg #[.pointer none, .pointer none], .int .i64 cd]) ∧ Below (((w.alloc (.cells #[.slice ta tn tc, .slice ga gn gc] 27)).alloc (.cells #[.int .i64 k, .int .i64 f, .slice ia n c, .slice oa m d] 32)).alloc (.cells #[.int .i64 0, .int .i64 0] 36)).heap.size (((w.alloc (.cells #[.slice ta tn tc, .slice ga gn gc] 27)).alloc (.cells #[.int .i64 k, .int .i64 f, .slice ia n c, .slice oa m d] 32)).alloc (.cells #[.int .i64 0, .int .i64 0] 36)) w' := hR.mono fun e w' q => by
      rcases q.2 with ⟨q1, _⟩ | ⟨_, q1⟩
      · exact absurd q1 h0
      · rw [hcd]; exact ⟨q1, q.1⟩
    rw [← hcd] at h0 ⊢
    clear hcd hR HFP hg hE hf hL hkc hC hk hX
    go_enter Tryz.func6, Tryz.ntmps6
    go_wp2_with (first
      | (go_at_call 23; (with_reducible refine hR0.mono ?_); clear hR0; rintro e w2 ⟨rfl, hb2⟩; have HW2 : Hid (KBx w (w2.alloc (.cells #[.pointer none, .pointer none] 71)) ta tn tc ga gn gc k f ia n c oa m d) := (HW0.out.step hb2).step (below_box _); clear hb2 l0 l1; obtain ⟨r0, r1⟩ := cells2 HW2.out.res; have f0 := Joins.unfrozen_of_block HW2.out.res 0; have f1 := Joins.unfrozen_of_block HW2.out.res 1))
    obtain ⟨s0, s1, s2⟩ := two_set HW2.out.res (.int .i64 cd) (.int .i64 0)
    exact bodyPost_ret (v := .agg #[.int .i64 cd, .int .i64 0]) (by simp [results, Tryz.results6, go_sem, s0, s1]) rfl ⟨rfl, below_two HW2.out.bel (by omega) _ _⟩

end Go.Proofs.YtagokfoimokniaaGreatDoor
