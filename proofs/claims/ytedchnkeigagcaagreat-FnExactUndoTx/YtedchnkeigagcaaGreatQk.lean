/- The specification's UndoTx keeps its contract. -/
import Derived.Test.YtedchnkeigagcaaGreatQj
import Derived.Test.YtedchnkeigagcaaGreatJA
import Derived.Test.YtedchnkeigagcaaGreatDa
namespace Go.Proofs.YtedchnkeigagcaaGreat
open Go.RowKit Go.Maps Go.WideMaps

theorem at_has {cs : List Co} {n : Nat} {p q i : Int} (h : AtI cs n p q i) : (hasC cs (p, q) = true → 0 ≤ i) ∧ (hasC cs (p, q) = false → i = -1) := by
  rw [has_find]
  rcases h with ⟨h1, h2⟩ | ⟨k, _, h1, h2⟩
  · rw [h2]; exact ⟨fun e => (by cases e), fun _ => h1⟩
  · rw [h2]; exact ⟨fun _ => (by omega), fun e => (by cases e)⟩

set_option maxRecDepth 20000 in
set_option maxHeartbeats 4000000 in
theorem sUndoTx_any (nc cc ns ds lo hi hi2 : Nat) (ca sa : Option Addr) (cs sp : List Co) (kv kv2 : Nat → Value) (n c m d : Nat) (ia oa : Option Addr) (k f : Int) (rs : List (Int × Int)) (os : List Ou) (id : Int) (w : World) (hnc : nc ≤ 1048576) (hkc : ∀ j, j < nc → (cs.getD j C0).l.length ≤ 1048576) (hns : ns ≤ 1048576) (hks : ∀ j, j < ns → (sp.getD j C0).l.length ≤ 1048576)
    (hn : n ≤ 1048576) (hm : m ≤ 1048576) (hc1 : n ≤ c) (hc2 : c ≤ maxLen) (hk : ∀ j, j < m → (os.getD j O0).l.length ≤ 1048576) (hlc : cs.length = nc) (hls : sp.length = ns) (hO : COwn w lo hi (.slice ca nc cc) nc (fun j => cs.getD j C0) kv) (hS : COwn w lo hi2 (.slice sa ns ds) ns (fun j => sp.getD j C0) kv2) (hlo : lo ≤ w.heap.size)
    (hx : ∀ i, i < nc → ∀ j, j < ns → ∀ b, (kv i).ownBlock = some b → (kv2 j).ownBlock ≠ some b) (h : TxAt w ia n oa m rs os) :
    Calls Tryz.prog 6 #[.slice ca nc cc, .agg #[.int .i64 k, .int .i64 f, .slice ia n c, .slice oa m d], .int .i64 id, .slice sa ns ds] w fun e w' => OutCs w w' e (undoR cs k f rs os id sp).1 (undoR cs k f rs os id sp).2 := by
  have HW0 : Hid (UBx w ((w.alloc (.cells #[.int .i64 k, .int .i64 f, .slice ia n c, .slice oa m d] 37)).alloc (.cells #[.int .i64 0, .slice none 0 0] 31)) k f ia n c oa m d) := UBx.start
  obtain ⟨y0, y1⟩ := cells2 HW0.out.res
  have f0 := Joins.unfrozen_of_block HW0.out.res 0
  have f1 := Joins.unfrozen_of_block HW0.out.res 1
  obtain ⟨p0, p1, p2, p3, _⟩ := cells4 HW0.out.tx
  have hC : CAt w ca nc cs := own_at2 hO hlc hkc
  have hCS : CAt w sa ns sp := own_at2 hS hls hks
  have hF1 := l4Fault_any nc cc ca cs ((w.alloc (.cells #[.int .i64 k, .int .i64 f, .slice ia n c, .slice oa m d] 37)).alloc (.cells #[.int .i64 0, .slice none 0 0] 31)) hnc hkc (hC.below HW0.out.bel (Nat.le_refl _))
  have HF2 : ∀ v, UBx w v k f ia n c oa m d → Calls Tryz.prog 20 #[.slice sa ns ds] v fun e w' => e = .returned (.int .i64 (coinsR sp)) ∧ Below v.heap.size v w' := fun v hv => l4Fault_any ns ds sa sp v hns hks (hCS.below hv.bel (Nat.le_refl _))
  have HT : ∀ v, UBx w v k f ia n c oa m d → Calls Tryz.prog 21 #[.pointer (some ⟨w.heap.size, 0, none⟩)] v fun e w' => e = .returned (.int .i64 (txR k f rs os)) ∧ Below v.heap.size v w' := fun v hv => l3Fault_any w.heap.size n c m d ia oa k f rs os v hn hm hc1 hc2 hk (h.below hv.bel (Nat.le_refl _)) hv.tx
  unfold undoR
  by_cases h0 : coinsR cs = 0
  · rw [if_neg (by simp [h0])]
    rw [h0] at hF1
    by_cases h1 : coinsR sp = 0
    · rw [if_neg (by simp [h1])]
      rw [h1] at HF2
      by_cases h2 : txR k f rs os = 0
      · rw [if_neg (by simp [h2])]
        rw [h2] at HT
        obtain ⟨hrb, hrd, hr4, ho4⟩ := tx_facts h2
        obtain ⟨hc40, hcg, hcr⟩ := coins_rise h0
        obtain ⟨hs40, hsg, hsr⟩ := coins_rise h1
        rw [hlc] at hc40
        rw [hls] at hs40
        rw [h.r.1] at hr4
        obtain ⟨kb, hkb⟩ : ∃ b, b = inB id 1 60 := ⟨_, rfl⟩
        have HI : ∀ v, Calls Tryz.prog 22 #[.int .i64 id, .int .i64 1, .int .i64 60] v fun e w' => e = .returned (.bool kb) ∧ w' = v := fun v => by rw [hkb]; exact l1In_any _ _ _ v
        rw [← hkb]
        cases kb
        · rw [if_pos rfl]
          clear hkb h hk hC hCS hkc hks h0 h1 h2 hO hS hx hrb hrd hcg hcr hsg hsr
          go_enter Tryz.func6, Tryz.ntmps6
          go_wp2_with (first
      | (go_at_call 20; (with_reducible refine hF1.mono ?_); clear hF1; rintro e w2 ⟨rfl, hb⟩; have Hw2 : Hid (UBx w w2 k f ia n c oa m d) := HW0.out.step hb; clear hb; clear y0 y1 f0 f1; obtain ⟨y0, y1⟩ := cells2 Hw2.out.res; have f0 := Joins.unfrozen_of_block Hw2.out.res 0; have f1 := Joins.unfrozen_of_block Hw2.out.res 1; have hF2 := HF2 w2 Hw2.out)
      | (go_at_call 20; (with_reducible refine hF2.mono ?_); clear hF2; rintro e w3 ⟨rfl, hb⟩; have Hw3 : Hid (UBx w w3 k f ia n c oa m d) := Hw2.out.step hb; clear hb; clear y0 y1 f0 f1; obtain ⟨y0, y1⟩ := cells2 Hw3.out.res; have f0 := Joins.unfrozen_of_block Hw3.out.res 0; have f1 := Joins.unfrozen_of_block Hw3.out.res 1; have hT := HT w3 Hw3.out)
      | (go_at_call 21; (with_reducible refine hT.mono ?_); clear hT; rintro e w4 ⟨rfl, hb⟩; have Hw4 : Hid (UBx w w4 k f ia n c oa m d) := Hw3.out.step hb; clear hb; clear y0 y1 f0 f1; obtain ⟨y0, y1⟩ := cells2 Hw4.out.res; have f0 := Joins.unfrozen_of_block Hw4.out.res 0; have f1 := Joins.unfrozen_of_block Hw4.out.res 1; have hI := HI w4)
      | (go_at_call 22; (with_reducible refine hI.mono ?_); clear hI; rintro e w5 ⟨rfl, hw5⟩; have hw6 := hw5.symm; subst hw6))
          obtain ⟨_, j1⟩ := two_set Hw4.out.res (.int .i64 3) (.slice none 0 0)
          exact bodyPost_ret (v := .agg #[.int .i64 3, .slice none 0 0]) (by simp [results, Tryz.results6, go_sem, j1]) rfl (out_code (by omega) Hw4.out.bel)
        · rw [if_neg (by simp)]
          obtain ⟨sl, hsl⟩ : ∃ x, x = (inC sp rs).length := ⟨_, rfl⟩
          obtain ⟨jb, hjb⟩ : ∃ b, b = decide ((inC sp rs).length = rs.length) := ⟨_, rfl⟩
          have hju : justB sp rs = (jb && decide (sl = ns)) := by rw [← just_same hsr hrd, ← hjb, ← hsl, hls]
          have HSp : ∀ v, UBx w v k f ia n c oa m d → Calls Tryz.prog 23 #[.slice sa ns ds, .pointer (some ⟨w.heap.size, 0, none⟩)] v fun e w' => ∃ va vc, e = .returned (.tuple #[.slice va sl vc, .bool jb]) ∧ Below v.heap.size v w' := fun v hv =>
            (l5Spent_any ns ds w.heap.size n c lo hi2 sa ia sp kv2 rs v hls hs40 hsg (hS.below hv.bel) (Nat.le_trans hlo hv.bel.size) hn (h.r.below hv.bel (Nat.le_refl _)) (lt_of_block hv.tx) (cells4 hv.tx).2.2.1).mono fun e w' ⟨va, vc, _, h1, _, h3⟩ => ⟨va, vc, by rw [hsl, hjb]; exact h1, h3⟩
          have hslI : sl ≤ 40 := by
            rw [hsl]
            have := List.length_filter_le (fun c : Co => memB rs (c.p, c.q)) sp
            unfold inC
            omega
          rw [hju]
          cases jb
          · rw [if_pos (by simp)]
            clear hkb h hk hC hCS hkc hks h0 h1 h2 hO hS hx hrb hrd hcg hcr hsg hsr hju hjb hsl
            go_enter Tryz.func6, Tryz.ntmps6
            go_wp2_with (first
      | (go_at_call 20; (with_reducible refine hF1.mono ?_); clear hF1; rintro e w2 ⟨rfl, hb⟩; have Hw2 : Hid (UBx w w2 k f ia n c oa m d) := HW0.out.step hb; clear hb; clear y0 y1 f0 f1; obtain ⟨y0, y1⟩ := cells2 Hw2.out.res; have f0 := Joins.unfrozen_of_block Hw2.out.res 0; have f1 := Joins.unfrozen_of_block Hw2.out.res 1; have hF2 := HF2 w2 Hw2.out)
      | (go_at_call 20; (with_reducible refine hF2.mono ?_); clear hF2; rintro e w3 ⟨rfl, hb⟩; have Hw3 : Hid (UBx w w3 k f ia n c oa m d) := Hw2.out.step hb; clear hb; clear y0 y1 f0 f1; obtain ⟨y0, y1⟩ := cells2 Hw3.out.res; have f0 := Joins.unfrozen_of_block Hw3.out.res 0; have f1 := Joins.unfrozen_of_block Hw3.out.res 1; have hT := HT w3 Hw3.out)
      | (go_at_call 21; (with_reducible refine hT.mono ?_); clear hT; rintro e w4 ⟨rfl, hb⟩; have Hw4 : Hid (UBx w w4 k f ia n c oa m d) := Hw3.out.step hb; clear hb; clear y0 y1 f0 f1; obtain ⟨y0, y1⟩ := cells2 Hw4.out.res; have f0 := Joins.unfrozen_of_block Hw4.out.res 0; have f1 := Joins.unfrozen_of_block Hw4.out.res 1; have hI := HI w4)
      | (go_at_call 22; (with_reducible refine hI.mono ?_); clear hI; rintro e w5 ⟨rfl, hw5⟩; have hw6 := hw5.symm; subst hw6; have hSp := HSp w4 Hw4.out)
      | (go_at_call 23; (with_reducible refine hSp.mono ?_); clear hSp; rintro e w6 ⟨va, vc, rfl, hb⟩; have Hw6 : Hid (UBx w w6 k f ia n c oa m d) := Hw4.out.step hb; clear hb; clear y0 y1 f0 f1; obtain ⟨y0, y1⟩ := cells2 Hw6.out.res; have f0 := Joins.unfrozen_of_block Hw6.out.res 0; have f1 := Joins.unfrozen_of_block Hw6.out.res 1))
            obtain ⟨_, j1⟩ := two_set Hw6.out.res (.int .i64 1) (.slice none 0 0)
            exact bodyPost_ret (v := .agg #[.int .i64 1, .slice none 0 0]) (by simp [results, Tryz.results6, go_sem, j1]) rfl (out_code (by omega) Hw6.out.bel)
          · by_cases hsn : sl = ns
            · rw [if_neg (by simp [hsn])]
              have hsb : ((sl : Int) != (ns : Int)) = false := by simp [hsn]
              have HJU : Hid (justB sp rs = true) := by show _ = _; rw [hju, decide_eq_true hsn]; rfl
              obtain ⟨mb, hmb⟩ : ∃ b, b = madeB (ofC cs id) os := ⟨_, rfl⟩
              have HMd : ∀ v, UBx w v k f ia n c oa m d → Calls Tryz.prog 24 #[.slice ca nc cc, .pointer (some ⟨w.heap.size, 0, none⟩), .int .i64 id] v fun e w' => e = .returned (.bool mb) ∧ Below v.heap.size v w' := fun v hv => by
                rw [hmb, ← made_same hcr (fun c hc => (coin_more (hcg c hc)).2.1.1)]
                exact l5Made_any nc cc w.heap.size m d ca oa cs os id v hc40 hcg (hC.below hv.bel (Nat.le_refl _)) hm hk (h.o.below hv.bel (Nat.le_refl _)) (lt_of_block hv.tx) (cells4 hv.tx).2.2.2.1
              rw [← hmb]
              clear hsn hju hjb hsl
              cases mb
              · rw [if_pos rfl]
                clear hkb h hk hC hCS hkc hks h0 h1 h2 hO hS hx hrb hrd hcg hcr hsg hsr hmb
                go_enter Tryz.func6, Tryz.ntmps6
                go_wp2_with (first
      | (go_at_call 20; (with_reducible refine hF1.mono ?_); clear hF1; rintro e w2 ⟨rfl, hb⟩; have Hw2 : Hid (UBx w w2 k f ia n c oa m d) := HW0.out.step hb; clear hb; clear y0 y1 f0 f1; obtain ⟨y0, y1⟩ := cells2 Hw2.out.res; have f0 := Joins.unfrozen_of_block Hw2.out.res 0; have f1 := Joins.unfrozen_of_block Hw2.out.res 1; have hF2 := HF2 w2 Hw2.out)
      | (go_at_call 20; (with_reducible refine hF2.mono ?_); clear hF2; rintro e w3 ⟨rfl, hb⟩; have Hw3 : Hid (UBx w w3 k f ia n c oa m d) := Hw2.out.step hb; clear hb; clear y0 y1 f0 f1; obtain ⟨y0, y1⟩ := cells2 Hw3.out.res; have f0 := Joins.unfrozen_of_block Hw3.out.res 0; have f1 := Joins.unfrozen_of_block Hw3.out.res 1; have hT := HT w3 Hw3.out)
      | (go_at_call 21; (with_reducible refine hT.mono ?_); clear hT; rintro e w4 ⟨rfl, hb⟩; have Hw4 : Hid (UBx w w4 k f ia n c oa m d) := Hw3.out.step hb; clear hb; clear y0 y1 f0 f1; obtain ⟨y0, y1⟩ := cells2 Hw4.out.res; have f0 := Joins.unfrozen_of_block Hw4.out.res 0; have f1 := Joins.unfrozen_of_block Hw4.out.res 1; have hI := HI w4)
      | (go_at_call 22; (with_reducible refine hI.mono ?_); clear hI; rintro e w5 ⟨rfl, hw5⟩; have hw6 := hw5.symm; subst hw6; have hSp := HSp w4 Hw4.out)
      | (go_at_call 23; (with_reducible refine hSp.mono ?_); clear hSp; rintro e w6 ⟨va, vc, rfl, hb⟩; have Hw6 : Hid (UBx w w6 k f ia n c oa m d) := Hw4.out.step hb; clear hb; clear y0 y1 f0 f1; obtain ⟨y0, y1⟩ := cells2 Hw6.out.res; have f0 := Joins.unfrozen_of_block Hw6.out.res 0; have f1 := Joins.unfrozen_of_block Hw6.out.res 1; have hMd := HMd w6 Hw6.out)
      | (go_at_call 24; (with_reducible refine hMd.mono ?_); clear hMd; rintro e w7 ⟨rfl, hb⟩; have Hw7 : Hid (UBx w w7 k f ia n c oa m d) := Hw6.out.step hb; clear hb; clear y0 y1 f0 f1; obtain ⟨y0, y1⟩ := cells2 Hw7.out.res; have f0 := Joins.unfrozen_of_block Hw7.out.res 0; have f1 := Joins.unfrozen_of_block Hw7.out.res 1; clear p0 p1 p2 p3; obtain ⟨p0, p1, p2, p3, _⟩ := cells4 Hw7.out.tx))
                obtain ⟨_, j1⟩ := two_set Hw7.out.res (.int .i64 4) (.slice none 0 0)
                exact bodyPost_ret (v := .agg #[.int .i64 4, .slice none 0 0]) (by simp [results, Tryz.results6, go_sem, j1]) rfl (out_code (by omega) Hw7.out.bel)
              · rw [if_neg (by simp)]
                obtain ⟨zs, hzs⟩ : ∃ z, z = addCs (offC cs id) sp := ⟨_, rfl⟩
                have HBk : ∀ v, UBx w v k f ia n c oa m d → Calls Tryz.prog 26 #[.slice ca nc cc, .int .i64 id, .slice sa ns ds] v fun e w' => ∃ va vc, e = .returned (.slice va zs.length vc) ∧ Hid (∃ kv, COwn w' v.heap.size w'.heap.size (.slice va zs.length vc) zs.length (fun j => zs.getD j C0) kv) ∧ Below v.heap.size v w' := fun v hv => by
                  rw [hzs]
                  exact l5Back_any nc cc ns ds lo hi hi2 ca sa cs sp kv kv2 id v hlc hc40 hcg (hO.below hv.bel) hls hs40 hsg (hS.below hv.bel) (Nat.le_trans hlo hv.bel.size) hx
                have hzl : zs.length = (offC cs id).length + sp.length := by rw [hzs, addCs_cnt]
                obtain ⟨pd, hpd⟩ : ∃ q : Int × Int → Bool, q = hasC cs := ⟨_, rfl⟩
                have HCA : Hid (∀ v (p q : Int), UBx w v k f ia n c oa m d → Calls Tryz.prog 25 #[.slice ca nc cc, .agg #[.int .i64 p, .int .i64 q]] v fun e w' => ∃ i : Int, e = .returned (.int .i64 i) ∧ ((pd (p, q) = true → 0 ≤ i) ∧ (pd (p, q) = false → i = -1)) ∧ Below v.heap.size v w') := fun v p q hv =>
                  (l4At_any nc cc ca cs p q v hnc (hC.below hv.bel (Nat.le_refl _))).mono fun e w' ⟨i, h1, h2, h3⟩ => ⟨i, h1, by rw [hpd]; exact at_has h2.out, h3⟩
                have HU : Hid (∀ u, u = (if rs.any pd = true then ((7, []) : Int × List Co) else if 40 < zs.length then (2, []) else (0, zs)) → (if rs.any (hasC cs) = true then ((7, []) : Int × List Co) else if 40 < (offC cs id).length + sp.length then (2, []) else (0, addCs (offC cs id) sp)) = u) := fun u hu => by rw [hu, hpd, ← hzl, ← hzs]
                obtain ⟨u, hu⟩ : ∃ u, u = (if rs.any pd = true then ((7, []) : Int × List Co) else if 40 < zs.length then (2, []) else (0, zs)) := ⟨_, rfl⟩
                rw [HU.out u hu]
                have HUU : Hid (u = (if rs.any pd = true then ((7, []) : Int × List Co) else if 40 < zs.length then (2, []) else (0, zs))) := hu
                have HG : Hid (GAt w ia n rs) := h.r
                have HN : Hid (rs.length = n) := h.r.1
                clear hkb h hk hC hCS hkc hks h0 h1 h2 hO hS hx hrb hrd hcg hcr hsg hsr hmb hzs hzl hpd hu HU
                go_enter Tryz.func6, Tryz.ntmps6
                go_wp2_with (first
      | (go_at_call 20; (with_reducible refine hF1.mono ?_); clear hF1; rintro e w2 ⟨rfl, hb⟩; have Hw2 : Hid (UBx w w2 k f ia n c oa m d) := HW0.out.step hb; clear hb; clear y0 y1 f0 f1; obtain ⟨y0, y1⟩ := cells2 Hw2.out.res; have f0 := Joins.unfrozen_of_block Hw2.out.res 0; have f1 := Joins.unfrozen_of_block Hw2.out.res 1; have hF2 := HF2 w2 Hw2.out)
      | (go_at_call 20; (with_reducible refine hF2.mono ?_); clear hF2; rintro e w3 ⟨rfl, hb⟩; have Hw3 : Hid (UBx w w3 k f ia n c oa m d) := Hw2.out.step hb; clear hb; clear y0 y1 f0 f1; obtain ⟨y0, y1⟩ := cells2 Hw3.out.res; have f0 := Joins.unfrozen_of_block Hw3.out.res 0; have f1 := Joins.unfrozen_of_block Hw3.out.res 1; have hT := HT w3 Hw3.out)
      | (go_at_call 21; (with_reducible refine hT.mono ?_); clear hT; rintro e w4 ⟨rfl, hb⟩; have Hw4 : Hid (UBx w w4 k f ia n c oa m d) := Hw3.out.step hb; clear hb; clear y0 y1 f0 f1; obtain ⟨y0, y1⟩ := cells2 Hw4.out.res; have f0 := Joins.unfrozen_of_block Hw4.out.res 0; have f1 := Joins.unfrozen_of_block Hw4.out.res 1; have hI := HI w4)
      | (go_at_call 22; (with_reducible refine hI.mono ?_); clear hI; rintro e w5 ⟨rfl, hw5⟩; have hw6 := hw5.symm; subst hw6; have hSp := HSp w4 Hw4.out)
      | (go_at_call 23; (with_reducible refine hSp.mono ?_); clear hSp; rintro e w6 ⟨va, vc, rfl, hb⟩; have Hw6 : Hid (UBx w w6 k f ia n c oa m d) := Hw4.out.step hb; clear hb; clear y0 y1 f0 f1; obtain ⟨y0, y1⟩ := cells2 Hw6.out.res; have f0 := Joins.unfrozen_of_block Hw6.out.res 0; have f1 := Joins.unfrozen_of_block Hw6.out.res 1; have hMd := HMd w6 Hw6.out)
      | (go_at_call 24; (with_reducible refine hMd.mono ?_); clear hMd; rintro e w7 ⟨rfl, hb⟩; have Hw7 : Hid (UBx w w7 k f ia n c oa m d) := Hw6.out.step hb; clear hb; clear y0 y1 f0 f1; obtain ⟨y0, y1⟩ := cells2 Hw7.out.res; have f0 := Joins.unfrozen_of_block Hw7.out.res 0; have f1 := Joins.unfrozen_of_block Hw7.out.res 1; clear p0 p1 p2 p3; obtain ⟨p0, p1, p2, p3, _⟩ := cells4 Hw7.out.tx))
                go_loopw [14] (fun i wr => ∃ j : Nat, j ≤ n ∧ i = .int .i64 j ∧ Hid (UBx w wr k f ia n c oa m d) ∧ Hid (∀ t, t < j → pd (rs.getD t G0) = false)) (fun i _ => n - (intOf i).toNat)
                case atStart => exact ⟨0, Nat.zero_le _, rfl, Hw7.out, fun t ht => by omega⟩
                case round =>
                  obtain ⟨j, hj, rfl, HB, HIv⟩ := hrel
                  clear p0 p1 p2 p3 y0 y1 f0 f1
                  obtain ⟨p0, p1, p2, p3, _⟩ := cells4 HB.out.tx
                  by_cases hlt : j < n
                  · rcases HG.out.2 with h0 | ⟨b, off, e0, l0, d0⟩
                    · omega
                    subst e0
                    obtain ⟨o, ho⟩ : ∃ o, o = rs.getD j G0 := ⟨_, rfl⟩
                    obtain ⟨z0, z1⟩ := d0 j hlt
                    rw [← ho] at z0 z1
                    have x0 := (HB.out.bel.cell (p := ⟨b, off + j * 2, none⟩) l0).trans z0
                    have x1 := (HB.out.bel.cell (p := ⟨b, off + j * 2 + 1, none⟩) l0).trans z1
                    have HS2 : Hid (o = rs.getD j G0) := ho
                    obtain ⟨op, oq⟩ := o
                    simp only at x0 x1
                    have hca := HCA.out wr op oq HB.out
                    obtain ⟨q, hq⟩ : ∃ b, b = pd (op, oq) := ⟨_, rfl⟩
                    rw [← hq] at hca
                    have HQ : Hid (q = pd (op, oq)) := hq
                    have hki : (j : Int) < (n : Int) := by omega
                    clear d0 ho hq z0 z1
                    cases q
                    · have hca' : Calls Tryz.prog 25 #[.slice ca nc cc, .agg #[.int .i64 op, .int .i64 oq]] wr fun e w' => e = .returned (.int .i64 (-1)) ∧ Below wr.heap.size wr w' := hca.mono fun e w' ⟨i, h1, h2, h3⟩ => by rw [h2.2 rfl] at h1; exact ⟨h1, h3⟩
                      have HIN : Hid (∀ t, t < j + 1 → pd (rs.getD t G0) = false) := fun t ht => by
                        rcases Nat.lt_or_ge t j with h1 | h1
                        · exact HIv.out t h1
                        · obtain rfl : t = j := by omega
                          rw [← HS2.out]; exact HQ.out.symm
                      clear hca
                      go_wp2_with (first | (go_at_call 25; (with_reducible refine hca'.mono ?_); clear hca'; rintro e w8 ⟨rfl, hb8⟩))
                      go_roundw
                      case rel => exact ⟨j + 1, by omega, by go_num, HB.out.step hb8, HIN⟩
                      case measure => simp [intOf]; omega
                    · have hca' : Calls Tryz.prog 25 #[.slice ca nc cc, .agg #[.int .i64 op, .int .i64 oq]] wr fun e w' => ∃ i : Int, e = .returned (.int .i64 i) ∧ 0 ≤ i ∧ Hid (Below wr.heap.size wr w') := hca.mono fun e w' ⟨i, h1, h2, h3⟩ => ⟨i, h1, h2.1 rfl, h3⟩
                      have HFI : Hid (u = (7, [])) := by show _ = _; rw [HUU.out, if_pos (any_yes HN.out hlt (by rw [← HS2.out]; exact HQ.out.symm))]
                      clear hca
                      go_wp2_with (first | (go_at_call 25; (with_reducible refine hca'.mono ?_); clear hca'; rintro e w8 ⟨i, rfl, hi0, HB8⟩; have Hw8 : Hid (UBx w w8 k f (some ⟨b, off, none⟩) n c oa m d) := HB.out.step HB8.out; obtain ⟨y0, y1⟩ := cells2 Hw8.out.res; have f0 := Joins.unfrozen_of_block Hw8.out.res 0; have f1 := Joins.unfrozen_of_block Hw8.out.res 1))
                      obtain ⟨_, j1⟩ := two_set Hw8.out.res (.int .i64 7) (.slice none 0 0)
                      exact bodyPost_ret (v := .agg #[.int .i64 7, .slice none 0 0]) (by simp [results, Tryz.results6, go_sem, j1]) rfl (by show OutCs _ _ _ _ _; rw [HFI.out]; exact out_code (by omega) Hw8.out.bel)
                  · have hbk := HBk wr HB.out
                    have hu2 : u = if 40 < zs.length then (2, []) else (0, zs) := by rw [HUU.out, if_neg (by rw [any_no HN.out (fun t ht => HIv.out t (by omega))]; exact Bool.false_ne_true)]
                    have hki : ¬ (j : Int) < (n : Int) := by omega
                    have hbg := HB.out.big
                    by_cases h40 : 40 < zs.length
                    · have HFI : Hid (u = (2, [])) := by show _ = _; rw [hu2, if_pos h40]
                      have hgt : (40 : Int) < (zs.length : Int) := by omega
                      clear hu2
                      go_wp2_with (first | (go_at_call 26; (with_reducible refine hbk.mono ?_); clear hbk; rintro e w8 ⟨va, vc, rfl, HO8, hb8⟩; have Hw8 : Hid (UBx w w8 k f ia n c oa m d) := HB.out.step hb8; clear hb8; obtain ⟨y0, y1⟩ := cells2 Hw8.out.res; have f0 := Joins.unfrozen_of_block Hw8.out.res 0; have f1 := Joins.unfrozen_of_block Hw8.out.res 1))
                      obtain ⟨_, j1⟩ := two_set Hw8.out.res (.int .i64 2) (.slice none 0 0)
                      exact bodyPost_ret (v := .agg #[.int .i64 2, .slice none 0 0]) (by simp [results, Tryz.results6, go_sem, j1]) rfl (by show OutCs _ _ _ _ _; rw [HFI.out]; exact out_code (by omega) Hw8.out.bel)
                    · have HFI : Hid (u = (0, zs)) := by show _ = _; rw [hu2, if_neg h40]
                      have hgt : ¬ (40 : Int) < (zs.length : Int) := by omega
                      clear hu2
                      go_wp2_with (first | (go_at_call 26; (with_reducible refine hbk.mono ?_); clear hbk; rintro e w8 ⟨va, vc, rfl, HO8, hb8⟩; have Hw8 : Hid (UBx w w8 k f ia n c oa m d) := HB.out.step hb8; clear hb8; obtain ⟨y0, y1⟩ := cells2 Hw8.out.res; have f0 := Joins.unfrozen_of_block Hw8.out.res 0; have f1 := Joins.unfrozen_of_block Hw8.out.res 1))
                      obtain ⟨_, j1⟩ := two_set Hw8.out.res (.int .i64 0) (.slice va zs.length vc)
                      exact bodyPost_ret (v := .agg #[.int .i64 0, .slice va zs.length vc]) (by simp [results, Tryz.results6, go_sem, j1]) rfl (by show OutCs _ _ _ _ _; rw [HFI.out]; exact out_coins (lo := wr.heap.size) (by omega) (by omega) Hw8.out.bel HO8.out)
            · rw [if_pos (by simp [hsn])]
              have hsb : ((sl : Int) != (ns : Int)) = true := by simp; omega
              clear hkb h hk hC hCS hkc hks h0 h1 h2 hO hS hx hrb hrd hcg hcr hsg hsr hju hjb hsl hsn
              go_enter Tryz.func6, Tryz.ntmps6
              go_wp2_with (first
      | (go_at_call 20; (with_reducible refine hF1.mono ?_); clear hF1; rintro e w2 ⟨rfl, hb⟩; have Hw2 : Hid (UBx w w2 k f ia n c oa m d) := HW0.out.step hb; clear hb; clear y0 y1 f0 f1; obtain ⟨y0, y1⟩ := cells2 Hw2.out.res; have f0 := Joins.unfrozen_of_block Hw2.out.res 0; have f1 := Joins.unfrozen_of_block Hw2.out.res 1; have hF2 := HF2 w2 Hw2.out)
      | (go_at_call 20; (with_reducible refine hF2.mono ?_); clear hF2; rintro e w3 ⟨rfl, hb⟩; have Hw3 : Hid (UBx w w3 k f ia n c oa m d) := Hw2.out.step hb; clear hb; clear y0 y1 f0 f1; obtain ⟨y0, y1⟩ := cells2 Hw3.out.res; have f0 := Joins.unfrozen_of_block Hw3.out.res 0; have f1 := Joins.unfrozen_of_block Hw3.out.res 1; have hT := HT w3 Hw3.out)
      | (go_at_call 21; (with_reducible refine hT.mono ?_); clear hT; rintro e w4 ⟨rfl, hb⟩; have Hw4 : Hid (UBx w w4 k f ia n c oa m d) := Hw3.out.step hb; clear hb; clear y0 y1 f0 f1; obtain ⟨y0, y1⟩ := cells2 Hw4.out.res; have f0 := Joins.unfrozen_of_block Hw4.out.res 0; have f1 := Joins.unfrozen_of_block Hw4.out.res 1; have hI := HI w4)
      | (go_at_call 22; (with_reducible refine hI.mono ?_); clear hI; rintro e w5 ⟨rfl, hw5⟩; have hw6 := hw5.symm; subst hw6; have hSp := HSp w4 Hw4.out)
      | (go_at_call 23; (with_reducible refine hSp.mono ?_); clear hSp; rintro e w6 ⟨va, vc, rfl, hb⟩; have Hw6 : Hid (UBx w w6 k f ia n c oa m d) := Hw4.out.step hb; clear hb; clear y0 y1 f0 f1; obtain ⟨y0, y1⟩ := cells2 Hw6.out.res; have f0 := Joins.unfrozen_of_block Hw6.out.res 0; have f1 := Joins.unfrozen_of_block Hw6.out.res 1))
              obtain ⟨_, j1⟩ := two_set Hw6.out.res (.int .i64 1) (.slice none 0 0)
              exact bodyPost_ret (v := .agg #[.int .i64 1, .slice none 0 0]) (by simp [results, Tryz.results6, go_sem, j1]) rfl (out_code (by omega) Hw6.out.bel)
      · rw [if_pos h2]
        obtain ⟨cd, hcd⟩ : ∃ r, r = txR k f rs os := ⟨_, rfl⟩
        rw [← hcd] at h2 HT ⊢
        clear hcd h hk hC hCS hkc hks h0 h1 hO hS hx
        go_enter Tryz.func6, Tryz.ntmps6
        go_wp2_with (first
      | (go_at_call 20; (with_reducible refine hF1.mono ?_); clear hF1; rintro e w2 ⟨rfl, hb⟩; have Hw2 : Hid (UBx w w2 k f ia n c oa m d) := HW0.out.step hb; clear hb; clear y0 y1 f0 f1; obtain ⟨y0, y1⟩ := cells2 Hw2.out.res; have f0 := Joins.unfrozen_of_block Hw2.out.res 0; have f1 := Joins.unfrozen_of_block Hw2.out.res 1; have hF2 := HF2 w2 Hw2.out)
      | (go_at_call 20; (with_reducible refine hF2.mono ?_); clear hF2; rintro e w3 ⟨rfl, hb⟩; have Hw3 : Hid (UBx w w3 k f ia n c oa m d) := Hw2.out.step hb; clear hb; clear y0 y1 f0 f1; obtain ⟨y0, y1⟩ := cells2 Hw3.out.res; have f0 := Joins.unfrozen_of_block Hw3.out.res 0; have f1 := Joins.unfrozen_of_block Hw3.out.res 1; have hT := HT w3 Hw3.out)
      | (go_at_call 21; (with_reducible refine hT.mono ?_); clear hT; rintro e w4 ⟨rfl, hb⟩; have Hw4 : Hid (UBx w w4 k f ia n c oa m d) := Hw3.out.step hb; clear hb; clear y0 y1 f0 f1; obtain ⟨y0, y1⟩ := cells2 Hw4.out.res; have f0 := Joins.unfrozen_of_block Hw4.out.res 0; have f1 := Joins.unfrozen_of_block Hw4.out.res 1))
        obtain ⟨_, j1⟩ := two_set Hw4.out.res (.int .i64 cd) (.slice none 0 0)
        exact bodyPost_ret (v := .agg #[.int .i64 cd, .slice none 0 0]) (by simp [results, Tryz.results6, go_sem, j1]) rfl (out_code (by omega) Hw4.out.bel)
    · rw [if_pos h1]
      obtain ⟨cd, hcd⟩ : ∃ r, r = coinsR sp := ⟨_, rfl⟩
      rw [← hcd] at h1 HF2 ⊢
      clear hcd h hk hC hCS hkc hks h0 hO hS hx HT
      go_enter Tryz.func6, Tryz.ntmps6
      go_wp2_with (first
      | (go_at_call 20; (with_reducible refine hF1.mono ?_); clear hF1; rintro e w2 ⟨rfl, hb⟩; have Hw2 : Hid (UBx w w2 k f ia n c oa m d) := HW0.out.step hb; clear hb; clear y0 y1 f0 f1; obtain ⟨y0, y1⟩ := cells2 Hw2.out.res; have f0 := Joins.unfrozen_of_block Hw2.out.res 0; have f1 := Joins.unfrozen_of_block Hw2.out.res 1; have hF2 := HF2 w2 Hw2.out)
      | (go_at_call 20; (with_reducible refine hF2.mono ?_); clear hF2; rintro e w3 ⟨rfl, hb⟩; have Hw3 : Hid (UBx w w3 k f ia n c oa m d) := Hw2.out.step hb; clear hb; clear y0 y1 f0 f1; obtain ⟨y0, y1⟩ := cells2 Hw3.out.res; have f0 := Joins.unfrozen_of_block Hw3.out.res 0; have f1 := Joins.unfrozen_of_block Hw3.out.res 1))
      obtain ⟨_, j1⟩ := two_set Hw3.out.res (.int .i64 cd) (.slice none 0 0)
      exact bodyPost_ret (v := .agg #[.int .i64 cd, .slice none 0 0]) (by simp [results, Tryz.results6, go_sem, j1]) rfl (out_code (by omega) Hw3.out.bel)
  · rw [if_pos h0]
    obtain ⟨cd, hcd⟩ : ∃ r, r = coinsR cs := ⟨_, rfl⟩
    rw [← hcd] at h0 hF1 ⊢
    clear hcd h hk hC hCS hkc hks hO hS hx HT HF2
    go_enter Tryz.func6, Tryz.ntmps6
    go_wp2_with (first
      | (go_at_call 20; (with_reducible refine hF1.mono ?_); clear hF1; rintro e w2 ⟨rfl, hb⟩; have Hw2 : Hid (UBx w w2 k f ia n c oa m d) := HW0.out.step hb; clear hb; clear y0 y1 f0 f1; obtain ⟨y0, y1⟩ := cells2 Hw2.out.res; have f0 := Joins.unfrozen_of_block Hw2.out.res 0; have f1 := Joins.unfrozen_of_block Hw2.out.res 1))
    obtain ⟨_, j1⟩ := two_set Hw2.out.res (.int .i64 cd) (.slice none 0 0)
    exact bodyPost_ret (v := .agg #[.int .i64 cd, .slice none 0 0]) (by simp [results, Tryz.results6, go_sem, j1]) rfl (out_code (by omega) Hw2.out.bel)

end Go.Proofs.YtedchnkeigagcaaGreat
