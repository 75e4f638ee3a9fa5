/- The specification's SpentBy keeps its contract. -/
import Derived.Test.YthjolannlefbcaaGreatDoorQh
import Derived.Test.YthjolannlefbcaaGreatDoorQg
namespace Go.Proofs.YthjolannlefbcaaGreatDoor
open Go.RowKit Go.Maps Go.WideMaps

def spentR (cs : List Co) (k f : Int) (rs : List (Int × Int)) (os : List Ou) : Int × List Co :=
  if coinsR cs ≠ 0 then (coinsR cs, []) else if txR k f rs os ≠ 0 then (txR k f rs os, []) else if rs.all (hasC cs) = true then (0, inC cs rs) else (4, [])
/-- All are there just where as many are found as are wanted. -/
theorem in_full {cs : List Co} {rs : List (Int × Int)} (h : RiseC cs) (hr : rs.Nodup) : decide ((inC cs rs).length = rs.length) = rs.all (hasC cs) := by
  have hn : (refsC (inC cs rs)).Nodup := refs_nodup (h.filter _)
  have hl : (refsC (inC cs rs)).length = (inC cs rs).length := by simp [refsC]
  have hsub : ∀ x ∈ refsC (inC cs rs), x ∈ rs := fun x hx => by
    obtain ⟨c, hc, rfl⟩ := List.mem_map.1 hx
    exact memB_here.1 (List.mem_filter.1 hc).2
  rw [Bool.eq_iff_iff, decide_eq_true_eq, List.all_eq_true]
  constructor
  · intro e r hrr
    have := sub_back _ rs hn hsub (by omega) r hrr
    obtain ⟨c, hc, rfl⟩ := List.mem_map.1 this
    exact hasC_iff.2 (List.mem_map.2 ⟨c, (List.mem_filter.1 hc).1, rfl⟩)
  · intro e
    have a := sub_length _ rs hn hsub
    have b := sub_length rs (refsC (inC cs rs)) hr fun r hrr => by
      obtain ⟨c, hc, rfl⟩ := List.mem_map.1 (hasC_iff.1 (e r hrr))
      exact List.mem_map.2 ⟨c, List.mem_filter.2 ⟨hc, memB_here.2 hrr⟩, rfl⟩
    omega

set_option maxRecDepth 20000 in
set_option maxHeartbeats 4000000 in
theorem sSpentBy_any (nc cc lo hi : Nat) (ca : Option Addr) (cs : List Co) (kv : Nat → Value) (n c m d : Nat) (ia oa : Option Addr) (k f : Int) (rs : List (Int × Int)) (os : List Ou) (w : World) (hnc : nc ≤ 1048576) (hkc : ∀ j, j < nc → (cs.getD j C0).l.length ≤ 1048576)
    (hn : n ≤ 1048576) (hm : m ≤ 1048576) (hc1 : n ≤ c) (hc2 : c ≤ maxLen) (hk : ∀ j, j < m → (os.getD j O0).l.length ≤ 1048576) (hlc : cs.length = nc) (hO : COwn w lo hi (.slice ca nc cc) nc (fun j => cs.getD j C0) kv) (hlo : lo ≤ w.heap.size) (h : TxAt w ia n oa m rs os) :
    Calls Tryz.prog 20 #[.slice ca nc cc, .agg #[.int .i64 k, .int .i64 f, .slice ia n c, .slice oa m d]] w fun e w' => OutCs w w' e (spentR cs k f rs os).1 (spentR cs k f rs os).2 := by
  have HW0 : Hid (UBx w ((w.alloc (.cells #[.int .i64 k, .int .i64 f, .slice ia n c, .slice oa m d] 28)).alloc (.cells #[.int .i64 0, .slice none 0 0] 32)) k f ia n c oa m d) := UBx.start
  obtain ⟨y0, y1⟩ := cells2 HW0.out.res
  have f0 := Joins.unfrozen_of_block HW0.out.res 0
  have f1 := Joins.unfrozen_of_block HW0.out.res 1
  have hC : CAt w ca nc cs := own_at2 hO hlc hkc
  have hF1 := l4Fault_any nc cc ca cs ((w.alloc (.cells #[.int .i64 k, .int .i64 f, .slice ia n c, .slice oa m d] 28)).alloc (.cells #[.int .i64 0, .slice none 0 0] 32)) hnc hkc (hC.below HW0.out.bel (Nat.le_refl _))
  have HT : ∀ v, UBx w v k f ia n c oa m d → Calls Tryz.prog 44 #[.pointer (some ⟨w.heap.size, 0, none⟩)] v fun e w' => e = .returned (.int .i64 (txR k f rs os)) ∧ Below v.heap.size v w' := fun v hv => l3Fault_any w.heap.size n c m d ia oa k f rs os v hn hm hc1 hc2 hk (h.below hv.bel (Nat.le_refl _)) hv.tx
  unfold spentR
  by_cases h0 : coinsR cs = 0
  · rw [if_neg (by simp [h0])]
    rw [h0] at hF1
    by_cases h2 : txR k f rs os = 0
    · rw [if_neg (by simp [h2])]
      rw [h2] at HT
      obtain ⟨hrb, hrd, hr4, ho4⟩ := tx_facts h2
      obtain ⟨hc40, hcg, hcr⟩ := coins_rise h0
      rw [hlc] at hc40
      obtain ⟨ts, hts⟩ : ∃ x, x = inC cs rs := ⟨_, rfl⟩
      obtain ⟨jb, hjb⟩ : ∃ b, b = rs.all (hasC cs) := ⟨_, rfl⟩
      have HSp : ∀ v, UBx w v k f ia n c oa m d → Calls Tryz.prog 45 #[.slice ca nc cc, .pointer (some ⟨w.heap.size, 0, none⟩)] v fun e w' => ∃ va vc, e = .returned (.tuple #[.slice va ts.length vc, .bool jb]) ∧ Hid (∃ kv, COwn w' v.heap.size w'.heap.size (.slice va ts.length vc) ts.length (fun j => ts.getD j C0) kv) ∧ Below v.heap.size v w' := fun v hv =>
        (l5Spent_any nc cc w.heap.size n c lo hi ca ia cs kv rs v hlc hc40 hcg (hO.below hv.bel) (Nat.le_trans hlo hv.bel.size) hn (h.r.below hv.bel (Nat.le_refl _)) (lt_of_block hv.tx) (cells4 hv.tx).2.2.1).mono fun e w' ⟨va, vc, kv', h1, h2, h3⟩ => ⟨va, vc, by rw [hts, hjb, ← in_full hcr hrd]; exact h1, ⟨kv', by rw [hts]; exact h2⟩, h3⟩
      rw [← hts, ← hjb]
      clear h hk hC hkc h0 h2 hO hrb hrd hcg hcr hts hjb
      cases jb
      · rw [if_neg (by simp)]
        go_enter Tryz.func20, Tryz.ntmps20
        go_wp2_with (first
      | (go_at_call 43; (with_reducible refine hF1.mono ?_); clear hF1; rintro e w2 ⟨rfl, hb⟩; have Hw2 : Hid (UBx w w2 k f ia n c oa m d) := HW0.out.step hb; clear hb; clear y0 y1 f0 f1; obtain ⟨y0, y1⟩ := cells2 Hw2.out.res; have f0 := Joins.unfrozen_of_block Hw2.out.res 0; have f1 := Joins.unfrozen_of_block Hw2.out.res 1; have hT := HT w2 Hw2.out)
      | (go_at_call 44; (with_reducible refine hT.mono ?_); clear hT; rintro e w3 ⟨rfl, hb⟩; have Hw3 : Hid (UBx w w3 k f ia n c oa m d) := Hw2.out.step hb; clear hb; clear y0 y1 f0 f1; obtain ⟨y0, y1⟩ := cells2 Hw3.out.res; have f0 := Joins.unfrozen_of_block Hw3.out.res 0; have f1 := Joins.unfrozen_of_block Hw3.out.res 1; have hSp := HSp w3 Hw3.out)
      | (go_at_call 45; (with_reducible refine hSp.mono ?_); clear hSp; rintro e w4 ⟨va, vc, rfl, HO4, hb⟩; have Hw4 : Hid (UBx w w4 k f ia n c oa m d) := Hw3.out.step hb; clear hb; clear y0 y1 f0 f1; obtain ⟨y0, y1⟩ := cells2 Hw4.out.res; have f0 := Joins.unfrozen_of_block Hw4.out.res 0; have f1 := Joins.unfrozen_of_block Hw4.out.res 1))
        obtain ⟨_, j1⟩ := two_set Hw4.out.res (.int .i64 4) (.slice none 0 0)
        exact bodyPost_ret (v := .agg #[.int .i64 4, .slice none 0 0]) (by simp [results, Tryz.results20, go_sem, j1]) rfl (out_code (by omega) Hw4.out.bel)
      · rw [if_pos rfl]
        go_enter Tryz.func20, Tryz.ntmps20
        go_wp2_with (first
      | (go_at_call 43; (with_reducible refine hF1.mono ?_); clear hF1; rintro e w2 ⟨rfl, hb⟩; have Hw2 : Hid (UBx w w2 k f ia n c oa m d) := HW0.out.step hb; clear hb; clear y0 y1 f0 f1; obtain ⟨y0, y1⟩ := cells2 Hw2.out.res; have f0 := Joins.unfrozen_of_block Hw2.out.res 0; have f1 := Joins.unfrozen_of_block Hw2.out.res 1; have hT := HT w2 Hw2.out)
      | (go_at_call 44; (with_reducible refine hT.mono ?_); clear hT; rintro e w3 ⟨rfl, hb⟩; have Hw3 : Hid (UBx w w3 k f ia n c oa m d) := Hw2.out.step hb; clear hb; clear y0 y1 f0 f1; obtain ⟨y0, y1⟩ := cells2 Hw3.out.res; have f0 := Joins.unfrozen_of_block Hw3.out.res 0; have f1 := Joins.unfrozen_of_block Hw3.out.res 1; have hSp := HSp w3 Hw3.out)
      | (go_at_call 45; (with_reducible refine hSp.mono ?_); clear hSp; rintro e w4 ⟨va, vc, rfl, HO4, hb⟩; have Hw4 : Hid (UBx w w4 k f ia n c oa m d) := Hw3.out.step hb; clear hb; clear y0 y1 f0 f1; obtain ⟨y0, y1⟩ := cells2 Hw4.out.res; have f0 := Joins.unfrozen_of_block Hw4.out.res 0; have f1 := Joins.unfrozen_of_block Hw4.out.res 1))
        have hbg := Hw3.out.big
        obtain ⟨_, j1⟩ := two_set Hw4.out.res (.int .i64 0) (.slice va ts.length vc)
        exact bodyPost_ret (v := .agg #[.int .i64 0, .slice va ts.length vc]) (by simp [results, Tryz.results20, go_sem, j1]) rfl (out_coins (lo := w3.heap.size) (by omega) (by omega) Hw4.out.bel HO4.out)
    · rw [if_pos h2]
      obtain ⟨cd, hcd⟩ : ∃ r, r = txR k f rs os := ⟨_, rfl⟩
      rw [← hcd] at h2 HT ⊢
      clear hcd h hk hC hkc h0 hO
      go_enter Tryz.func20, Tryz.ntmps20
      go_wp2_with (first
      | (go_at_call 43; (with_reducible refine hF1.mono ?_); clear hF1; rintro e w2 ⟨rfl, hb⟩; have Hw2 : Hid (UBx w w2 k f ia n c oa m d) := HW0.out.step hb; clear hb; clear y0 y1 f0 f1; obtain ⟨y0, y1⟩ := cells2 Hw2.out.res; have f0 := Joins.unfrozen_of_block Hw2.out.res 0; have f1 := Joins.unfrozen_of_block Hw2.out.res 1; have hT := HT w2 Hw2.out)
      | (go_at_call 44; (with_reducible refine hT.mono ?_); clear hT; rintro e w3 ⟨rfl, hb⟩; have Hw3 : Hid (UBx w w3 k f ia n c oa m d) := Hw2.out.step hb; clear hb; clear y0 y1 f0 f1; obtain ⟨y0, y1⟩ := cells2 Hw3.out.res; have f0 := Joins.unfrozen_of_block Hw3.out.res 0; have f1 := Joins.unfrozen_of_block Hw3.out.res 1))
      obtain ⟨_, j1⟩ := two_set Hw3.out.res (.int .i64 cd) (.slice none 0 0)
      exact bodyPost_ret (v := .agg #[.int .i64 cd, .slice none 0 0]) (by simp [results, Tryz.results20, go_sem, j1]) rfl (out_code (by omega) Hw3.out.bel)
  · rw [if_pos h0]
    obtain ⟨cd, hcd⟩ : ∃ r, r = coinsR cs := ⟨_, rfl⟩
    rw [← hcd] at h0 hF1 ⊢
    clear hcd h hk hC hkc hO HT
    go_enter Tryz.func20, Tryz.ntmps20
    go_wp2_with (first
      | (go_at_call 43; (with_reducible refine hF1.mono ?_); clear hF1; rintro e w2 ⟨rfl, hb⟩; have Hw2 : Hid (UBx w w2 k f ia n c oa m d) := HW0.out.step hb; clear hb; clear y0 y1 f0 f1; obtain ⟨y0, y1⟩ := cells2 Hw2.out.res; have f0 := Joins.unfrozen_of_block Hw2.out.res 0; have f1 := Joins.unfrozen_of_block Hw2.out.res 1))
    obtain ⟨_, j1⟩ := two_set Hw2.out.res (.int .i64 cd) (.slice none 0 0)
    exact bodyPost_ret (v := .agg #[.int .i64 cd, .slice none 0 0]) (by simp [results, Tryz.results20, go_sem, j1]) rfl (out_code (by omega) Hw2.out.bel)

end Go.Proofs.YthjolannlefbcaaGreatDoor
