/- The program's TxText keeps its contract. -/
import Derived.Test.YtciefdphjkjikaaGreatDoorTtY
namespace Go.Proofs.YtciefdphjkjikaaGreatDoor
open Go.RowKit Go.Shelf Go.Maps Go.WideMaps

theorem blocks2T (w : World) (o o' : Obj) : ((w.alloc o).alloc o').heap[w.heap.size]? = some o ∧ ((w.alloc o).alloc o').heap[w.heap.size + 1]? = some o' ∧ ((w.alloc o).alloc o').heap.size = w.heap.size + 1 + 1 := by
  refine ⟨block_at2, ?_, by simp⟩
  rw [show w.heap.size + 1 = (w.alloc o).heap.size by simp]
  exact heap_alloc_new _ _

theorem tx_len {k f : Int} {rs : List (Int × Int)} {os : List Ou} (h : TxOk k f rs os) (hr : rs ≠ []) : (txT k f rs os).length ≤ 100000 := by
  have h1 : (headT k f).length ≤ 20 := by
    have := dec_len h.f.2
    unfold headT kindT
    rcases h.k with rfl | rfl | rfl <;> simp <;> omega
  have h2 : (refsT rs).length ≤ 201 := by
    rw [← refsW_refsT hr]
    have := refsW_len (rs := rs) h.n (fun r hr => by
      obtain ⟨i, hi, e⟩ := List.getElem_of_mem hr
      have h1 := h.r i hi
      have h2 : rs.getD i G0 = r := by rw [List.getD, List.getElem?_eq_getElem hi, ← e]; rfl
      rw [h2] at h1
      exact ⟨h1.1.2, h1.2.2⟩)
    simp; omega
  have h3 : (os.flatMap outT).length ≤ 112 * os.length := flat_len outT 112 os fun o ho => by
    obtain ⟨i, hi, e⟩ := List.getElem_of_mem ho
    have h1 := h.o i hi
    have h2 : os.getD i O0 = o := by rw [List.getD, List.getElem?_eq_getElem hi, ← e]; rfl
    rw [h2] at h1
    have a := dec_big h1.v.2
    have b := rtx_len h1
    unfold outT
    simp; omega
  have h4 := h.m
  unfold txT
  simp only [List.length_append]
  omega

theorem words_few {k f : Int} {rs : List (Int × Int)} {os : List Ou} (h : TxOk k f rs os) : (wordsT k f rs os).length ≤ 100 := by
  have h1 := h.m
  have h2 : (kindW k f).length ≤ 2 := by
    unfold kindW
    by_cases a : k = 0
    · simp [a]
    · by_cases b : k = 1 <;> simp [a, b]
  unfold wordsT
  simp
  omega

set_option maxHeartbeats 2000000 in
theorem iTxText_any (n c m d : Nat) (ia oa : Option Addr) (k f : Int) (rs : List (Int × Int)) (os : List Ou) (w : World) (hn : n ≤ 1048576) (hm : m ≤ 1048576) (hc1 : n ≤ c) (hc2 : c ≤ maxLen) (hk : ∀ j, j < m → (os.getD j O0).l.length ≤ 1048576) (h : TxAt w ia n oa m rs os) (hE : Ev w) (hlen : txR k f rs os = 0 → (txT k f rs os).length ≤ 100000) :
    Calls Tryz.prog 7 #[.agg #[.int .i64 k, .int .i64 f, .slice ia n c, .slice oa m d]] w fun e w' => e = .returned (.agg #[.int .i64 (ttR k f rs os).1, .string (str (ttR k f rs os).2)]) ∧ Below w.heap.size w w' := by
  obtain ⟨t0, t1, t2⟩ := blocks2T w (.cells #[.int .i64 k, .int .i64 f, .slice ia n c, .slice oa m d] 28) (.cells #[.int .i64 0, .string ⟨#[]⟩] 33)
  have hbx : Below w.heap.size w ((w.alloc (.cells #[.int .i64 k, .int .i64 f, .slice ia n c, .slice oa m d] 28)).alloc (.cells #[.int .i64 0, .string ⟨#[]⟩] 33)) := below_box2 _ _
  have hS := iTxFault_any n c m d ia oa k f rs os ((w.alloc (.cells #[.int .i64 k, .int .i64 f, .slice ia n c, .slice oa m d] 28)).alloc (.cells #[.int .i64 0, .string ⟨#[]⟩] 33)) hn hm hc1 hc2 hk (h.below hbx (Nat.le_refl _))
  have HBX : Hid (Below w.heap.size w ((w.alloc (.cells #[.int .i64 k, .int .i64 f, .slice ia n c, .slice oa m d] 28)).alloc (.cells #[.int .i64 0, .string ⟨#[]⟩] 33))) := hbx
  have T0 : Hid (((w.alloc (.cells #[.int .i64 k, .int .i64 f, .slice ia n c, .slice oa m d] 28)).alloc (.cells #[.int .i64 0, .string ⟨#[]⟩] 33)).heap[w.heap.size]? = some (.cells #[.int .i64 k, .int .i64 f, .slice ia n c, .slice oa m d] 28 (0, 0))) := t0
  have T1 : Hid (((w.alloc (.cells #[.int .i64 k, .int .i64 f, .slice ia n c, .slice oa m d] 28)).alloc (.cells #[.int .i64 0, .string ⟨#[]⟩] 33)).heap[w.heap.size + 1]? = some (.cells #[.int .i64 0, .string ⟨#[]⟩] 33 (0, 0))) := t1
  have HT : Hid (TxAt w ia n oa m rs os) := h
  have HE : Hid (Ev w) := hE
  obtain ⟨cd, hcd⟩ : ∃ r, r = txR k f rs os := ⟨_, rfl⟩
  rw [← hcd] at hS
  clear h hE hbx t0 t1 t2 hk
  by_cases hz : cd = 0
  · subst hz
    have HOK : Hid (TxOk k f rs os) := txOk_of hcd
    have HRL : Hid (∀ j, j < os.length → ruleR (os.getD j O0).l (os.getD j O0).x (os.getD j O0).y = 0) := (tx_more hcd).2
    obtain ⟨t, ht⟩ : ∃ t, t = txT k f rs os := ⟨_, rfl⟩
    have hl2 := hlen hcd.symm
    have HJ : Hid (∀ v N W base, World.ownsRow W base 9 1 v N (texts (wordsT k f rs os)) → Calls Tryz.prog 23 #[v, .string ⟨#[32]⟩] W fun e w' => e = .returned (.string (str t)) ∧ Below W.heap.size W w') := fun v N W base hrow => by
      have e := join_words (k := k) (f := f) (rs := rs) (os := os) HOK.out.k (tx_more hcd).1
      have hNl : N = (wordsT k f rs os).length := by have := hrow.1; simp [texts] at this; omega
      rw [ht, ← e]
      exact join_any 32 v W hrow hNl (words_few HOK.out) (by rw [e]; exact hl2)
    have hss : (str t).size = t.length := rfl
    by_cases hlen3 : 300 < t.length
    · have hr : ttR k f rs os = (2, []) := by unfold ttR; rw [← hcd, if_neg (by simp), ← ht, if_pos hlen3]
      rw [hr]
      clear hr hcd ht hl2 hlen
      have hli : (300 : Int) < (t.length : Int) := by omega
      go_enter Tryz.func7, Tryz.ntmps7
      go_wp2_with (first
        | (go_at_call 11; (with_reducible refine hS.mono ?_); clear hS; rintro e w2 ⟨rfl, hb2⟩; have HT2 := keepb T1.out hb2; have HP2 := keepb T0.out hb2; have HBW : Hid (Below w.heap.size w w2) := HBX.out.trans (hb2.mono (by simp; omega)); obtain ⟨p0, p1, p2, p3, _⟩ := cells4 HP2.out; have hwd := txWords_any n c m d ia oa k f rs os w2 HOK.out HRL.out (HT.out.below HBW.out (Nat.le_refl _)) (HE.out.below HBW.out (Nat.le_refl _)); clear hb2)
        | (go_at_call 24; (with_reducible refine hwd.mono ?_); clear hwd; rintro e w3 ⟨v, N, rfl, hrow, hb3⟩; have HT3 := keepb HT2.out hb3; have HBV : Hid (Below w.heap.size w w3) := HBW.out.trans (hb3.mono HBW.out.size); have hJ := HJ.out v N w3 _ hrow; clear hb3 hrow)
        | (go_at_call 23; (with_reducible refine hJ.mono ?_); clear hJ; rintro e w4 ⟨rfl, hb4⟩; have HBU : Hid (Below w.heap.size w w4) := HBV.out.trans (hb4.mono HBV.out.size); obtain ⟨q0, q1, q2, q3, HR⟩ := res_cells HT3.out hb4 (lt_of_block HT3.out); clear hb4))
      obtain ⟨s0, s1, s2⟩ := two_set HR.out (.int .i64 2) (.string ⟨#[]⟩)
      exact bodyPost_ret (v := .agg #[.int .i64 2, .string ⟨#[]⟩]) (by simp [results, Tryz.results7, go_sem, s0, s1]) rfl ⟨rfl, below_res HBU.out _ _⟩
    · have hr : ttR k f rs os = (0, t) := by unfold ttR; rw [← hcd, if_neg (by simp), ← ht, if_neg hlen3]
      rw [hr]
      clear hr hcd ht hl2 hlen
      have hli : ¬ (300 : Int) < (t.length : Int) := by omega
      go_enter Tryz.func7, Tryz.ntmps7
      go_wp2_with (first
        | (go_at_call 11; (with_reducible refine hS.mono ?_); clear hS; rintro e w2 ⟨rfl, hb2⟩; have HT2 := keepb T1.out hb2; have HP2 := keepb T0.out hb2; have HBW : Hid (Below w.heap.size w w2) := HBX.out.trans (hb2.mono (by simp; omega)); obtain ⟨p0, p1, p2, p3, _⟩ := cells4 HP2.out; have hwd := txWords_any n c m d ia oa k f rs os w2 HOK.out HRL.out (HT.out.below HBW.out (Nat.le_refl _)) (HE.out.below HBW.out (Nat.le_refl _)); clear hb2)
        | (go_at_call 24; (with_reducible refine hwd.mono ?_); clear hwd; rintro e w3 ⟨v, N, rfl, hrow, hb3⟩; have HT3 := keepb HT2.out hb3; have HBV : Hid (Below w.heap.size w w3) := HBW.out.trans (hb3.mono HBW.out.size); have hJ := HJ.out v N w3 _ hrow; clear hb3 hrow)
        | (go_at_call 23; (with_reducible refine hJ.mono ?_); clear hJ; rintro e w4 ⟨rfl, hb4⟩; have HBU : Hid (Below w.heap.size w w4) := HBV.out.trans (hb4.mono HBV.out.size); obtain ⟨q0, q1, q2, q3, HR⟩ := res_cells HT3.out hb4 (lt_of_block HT3.out); clear hb4))
      obtain ⟨s0, s1, s2⟩ := two_set HR.out (.int .i64 0) (.string (str t))
      exact bodyPost_ret (v := .agg #[.int .i64 0, .string (str t)]) (by simp [results, Tryz.results7, go_sem, s0, s1]) rfl ⟨rfl, below_res HBU.out _ _⟩
  · have hr : ttR k f rs os = (cd, []) := by unfold ttR; rw [← hcd, if_pos hz]
    rw [hr]
    clear hr hcd hlen
    go_enter Tryz.func7, Tryz.ntmps7
    go_wp2_with (first
      | (go_at_call 11; (with_reducible refine hS.mono ?_); clear hS; rintro e w2 ⟨rfl, hb2⟩; obtain ⟨q0, q1, q2, q3, HR⟩ := res_cells T1.out hb2 (by simp); have HBW : Hid (Below w.heap.size w w2) := HBX.out.trans (hb2.mono (by simp; omega)); clear hb2))
    obtain ⟨s0, s1, s2⟩ := two_set HR.out (.int .i64 cd) (.string ⟨#[]⟩)
    exact bodyPost_ret (v := .agg #[.int .i64 cd, .string ⟨#[]⟩]) (by simp [results, Tryz.results7, go_sem, s0, s1]) rfl ⟨rfl, below_res HBW.out _ _⟩

end Go.Proofs.YtciefdphjkjikaaGreatDoor
