/- The specification's OutSum, and the law on it, out of the program's contract. -/
import Derived.Test.YtaopblgnmmhjfaaLTxFault
import Derived.Test.YtaopblgnmmhjfaaLIdOf
namespace Go.Proofs.Ytaopblgnmmhjfaa
open Go.RowKit Go.Maps Go.WideMaps

theorem outsR_zero {os : List Ou} (h : outsR os = 0) : ∀ o ∈ os, inB o.v 1 1000000 = true := by
  induction os with
  | nil => intro o ho; cases ho
  | cons a t ih =>
    rw [outsR] at h
    by_cases h1 : inB a.v 1 1000000 = false
    · rw [if_pos h1] at h; cases h
    · rw [if_neg h1] at h
      by_cases h2 : ruleR a.l a.x a.y ≠ 0
      · rw [if_pos h2] at h; exact absurd h h2
      · rw [if_neg h2] at h
        intro o ho
        rcases List.mem_cons.1 ho with rfl | ho
        · simpa using h1
        · exact ih h o ho
theorem txR_zero {k f : Int} {rs : List (Int × Int)} {os : List Ou} {m : Nat} (hm : os.length = m) (h : 0 = txR k f rs os) : m ≤ 4 ∧ ∀ j, j < m → 1 ≤ (os.getD j O0).v ∧ (os.getD j O0).v ≤ 1000000 := by
  unfold txR at h
  by_cases h1 : inB k 0 2 = false ∨ ¬ (k = 0 ↔ f = 0)
  · rw [if_pos h1] at h; cases h
  rw [if_neg h1] at h
  by_cases h2 : k ≠ 0 ∧ inB f 1 999 = false
  · rw [if_pos h2] at h; cases h
  rw [if_neg h2] at h
  by_cases h3 : inB rs.length 1 4 = false ∨ inB os.length 1 4 = false
  · rw [if_pos h3] at h; cases h
  rw [if_neg h3] at h
  have h4 : inB os.length 1 4 = true := by
    cases e : inB os.length 1 4
    · exact absurd (.inr e) h3
    · rfl
  by_cases h5 : refsR [] rs ≠ 0
  · rw [if_pos h5] at h; exact absurd h.symm h5
  rw [if_neg h5] at h
  unfold joinR at h
  by_cases h6 : outsR os ≠ 0
  · rw [if_pos h6] at h; exact absurd h.symm h6
  have h7 := outsR_zero (Classical.not_not.1 h6)
  have h8 := inB_true.1 h4
  refine ⟨by omega, fun j hj => ?_⟩
  have e1 : os.getD j O0 = os[j]'(by omega) := by rw [List.getD, List.getElem?_eq_getElem (by omega)]; rfl
  have := inB_true.1 (h7 (os.getD j O0) (by rw [e1]; exact List.getElem_mem _))
  exact this

def sumR (k f : Int) (rs : List (Int × Int)) (os : List Ou) : Int × Int := if txR k f rs os ≠ 0 then (txR k f rs os, 0) else (0, (os.map Ou.v).sum)

set_option maxHeartbeats 1000000 in
theorem sOutSum_any (n c m d : Nat) (ia oa : Option Addr) (k f : Int) (rs : List (Int × Int)) (os : List Ou) (w : World) (hn : n ≤ 1048576) (hm : m ≤ 1048576) (hc1 : n ≤ c) (hc2 : c ≤ maxLen) (hk : ∀ j, j < m → (os.getD j O0).l.length ≤ 1048576) (h : TxAt w ia n oa m rs os) :
    Calls Try.prog 63 #[.agg #[.int .i64 k, .int .i64 f, .slice ia n c, .slice oa m d]] w fun e w' => e = .returned (.agg #[.int .i64 (sumR k f rs os).1, .int .i64 (sumR k f rs os).2]) ∧ Below w.heap.size w w' := by
  have hbx : Below w.heap.size w ((w.alloc (.cells #[.int .i64 k, .int .i64 f, .slice ia n c, .slice oa m d] 86)).alloc (.cells #[.int .i64 0, .int .i64 0] 34)) := below_box2 _ _
  have T0 := show Hid (((w.alloc (.cells #[.int .i64 k, .int .i64 f, .slice ia n c, .slice oa m d] 86)).alloc (.cells #[.int .i64 0, .int .i64 0] 34)).heap[w.heap.size]? = some (.cells #[.int .i64 k, .int .i64 f, .slice ia n c, .slice oa m d] 86 (0, 0))) from block_at2
  have T1 := show Hid (((w.alloc (.cells #[.int .i64 k, .int .i64 f, .slice ia n c, .slice oa m d] 86)).alloc (.cells #[.int .i64 0, .int .i64 0] 34)).heap[w.heap.size + 1]? = some (.cells #[.int .i64 0, .int .i64 0] 34 (0, 0))) from heap_alloc_at _ _ _ (by simp)
  have hS := l3Fault_any w.heap.size n c m d ia oa k f rs os _ hn hm hc1 hc2 hk (h.below hbx (Nat.le_refl _)) T0.out
  have HBX : Hid (Below w.heap.size w ((w.alloc (.cells #[.int .i64 k, .int .i64 f, .slice ia n c, .slice oa m d] 86)).alloc (.cells #[.int .i64 0, .int .i64 0] 34))) := hbx
  have HO : Hid (OAt w oa m os) := h.o
  have HM : Hid (os.length = m) := h.o.1
  clear hbx h hk
  obtain ⟨cd, hcd⟩ : ∃ c, c = txR k f rs os := ⟨_, rfl⟩
  rw [← hcd] at hS
  by_cases hz : cd = 0
  · subst hz
    have hr : sumR k f rs os = (0, (os.map Ou.v).sum) := by unfold sumR; rw [← hcd, if_neg (by simp)]
    rw [hr]
    obtain ⟨hm4, hvv⟩ := txR_zero HM.out hcd
    have HV : Hid (∀ j, j < m → 1 ≤ (os.getD j O0).v ∧ (os.getD j O0).v ≤ 1000000) := hvv
    obtain ⟨s, hs⟩ : ∃ s, s = (os.map Ou.v).sum := ⟨_, rfl⟩
    have HS : Hid ((os.map Ou.v).sum = s) := hs.symm
    rw [← hs]
    clear hr hcd hvv hs
    go_enter Try.func63, Try.ntmps63
    go_wp2_with (first
      | (go_at_call 121; refine hS.mono ?_; rintro e w2 ⟨rfl, hb2⟩; obtain ⟨q0, q1, q2, q3, HR⟩ := res_cells T1.out hb2 (by simp); obtain ⟨⟨p0, p1, p2, p3, _⟩, _⟩ := res4 T0.out hb2 (by simp; omega); have HBW : Hid (Below w.heap.size w w2) := HBX.out.trans (hb2.mono (by simp; omega)); have hsm := l3Sum_any w.heap.size m d oa os w2 hm4 HV.out (HO.out.below HBW.out (Nat.le_refl _)) p3; rw [HS.out] at hsm; clear hb2)
      | (go_at_call 130; refine hsm.mono ?_; rintro e w' ⟨rfl, hw⟩; have hw2 := hw.symm; subst hw2))
    obtain ⟨s0, s1, s2⟩ := two_set HR.out (.int .i64 0) (.int .i64 s)
    exact bodyPost_ret (v := .agg #[.int .i64 0, .int .i64 s]) (by simp [results, Try.results63, go_sem, s0, s1]) rfl ⟨rfl, below_res HBW.out _ _⟩
  · have hr : sumR k f rs os = (cd, 0) := by unfold sumR; rw [← hcd, if_pos hz]
    rw [hr]
    clear hr hcd
    go_enter Try.func63, Try.ntmps63
    go_wp2_with (first
      | (go_at_call 121; refine hS.mono ?_; rintro e w2 ⟨rfl, hb2⟩; obtain ⟨q0, q1, q2, q3, HR⟩ := res_cells T1.out hb2 (by simp); have HBW : Hid (Below w.heap.size w w2) := HBX.out.trans (hb2.mono (by simp; omega)); clear hb2))
    obtain ⟨s0, s1, s2⟩ := two_set HR.out (.int .i64 cd) (.int .i64 0)
    exact bodyPost_ret (v := .agg #[.int .i64 cd, .int .i64 0]) (by simp [results, Try.results63, go_sem, s0, s1]) rfl ⟨rfl, below_res HBW.out _ _⟩

/-- What the program's OutSum owes. -/
def IOutSum : Prop := ∀ (n c m d : Nat) (ia oa : Option Addr) (k f : Int) (rs : List (Int × Int)) (os : List Ou) (w : World), n ≤ 1048576 → m ≤ 1048576 → n ≤ c → c ≤ maxLen → (∀ j, j < m → (os.getD j O0).l.length ≤ 1048576) → (Lit.int .i64 k).wf = true → (Lit.int .i64 f).wf = true → FineR rs → FineO os → TxAt w ia n oa m rs os →
  Calls Try.prog 64 #[.agg #[.int .i64 k, .int .i64 f, .slice ia n c, .slice oa m d]] w fun e w' => e = .returned (.agg #[.int .i64 (sumR k f rs os).1, .int .i64 (sumR k f rs os).2]) ∧ Below w.heap.size w w'

end Go.Proofs.Ytaopblgnmmhjfaa
