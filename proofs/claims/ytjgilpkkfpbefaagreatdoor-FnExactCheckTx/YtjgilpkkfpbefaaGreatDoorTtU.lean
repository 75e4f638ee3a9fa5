/- What the specification's TxText answers; what the program's owes. -/
import Derived.Test.YtjgilpkkfpbefaaGreatDoorTtT
import Derived.Test.YtjgilpkkfpbefaaGreatDoorRtU
import Derived.Test.YtjgilpkkfpbefaaGreatDoorTxU
namespace Go.Proofs.YtjgilpkkfpbefaaGreatDoor
open Go.RowKit Go.Shelf Go.Maps Go.WideMaps

theorem refsR_zero {rs : List (Int × Int)} : ∀ seen, refsR seen rs = 0 → ∀ r ∈ rs, refB r = true := by
  induction rs with
  | nil => intro _ _ r hr; cases hr
  | cons a t ih =>
    intro seen h
    rw [refsR] at h
    by_cases h1 : refB a = false
    · rw [if_pos h1] at h; cases h
    · rw [if_neg h1] at h
      by_cases h2 : memB seen a = true
      · rw [if_pos h2] at h; cases h
      · rw [if_neg h2] at h
        intro r hr
        rcases List.mem_cons.1 hr with rfl | hr
        · simpa using h1
        · exact ih _ h r hr
theorem outsR_rule {os : List Ou} (h : outsR os = 0) : ∀ o ∈ os, ruleR o.l o.x o.y = 0 := by
  induction os with
  | nil => intro o ho; cases ho
  | cons a t ih =>
    rw [outsR] at h
    by_cases h1 : inB a.v 1 1000000 = false
    · rw [if_pos h1] at h; cases h
    · rw [if_neg h1] at h
      by_cases h2 : ruleR a.l a.x a.y ≠ 0
      · rw [if_pos h2] at h; exact absurd h h2
      · rw [if_neg h2] at h
        intro o ho
        rcases List.mem_cons.1 ho with rfl | ho
        · exact Classical.not_not.1 h2
        · exact ih h o ho
theorem getD_mem {α : Type} {l : List α} {j : Nat} {d : α} (h : j < l.length) : l.getD j d ∈ l := by
  rw [List.getD, List.getElem?_eq_getElem h]
  exact List.getElem_mem _
theorem txOk_of {k f : Int} {rs : List (Int × Int)} {os : List Ou} (h : 0 = txR k f rs os) : TxOk k f rs os := by
  obtain ⟨hm4, hv⟩ := txR_zero rfl h
  unfold txR at h
  by_cases h1 : inB k 0 2 = false ∨ ¬ (k = 0 ↔ f = 0)
  · rw [if_pos h1] at h; cases h
  rw [if_neg h1] at h
  by_cases h2 : k ≠ 0 ∧ inB f 1 999 = false
  · rw [if_pos h2] at h; cases h
  rw [if_neg h2] at h
  by_cases h3 : inB rs.length 1 4 = false ∨ inB os.length 1 4 = false
  · rw [if_pos h3] at h; cases h
  rw [if_neg h3] at h
  have h4 : inB rs.length 1 4 = true := by
    cases e : inB rs.length 1 4
    · exact absurd (.inl e) h3
    · rfl
  by_cases h5 : refsR [] rs ≠ 0
  · rw [if_pos h5] at h; exact absurd h.symm h5
  rw [if_neg h5] at h
  unfold joinR at h
  by_cases h6 : outsR os ≠ 0
  · rw [if_pos h6] at h; exact absurd h.symm h6
  have hk := inB_true.1 (show inB k 0 2 = true by cases e : inB k 0 2; exact absurd (.inl e) h1; rfl)
  have hkf : k = 0 ↔ f = 0 := Classical.not_not.1 fun e => h1 (.inr e)
  have hn := inB_true.1 h4
  have hrs := refsR_zero [] (Classical.not_not.1 h5)
  have hos := outsR_rule (Classical.not_not.1 h6)
  refine ⟨by omega, ?_, by omega, hm4, fun j hj => ?_, fun j hj => ?_⟩
  · by_cases k0 : k = 0
    · have := hkf.1 k0; omega
    · have := inB_true.1 (show inB f 1 999 = true by cases e : inB f 1 999; exact absurd ⟨k0, e⟩ h2; rfl)
      omega
  · have := hrs _ (getD_mem (d := G0) hj)
    unfold refB at this
    have a := (Bool.and_eq_true _ _).mp this
    have a1 := inB_true.1 a.1
    have a2 := inB_true.1 a.2
    omega
  · have hr := hos _ (getD_mem (d := O0) hj)
    obtain ⟨b1, b2, b3, b4⟩ := ruleR_zero rfl hr
    have hvv := hv j hj
    exact ⟨⟨by omega, by omega⟩, b1, ⟨by omega, by omega⟩, b3, fun i hi => by have := b4 _ (getD_mem (d := 0) hi); omega⟩

def ttR (k f : Int) (rs : List (Int × Int)) (os : List Ou) : Int × List UInt8 := if txR k f rs os ≠ 0 then (txR k f rs os, []) else if 300 < (txT k f rs os).length then (2, []) else (0, txT k f rs os)

set_option maxHeartbeats 1000000 in
theorem sTxText_any (n c m d : Nat) (ia oa : Option Addr) (k f : Int) (rs : List (Int × Int)) (os : List Ou) (w : World) (hn : n ≤ 1048576) (hm : m ≤ 1048576) (hc1 : n ≤ c) (hc2 : c ≤ maxLen) (hk : ∀ j, j < m → (os.getD j O0).l.length ≤ 1048576) (h : TxAt w ia n oa m rs os) :
    Calls Tryz.prog 25 #[.agg #[.int .i64 k, .int .i64 f, .slice ia n c, .slice oa m d]] w fun e w' => e = .returned (.agg #[.int .i64 (ttR k f rs os).1, .string (str (ttR k f rs os).2)]) ∧ Below w.heap.size w w' := by
  have hbx : Below w.heap.size w ((w.alloc (.cells #[.int .i64 k, .int .i64 f, .slice ia n c, .slice oa m d] 46)).alloc (.cells #[.int .i64 0, .string ByteArray.empty] 74)) := below_box2 _ _
  have T0 := show Hid (((w.alloc (.cells #[.int .i64 k, .int .i64 f, .slice ia n c, .slice oa m d] 46)).alloc (.cells #[.int .i64 0, .string ByteArray.empty] 74)).heap[w.heap.size]? = some (.cells #[.int .i64 k, .int .i64 f, .slice ia n c, .slice oa m d] 46 (0, 0))) from block_at2
  have T1 := show Hid (((w.alloc (.cells #[.int .i64 k, .int .i64 f, .slice ia n c, .slice oa m d] 46)).alloc (.cells #[.int .i64 0, .string ByteArray.empty] 74)).heap[w.heap.size + 1]? = some (.cells #[.int .i64 0, .string ByteArray.empty] 74 (0, 0))) from heap_alloc_at _ _ _ (by simp)
  have hS := l3Fault_any w.heap.size n c m d ia oa k f rs os _ hn hm hc1 hc2 hk (h.below hbx (Nat.le_refl _)) T0.out
  have HBX : Hid (Below w.heap.size w ((w.alloc (.cells #[.int .i64 k, .int .i64 f, .slice ia n c, .slice oa m d] 46)).alloc (.cells #[.int .i64 0, .string ByteArray.empty] 74))) := hbx
  have HT : Hid (TxAt w ia n oa m rs os) := h
  clear hbx h hk
  obtain ⟨cd, hcd⟩ : ∃ c, c = txR k f rs os := ⟨_, rfl⟩
  rw [← hcd] at hS
  by_cases hz : cd = 0
  · subst hz
    have HOK : Hid (TxOk k f rs os) := txOk_of hcd
    obtain ⟨t, ht⟩ : ∃ t, t = txT k f rs os := ⟨_, rfl⟩
    have HTX : Hid (t = txT k f rs os) := ht
    have hss : (str t).size = t.length := rfl
    by_cases hlen : 300 < t.length
    · have hr : ttR k f rs os = (2, []) := by unfold ttR; rw [← hcd, if_neg (by simp), ← ht, if_pos hlen]
      rw [hr]
      clear hr hcd ht
      have hli : (300 : Int) < (t.length : Int) := by omega
      go_enter Tryz.func25, Tryz.ntmps25
      go_wp2_with (first
        | (go_at_call 23; refine hS.mono ?_; clear hS; rintro e w2 ⟨rfl, hb2⟩; have HT2 := keepb T1.out hb2; have HP2 := keepb T0.out hb2; have HBW : Hid (Below w.heap.size w w2) := HBX.out.trans (hb2.mono (by simp; omega)); obtain ⟨⟨p0, p1, p2, p3, _⟩, _⟩ := res4 T0.out hb2 (by simp; omega); have hsm := l3Text_any w.heap.size n c m d ia oa k f rs os w2 HOK.out (HT.out.below HBW.out (Nat.le_refl _)) (lt_of_block HP2.out) p0 p1 p2 p3; rw [← HTX.out] at hsm; clear hb2 p0 p1 p2 p3)
        | (go_at_call 50; refine hsm.mono ?_; clear hsm; rintro e w3 ⟨rfl, hb3⟩; have HBV : Hid (Below w.heap.size w w3) := HBW.out.trans (hb3.mono HBW.out.size); obtain ⟨q0, q1, q2, q3, HR⟩ := res_cells HT2.out hb3 (lt_of_block HT2.out); clear hb3))
      obtain ⟨s0, s1, s2⟩ := two_set HR.out (.int .i64 2) (.string ⟨#[]⟩)
      exact bodyPost_ret (v := .agg #[.int .i64 2, .string ⟨#[]⟩]) (by simp [results, Tryz.results25, go_sem, s0, s1]) rfl ⟨rfl, below_res HBV.out _ _⟩
    · have hr : ttR k f rs os = (0, t) := by unfold ttR; rw [← hcd, if_neg (by simp), ← ht, if_neg hlen]
      rw [hr]
      clear hr hcd ht
      have hli : ¬ (300 : Int) < (t.length : Int) := by omega
      go_enter Tryz.func25, Tryz.ntmps25
      go_wp2_with (first
        | (go_at_call 23; refine hS.mono ?_; clear hS; rintro e w2 ⟨rfl, hb2⟩; have HT2 := keepb T1.out hb2; have HP2 := keepb T0.out hb2; have HBW : Hid (Below w.heap.size w w2) := HBX.out.trans (hb2.mono (by simp; omega)); obtain ⟨⟨p0, p1, p2, p3, _⟩, _⟩ := res4 T0.out hb2 (by simp; omega); have hsm := l3Text_any w.heap.size n c m d ia oa k f rs os w2 HOK.out (HT.out.below HBW.out (Nat.le_refl _)) (lt_of_block HP2.out) p0 p1 p2 p3; rw [← HTX.out] at hsm; clear hb2 p0 p1 p2 p3)
        | (go_at_call 50; refine hsm.mono ?_; clear hsm; rintro e w3 ⟨rfl, hb3⟩; have HBV : Hid (Below w.heap.size w w3) := HBW.out.trans (hb3.mono HBW.out.size); obtain ⟨q0, q1, q2, q3, HR⟩ := res_cells HT2.out hb3 (lt_of_block HT2.out); clear hb3))
      obtain ⟨s0, s1, s2⟩ := two_set HR.out (.int .i64 0) (.string (str t))
      exact bodyPost_ret (v := .agg #[.int .i64 0, .string (str t)]) (by simp [results, Tryz.results25, go_sem, s0, s1]) rfl ⟨rfl, below_res HBV.out _ _⟩
  · have hr : ttR k f rs os = (cd, []) := by unfold ttR; rw [← hcd, if_pos hz]
    rw [hr]
    clear hr hcd
    go_enter Tryz.func25, Tryz.ntmps25
    go_wp2_with (first
      | (go_at_call 23; refine hS.mono ?_; rintro e w2 ⟨rfl, hb2⟩; obtain ⟨q0, q1, q2, q3, HR⟩ := res_cells T1.out hb2 (by simp); have HBW : Hid (Below w.heap.size w w2) := HBX.out.trans (hb2.mono (by simp; omega)); clear hb2))
    obtain ⟨s0, s1, s2⟩ := two_set HR.out (.int .i64 cd) (.string ⟨#[]⟩)
    exact bodyPost_ret (v := .agg #[.int .i64 cd, .string ⟨#[]⟩]) (by simp [results, Tryz.results25, go_sem, s0, s1]) rfl ⟨rfl, below_res HBW.out _ _⟩

theorem var_below {P : Program} {w w' : World} {nm : String} {cs : Array Value} (h : w.var? P nm = some cs) {B : Nat} (hb : Below B w w') (hB : w.heap.size ≤ B) : w'.var? P nm = some cs := by
  unfold World.var? at h ⊢
  cases hg : P.globalNamed nm with
  | none => simp [hg] at h
  | some g =>
    simp only [hg, Option.bind_some] at h ⊢
    have hlt : g < w.heap.size := by
      rcases Nat.lt_or_ge g w.heap.size with h' | h'
      · exact h'
      · simp [Array.getElem?_eq_none h'] at h
    rw [hb.block g (by omega)]
    exact h
/-- The package variables that the program's TxText reads: the table of powers, the kinds' names. -/
structure Ev (w : World) : Prop where
  tb : Tb w
  kn : w.var? Tryz.prog "loop.example/g00304/impl.kindNames" = some #[.string (str [112, 97, 121]), .string (str [106, 111, 105, 110]), .string (str [108, 101, 97, 118, 101])]
  mx : ∃ z : Int, w.cell? ⟨2, 0, none⟩ = some (.int .i64 z)
theorem Ev.below {w w' : World} (h : Ev w) {B : Nat} (hb : Below B w w') (hB : w.heap.size ≤ B) : Ev w' :=
  ⟨h.tb.below hb hB, var_below h.kn hb hB, by
    obtain ⟨z, hz⟩ := h.mx
    exact ⟨z, (hb.cell (p := ⟨2, 0, none⟩) (Nat.lt_of_lt_of_le (World.block_lt_of_cell? _ _ hz) hB)).trans hz⟩⟩

end Go.Proofs.YtjgilpkkfpbefaaGreatDoor
