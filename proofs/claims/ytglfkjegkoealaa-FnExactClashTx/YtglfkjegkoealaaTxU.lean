/- The specification's OutSum, and the law on it, out of the program's contract. The specification's ClashTx. -/
import Derived.Test.YtglfkjegkoealaaLTxFault
import Derived.Test.YtglfkjegkoealaaIdOf
namespace Go.Proofs.Ytglfkjegkoealaa
open Go.RowKit Go.Maps Go.WideMaps

theorem outsR_zero {os : List Ou} (h : outsR os = 0) : ∀ o ∈ os, inB o.v 1 1000000 = true := by
  induction os with
  | nil => intro o ho; cases ho
  | cons a t ih =>
    rw [outsR] at h
    by_cases h1 : inB a.v 1 1000000 = false
    · rw [if_pos h1] at h; cases h
    · rw [if_neg h1] at h
      by_cases h2 : ruleR a.l a.x a.y ≠ 0
      · rw [if_pos h2] at h; exact absurd h h2
      · rw [if_neg h2] at h
        intro o ho
        rcases List.mem_cons.1 ho with rfl | ho
        · simpa using h1
        · exact ih h o ho
theorem txR_zero {k f : Int} {rs : List (Int × Int)} {os : List Ou} {m : Nat} (hm : os.length = m) (h : 0 = txR k f rs os) : m ≤ 4 ∧ ∀ j, j < m → 1 ≤ (os.getD j O0).v ∧ (os.getD j O0).v ≤ 1000000 := by
  unfold txR at h
  by_cases h1 : inB k 0 2 = false ∨ ¬ (k = 0 ↔ f = 0)
  · rw [if_pos h1] at h; cases h
  rw [if_neg h1] at h
  by_cases h2 : k ≠ 0 ∧ inB f 1 999 = false
  · rw [if_pos h2] at h; cases h
  rw [if_neg h2] at h
  by_cases h3 : inB rs.length 1 4 = false ∨ inB os.length 1 4 = false
  · rw [if_pos h3] at h; cases h
  rw [if_neg h3] at h
  have h4 : inB os.length 1 4 = true := by
    cases e : inB os.length 1 4
    · exact absurd (.inr e) h3
    · rfl
  by_cases h5 : refsR [] rs ≠ 0
  · rw [if_pos h5] at h; exact absurd h.symm h5
  rw [if_neg h5] at h
  unfold joinR at h
  by_cases h6 : outsR os ≠ 0
  · rw [if_pos h6] at h; exact absurd h.symm h6
  have h7 := outsR_zero (Classical.not_not.1 h6)
  have h8 := inB_true.1 h4
  refine ⟨by omega, fun j hj => ?_⟩
  have e1 : os.getD j O0 = os[j]'(by omega) := by rw [List.getD, List.getElem?_eq_getElem (by omega)]; rfl
  have := inB_true.1 (h7 (os.getD j O0) (by rw [e1]; exact List.getElem_mem _))
  exact this

def sumR (k f : Int) (rs : List (Int × Int)) (os : List Ou) : Int × Int := if txR k f rs os ≠ 0 then (txR k f rs os, 0) else (0, (os.map Ou.v).sum)

set_option maxHeartbeats 1000000 in
theorem sOutSum_any (n c m d : Nat) (ia oa : Option Addr) (k f : Int) (rs : List (Int × Int)) (os : List Ou) (w : World) (hn : n ≤ 1048576) (hm : m ≤ 1048576) (hc1 : n ≤ c) (hc2 : c ≤ maxLen) (hk : ∀ j, j < m → (os.getD j O0).l.length ≤ 1048576) (h : TxAt w ia n oa m rs os) :
    Calls Try.prog 16 #[.agg #[.int .i64 k, .int .i64 f, .slice ia n c, .slice oa m d]] w fun e w' => e = .returned (.agg #[.int .i64 (sumR k f rs os).1, .int .i64 (sumR k f rs os).2]) ∧ Below w.heap.size w w' := by
  have hbx : Below w.heap.size w ((w.alloc (.cells #[.int .i64 k, .int .i64 f, .slice ia n c, .slice oa m d] 31)).alloc (.cells #[.int .i64 0, .int .i64 0] 36)) := below_box2 _ _
  have T0 := show Hid (((w.alloc (.cells #[.int .i64 k, .int .i64 f, .slice ia n c, .slice oa m d] 31)).alloc (.cells #[.int .i64 0, .int .i64 0] 36)).heap[w.heap.size]? = some (.cells #[.int .i64 k, .int .i64 f, .slice ia n c, .slice oa m d] 31 (0, 0))) from block_at2
  have T1 := show Hid (((w.alloc (.cells #[.int .i64 k, .int .i64 f, .slice ia n c, .slice oa m d] 31)).alloc (.cells #[.int .i64 0, .int .i64 0] 36)).heap[w.heap.size + 1]? = some (.cells #[.int .i64 0, .int .i64 0] 36 (0, 0))) from heap_alloc_at _ _ _ (by simp)
  have hS := l3Fault_any w.heap.size n c m d ia oa k f rs os _ hn hm hc1 hc2 hk (h.below hbx (Nat.le_refl _)) T0.out
  have HBX : Hid (Below w.heap.size w ((w.alloc (.cells #[.int .i64 k, .int .i64 f, .slice ia n c, .slice oa m d] 31)).alloc (.cells #[.int .i64 0, .int .i64 0] 36))) := hbx
  have HO : Hid (OAt w oa m os) := h.o
  have HM : Hid (os.length = m) := h.o.1
  clear hbx h hk
  obtain ⟨cd, hcd⟩ : ∃ c, c = txR k f rs os := ⟨_, rfl⟩
  rw [← hcd] at hS
  by_cases hz : cd = 0
  · subst hz
    have hr : sumR k f rs os = (0, (os.map Ou.v).sum) := by unfold sumR; rw [← hcd, if_neg (by simp)]
    rw [hr]
    obtain ⟨hm4, hvv⟩ := txR_zero HM.out hcd
    have HV : Hid (∀ j, j < m → 1 ≤ (os.getD j O0).v ∧ (os.getD j O0).v ≤ 1000000) := hvv
    obtain ⟨s, hs⟩ : ∃ s, s = (os.map Ou.v).sum := ⟨_, rfl⟩
    have HS : Hid ((os.map Ou.v).sum = s) := hs.symm
    rw [← hs]
    clear hr hcd hvv hs
    go_enter Try.func16, Try.ntmps16
    go_wp2_with (first
      | (go_at_call 36; refine hS.mono ?_; rintro e w2 ⟨rfl, hb2⟩; obtain ⟨q0, q1, q2, q3, HR⟩ := res_cells T1.out hb2 (by simp); obtain ⟨⟨p0, p1, p2, p3, _⟩, _⟩ := res4 T0.out hb2 (by simp; omega); have HBW : Hid (Below w.heap.size w w2) := HBX.out.trans (hb2.mono (by simp; omega)); have hsm := l3Sum_any w.heap.size m d oa os w2 hm4 HV.out (HO.out.below HBW.out (Nat.le_refl _)) p3; rw [HS.out] at hsm; clear hb2)
      | (go_at_call 45; refine hsm.mono ?_; rintro e w' ⟨rfl, hw⟩; have hw2 := hw.symm; subst hw2))
    obtain ⟨s0, s1, s2⟩ := two_set HR.out (.int .i64 0) (.int .i64 s)
    exact bodyPost_ret (v := .agg #[.int .i64 0, .int .i64 s]) (by simp [results, Try.results16, go_sem, s0, s1]) rfl ⟨rfl, below_res HBW.out _ _⟩
  · have hr : sumR k f rs os = (cd, 0) := by unfold sumR; rw [← hcd, if_pos hz]
    rw [hr]
    clear hr hcd
    go_enter Try.func16, Try.ntmps16
    go_wp2_with (first
      | (go_at_call 36; refine hS.mono ?_; rintro e w2 ⟨rfl, hb2⟩; obtain ⟨q0, q1, q2, q3, HR⟩ := res_cells T1.out hb2 (by simp); have HBW : Hid (Below w.heap.size w w2) := HBX.out.trans (hb2.mono (by simp; omega)); clear hb2))
    obtain ⟨s0, s1, s2⟩ := two_set HR.out (.int .i64 cd) (.int .i64 0)
    exact bodyPost_ret (v := .agg #[.int .i64 cd, .int .i64 0]) (by simp [results, Try.results16, go_sem, s0, s1]) rfl ⟨rfl, below_res HBW.out _ _⟩

/-- What the program's OutSum owes. -/
def IOutSum : Prop := ∀ (n c m d : Nat) (ia oa : Option Addr) (k f : Int) (rs : List (Int × Int)) (os : List Ou) (w : World), n ≤ 1048576 → m ≤ 1048576 → n ≤ c → c ≤ maxLen → (∀ j, j < m → (os.getD j O0).l.length ≤ 1048576) → (Lit.int .i64 k).wf = true → (Lit.int .i64 f).wf = true → FineR rs → FineO os → TxAt w ia n oa m rs os →
  Calls Try.prog 17 #[.agg #[.int .i64 k, .int .i64 f, .slice ia n c, .slice oa m d]] w fun e w' => e = .returned (.agg #[.int .i64 (sumR k f rs os).1, .int .i64 (sumR k f rs os).2]) ∧ Below w.heap.size w w'

end Go.Proofs.Ytglfkjegkoealaa

namespace Go.Proofs.Ytglfkjegkoealaa
open Go.RowKit Go.Maps Go.WideMaps

def clashB (rs rs' : List (Int × Int)) : Bool := rs.any fun r => memB rs' r
theorem clashB_hit {rs rs' : List (Int × Int)} {n j : Nat} (hn : rs.length = n) (hj : j < n) {g : Int × Int} (hg : g = rs.getD j G0) (h : memB rs' g = true) : clashB rs rs' = true := by
  have e1 : g = rs[j]'(by omega) := by rw [hg, List.getD, List.getElem?_eq_getElem (by omega)]; rfl
  exact List.any_eq_true.2 ⟨g, by rw [e1]; exact List.getElem_mem _, h⟩
theorem clashB_none {rs rs' : List (Int × Int)} {n j : Nat} (hn : rs.length = n) (hj : ¬ j < n) (h : clashB (rs.take j) rs' = false) : clashB rs rs' = false := by rwa [List.take_of_length_le (by omega)] at h
theorem clashB_next {rs rs' : List (Int × Int)} {n j : Nat} (hn : rs.length = n) (hj : j < n) {g : Int × Int} (hg : g = rs.getD j G0) (h : clashB (rs.take j) rs' = false) (h1 : memB rs' g = false) : Hid (clashB (rs.take (j + 1)) rs' = false) := by
  show _ = _
  obtain ⟨_, e2⟩ := rs_next hn hj hg
  unfold clashB at *
  rw [e2, List.any_append, h]
  simp [h1]

set_option maxRecDepth 20000 in
set_option maxHeartbeats 1000000 in
theorem l3Clash_any (P Q n c n' c' : Nat) (ia ib : Option Addr) (rs rs' : List (Int × Int)) (w : World) (hn : n ≤ 1048576) (hn' : n' ≤ 1048576) (ha : GAt w ia n rs) (hb : GAt w ib n' rs') (hPl : P < w.heap.size) (hQl : Q < w.heap.size) (hP : w.cell? ⟨P, 2, none⟩ = some (.slice ia n c)) (hQ : w.cell? ⟨Q, 2, none⟩ = some (.slice ib n' c')) :
    Calls Try.prog 46 #[.pointer (some ⟨P, 0, none⟩), .pointer (some ⟨Q, 0, none⟩)] w fun e w' => e = .returned (.bool (clashB rs rs')) ∧ Below w.heap.size w w' := by
  have HA : Hid (GAt w ia n rs) := ha
  have HB : Hid (GAt w ib n' rs') := hb
  have HN : Hid (rs.length = n) := ha.1
  obtain ⟨r, hr⟩ : ∃ r, r = clashB rs rs' := ⟨_, rfl⟩
  rw [← hr]
  have HR : Hid (r = clashB rs rs') := hr
  clear ha hb hr
  go_enter Try.func46, Try.ntmps46
  go_wp2
  go_loopw [5] (fun i wr => ∃ j : Nat, j ≤ n ∧ i = .int .i64 j ∧ Below w.heap.size w wr ∧ Hid (clashB (rs.take j) rs' = false)) (fun i _ => n - (intOf i).toNat)
  case atStart => exact ⟨0, Nat.zero_le _, rfl, Below.refl _ _, by show _ = _; simp [clashB]⟩
  case round =>
    obtain ⟨j, hj, rfl, hbel, HT⟩ := hrel
    have y2 := (hbel.cell (p := ⟨P, 2, none⟩) hPl).trans hP
    have z2 := (hbel.cell (p := ⟨Q, 2, none⟩) hQl).trans hQ
    by_cases hlt : j < n
    · rcases HA.out.2 with h0 | ⟨b, off, e0, hbl, hc⟩
      · omega
      subst e0
      obtain ⟨g, hg⟩ : ∃ g, g = rs.getD j G0 := ⟨_, rfl⟩
      have hcx := hc j hlt
      rw [← hg] at hcx
      obtain ⟨g1, g2⟩ := g
      have c0 := (hbel.cell (p := ⟨b, off + j * 2, none⟩) hbl).trans hcx.1
      have c1 := (hbel.cell (p := ⟨b, off + j * 2 + 1, none⟩) hbl).trans hcx.2
      have HG : Hid ((g1, g2) = rs.getD j G0) := hg
      have hki : (j : Int) < (n : Int) := by omega
      obtain ⟨mb, hmb⟩ : ∃ b, b = memB rs' (g1, g2) := ⟨_, rfl⟩
      have HMB : Hid (memB rs' (g1, g2) = mb) := hmb.symm
      have hPw : P < wr.heap.size := Nat.lt_of_lt_of_le hPl hbel.size
      have hQw : Q < wr.heap.size := Nat.lt_of_lt_of_le hQl hbel.size
      have hbw : b < wr.heap.size := Nat.lt_of_lt_of_le hbl hbel.size
      have ham : Calls Try.prog 69 #[.slice ib n' c', .agg #[.int .i64 g1, .int .i64 g2]] wr.drew fun e w' => e = .returned (.bool mb) ∧ Below wr.heap.size wr w' := by
        have := l3Among_any ib n' c' rs' g1 g2 wr.drew (by unfold maxLen; omega) ((HB.out.below hbel (Nat.le_refl _)).below (Below.refl _ _).drew (Nat.le_refl _))
        rw [HMB.out] at this
        exact this.mono fun e w' h => ⟨h.1, (Below.refl _ _).drew.trans h.2⟩
      clear hg hc hcx hmb
      go_wp2
      go_region_held3 (fun w' => w'.cell? ⟨P, 2, none⟩ = some (.slice (some ⟨b, off, none⟩) n c) ∧ w'.cell? ⟨Q, 2, none⟩ = some (.slice ib n' c') ∧ w'.cell? ⟨b, off + j * 2, none⟩ = some (.int .i64 g1) ∧ w'.cell? ⟨b, off + j * 2 + 1, none⟩ = some (.int .i64 g2)) (go_keep)
        (first | (go_at_call 69; refine ham.mono ?_; rintro e w3 ⟨rfl, hb3⟩; have q1 := (hb3.cell (p := ⟨P, 2, none⟩) hPw).trans y2; have q4 := (hb3.cell (p := ⟨Q, 2, none⟩) hQw).trans z2; have q2 := (hb3.cell (p := ⟨b, off + j * 2, none⟩) hbw).trans c0; have q3 := (hb3.cell (p := ⟨b, off + j * 2 + 1, none⟩) hbw).trans c1))
      cases mb
      · go_wp2
        go_roundw
        case rel => exact ⟨j + 1, by omega, by go_num, hbel.trans (hb3.mono hbel.size), clashB_next HN.out hlt HG.out HT.out HMB.out⟩
        case measure => simp [intOf]; omega
      · obtain rfl : r = true := by rw [HR.out]; exact clashB_hit HN.out hlt HG.out HMB.out
        go_wp2
        go_ret
        exact ⟨rfl, hbel.trans (hb3.mono hbel.size)⟩
    · obtain rfl : r = false := by rw [HR.out]; exact clashB_none HN.out hlt HT.out
      go_wp2
      go_ret
      exact ⟨rfl, hbel⟩

def clashR (k f : Int) (rs : List (Int × Int)) (os : List Ou) (k' f' : Int) (rs' : List (Int × Int)) (os' : List Ou) : Bool := decide (txR k f rs os = 0) && (decide (txR k' f' rs' os' = 0) && clashB rs rs')

set_option maxHeartbeats 1000000 in
theorem sClashTx_any (n c m d n' c' m' d' : Nat) (ia oa ib ob : Option Addr) (k f k' f' : Int) (rs rs' : List (Int × Int)) (os os' : List Ou) (w : World) (hn : n ≤ 1048576) (hm : m ≤ 1048576) (hc1 : n ≤ c) (hc2 : c ≤ maxLen) (hk : ∀ j, j < m → (os.getD j O0).l.length ≤ 1048576) (h : TxAt w ia n oa m rs os)
    (hn' : n' ≤ 1048576) (hm' : m' ≤ 1048576) (hc1' : n' ≤ c') (hc2' : c' ≤ maxLen) (hk' : ∀ j, j < m' → (os'.getD j O0).l.length ≤ 1048576) (h' : TxAt w ib n' ob m' rs' os') :
    Calls Try.prog 19 #[.agg #[.int .i64 k, .int .i64 f, .slice ia n c, .slice oa m d], .agg #[.int .i64 k', .int .i64 f', .slice ib n' c', .slice ob m' d']] w fun e w' => e = .returned (.bool (clashR k f rs os k' f' rs' os')) ∧ Below w.heap.size w w' := by
  have hbx : Below w.heap.size w ((w.alloc (.cells #[.int .i64 k, .int .i64 f, .slice ia n c, .slice oa m d] 31)).alloc (.cells #[.int .i64 k', .int .i64 f', .slice ib n' c', .slice ob m' d'] 31)) := below_box2 _ _
  have T0 := show Hid (((w.alloc (.cells #[.int .i64 k, .int .i64 f, .slice ia n c, .slice oa m d] 31)).alloc (.cells #[.int .i64 k', .int .i64 f', .slice ib n' c', .slice ob m' d'] 31)).heap[w.heap.size]? = some (.cells #[.int .i64 k, .int .i64 f, .slice ia n c, .slice oa m d] 31 (0, 0))) from block_at2
  have T1 := show Hid (((w.alloc (.cells #[.int .i64 k, .int .i64 f, .slice ia n c, .slice oa m d] 31)).alloc (.cells #[.int .i64 k', .int .i64 f', .slice ib n' c', .slice ob m' d'] 31)).heap[w.heap.size + 1]? = some (.cells #[.int .i64 k', .int .i64 f', .slice ib n' c', .slice ob m' d'] 31 (0, 0))) from heap_alloc_at _ _ _ (by simp)
  have hA := l3Fault_any w.heap.size n c m d ia oa k f rs os _ hn hm hc1 hc2 hk (h.below hbx (Nat.le_refl _)) T0.out
  have hB : ∀ v, Below w.heap.size w v → v.heap[w.heap.size + 1]? = some (.cells #[.int .i64 k', .int .i64 f', .slice ib n' c', .slice ob m' d'] 31 (0, 0)) → Calls Try.prog 36 #[.pointer (some ⟨w.heap.size + 1, 0, none⟩)] v fun e w' => e = .returned (.int .i64 (txR k' f' rs' os')) ∧ Below v.heap.size v w' := fun v hv hx =>
    l3Fault_any (w.heap.size + 1) n' c' m' d' ib ob k' f' rs' os' v hn' hm' hc1' hc2' hk' (h'.below hv (Nat.le_refl _)) hx
  have HA : Hid (GAt w ia n rs) := h.r
  have HB : Hid (GAt w ib n' rs') := h'.r
  have HBX : Hid (Below w.heap.size w ((w.alloc (.cells #[.int .i64 k, .int .i64 f, .slice ia n c, .slice oa m d] 31)).alloc (.cells #[.int .i64 k', .int .i64 f', .slice ib n' c', .slice ob m' d'] 31))) := hbx
  obtain ⟨ca, hca⟩ : ∃ x, x = txR k f rs os := ⟨_, rfl⟩
  obtain ⟨cb, hcb⟩ : ∃ x, x = txR k' f' rs' os' := ⟨_, rfl⟩
  obtain ⟨cl, hcl⟩ : ∃ x, x = clashB rs rs' := ⟨_, rfl⟩
  have hr : clashR k f rs os k' f' rs' os' = (decide (ca = 0) && (decide (cb = 0) && cl)) := by rw [hca, hcb, hcl]; rfl
  rw [← hca] at hA
  rw [← hcb] at hB
  have HCL : Hid (clashB rs rs' = cl) := hcl.symm
  rw [hr]
  have HBB : Hid (∀ v, Below w.heap.size w v → v.heap[w.heap.size + 1]? = some (.cells #[.int .i64 k', .int .i64 f', .slice ib n' c', .slice ob m' d'] 31 (0, 0)) → Calls Try.prog 36 #[.pointer (some ⟨w.heap.size + 1, 0, none⟩)] v fun e w' => e = .returned (.int .i64 cb) ∧ Below v.heap.size v w') := hB
  clear hr hca hcb hcl hbx h h' hk hk' hB
  by_cases ha0 : ca = 0
  · subst ha0
    by_cases hb0 : cb = 0
    · subst hb0
      have e0 : (decide ((0 : Int) = 0) && (decide ((0 : Int) = 0) && cl)) = cl := by simp
      rw [e0]
      clear e0
      go_enter Try.func19, Try.ntmps19
      go_wp2_with (first
        | (go_at_call 36; (first
            | (refine hA.mono ?_; clear hA; rintro e w2 ⟨rfl, hb2⟩; have HB2 : Hid (Below w.heap.size w w2) := HBX.out.trans (hb2.mono (by simp; omega)); have HP2 := keepb T0.out hb2; have HQ2 := keepb T1.out hb2; have hB2 := HBB.out w2 HB2.out HQ2.out; clear hb2)
            | (refine hB2.mono ?_; clear hB2; rintro e w3 ⟨rfl, hb3⟩; have HB3 : Hid (Below w.heap.size w w3) := HB2.out.trans (hb3.mono HB2.out.size); have HP3 := keepb HP2.out hb3; have HQ3 := keepb HQ2.out hb3; obtain ⟨p0, p1, p2, p3, _⟩ := cells4 HP3.out; obtain ⟨q0, q1, q2, q3, _⟩ := cells4 HQ3.out; have hcl := l3Clash_any w.heap.size (w.heap.size + 1) n c n' c' ia ib rs rs' w3 hn hn' (HA.out.below HB3.out (Nat.le_refl _)) (HB.out.below HB3.out (Nat.le_refl _)) (lt_of_block HP3.out) (lt_of_block HQ3.out) p2 q2; rw [HCL.out] at hcl; clear hb3)))
        | (go_at_call 46; refine hcl.mono ?_; rintro e w4 ⟨rfl, hb4⟩))
      go_ret
      exact ⟨rfl, HB3.out.trans (hb4.mono HB3.out.size)⟩
    · have e0 : (decide ((0 : Int) = 0) && (decide (cb = 0) && cl)) = false := by simp [hb0]
      have hbb : (cb == 0) = false := by simpa using hb0
      rw [e0]
      clear e0
      go_enter Try.func19, Try.ntmps19
      go_wp2_with (first
        | (go_at_call 36; (first
            | (refine hA.mono ?_; clear hA; rintro e w2 ⟨rfl, hb2⟩; have HB2 : Hid (Below w.heap.size w w2) := HBX.out.trans (hb2.mono (by simp; omega)); have HQ2 := keepb T1.out hb2; have hB2 := HBB.out w2 HB2.out HQ2.out; clear hb2)
            | (refine hB2.mono ?_; clear hB2; rintro e w3 ⟨rfl, hb3⟩; have HB3 : Hid (Below w.heap.size w w3) := HB2.out.trans (hb3.mono HB2.out.size); clear hb3))))
      go_ret
      exact ⟨rfl, HB3.out⟩
  · have e0 : (decide (ca = 0) && (decide (cb = 0) && cl)) = false := by simp [ha0]
    have hab : (ca == 0) = false := by simpa using ha0
    rw [e0]
    clear e0
    go_enter Try.func19, Try.ntmps19
    go_wp2_with (first
      | (go_at_call 36; refine hA.mono ?_; clear hA; rintro e w2 ⟨rfl, hb2⟩; have HB2 : Hid (Below w.heap.size w w2) := HBX.out.trans (hb2.mono (by simp; omega)); clear hb2))
    go_ret
    exact ⟨rfl, HB2.out⟩

end Go.Proofs.Ytglfkjegkoealaa
