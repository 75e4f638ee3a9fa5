/- The specification's ClashTx. -/
import Derived.Test.YtaopblgnmmhjfaaTxU
namespace Go.Proofs.Ytaopblgnmmhjfaa
open Go.RowKit Go.Maps Go.WideMaps

def clashB (rs rs' : List (Int × Int)) : Bool := rs.any fun r => memB rs' r
theorem clashB_hit {rs rs' : List (Int × Int)} {n j : Nat} (hn : rs.length = n) (hj : j < n) {g : Int × Int} (hg : g = rs.getD j G0) (h : memB rs' g = true) : clashB rs rs' = true := by
  have e1 : g = rs[j]'(by omega) := by rw [hg, List.getD, List.getElem?_eq_getElem (by omega)]; rfl
  exact List.any_eq_true.2 ⟨g, by rw [e1]; exact List.getElem_mem _, h⟩
theorem clashB_none {rs rs' : List (Int × Int)} {n j : Nat} (hn : rs.length = n) (hj : ¬ j < n) (h : clashB (rs.take j) rs' = false) : clashB rs rs' = false := by rwa [List.take_of_length_le (by omega)] at h
theorem clashB_next {rs rs' : List (Int × Int)} {n j : Nat} (hn : rs.length = n) (hj : j < n) {g : Int × Int} (hg : g = rs.getD j G0) (h : clashB (rs.take j) rs' = false) (h1 : memB rs' g = false) : Hid (clashB (rs.take (j + 1)) rs' = false) := by
  show _ = _
  obtain ⟨_, e2⟩ := rs_next hn hj hg
  unfold clashB at *
  rw [e2, List.any_append, h]
  simp [h1]

set_option maxRecDepth 20000 in
set_option maxHeartbeats 1000000 in
theorem l3Clash_any (P Q n c n' c' : Nat) (ia ib : Option Addr) (rs rs' : List (Int × Int)) (w : World) (hn : n ≤ 1048576) (hn' : n' ≤ 1048576) (ha : GAt w ia n rs) (hb : GAt w ib n' rs') (hPl : P < w.heap.size) (hQl : Q < w.heap.size) (hP : w.cell? ⟨P, 2, none⟩ = some (.slice ia n c)) (hQ : w.cell? ⟨Q, 2, none⟩ = some (.slice ib n' c')) :
    Calls Try.prog 131 #[.pointer (some ⟨P, 0, none⟩), .pointer (some ⟨Q, 0, none⟩)] w fun e w' => e = .returned (.bool (clashB rs rs')) ∧ Below w.heap.size w w' := by
  have HA : Hid (GAt w ia n rs) := ha
  have HB : Hid (GAt w ib n' rs') := hb
  have HN : Hid (rs.length = n) := ha.1
  obtain ⟨r, hr⟩ : ∃ r, r = clashB rs rs' := ⟨_, rfl⟩
  rw [← hr]
  have HR : Hid (r = clashB rs rs') := hr
  clear ha hb hr
  go_enter Try.func131, Try.ntmps131
  go_wp2
  go_loopw [5] (fun i wr => ∃ j : Nat, j ≤ n ∧ i = .int .i64 j ∧ Below w.heap.size w wr ∧ Hid (clashB (rs.take j) rs' = false)) (fun i _ => n - (intOf i).toNat)
  case atStart => exact ⟨0, Nat.zero_le _, rfl, Below.refl _ _, by show _ = _; simp [clashB]⟩
  case round =>
    obtain ⟨j, hj, rfl, hbel, HT⟩ := hrel
    have y2 := (hbel.cell (p := ⟨P, 2, none⟩) hPl).trans hP
    have z2 := (hbel.cell (p := ⟨Q, 2, none⟩) hQl).trans hQ
    by_cases hlt : j < n
    · rcases HA.out.2 with h0 | ⟨b, off, e0, hbl, hc⟩
      · omega
      subst e0
      obtain ⟨g, hg⟩ : ∃ g, g = rs.getD j G0 := ⟨_, rfl⟩
      have hcx := hc j hlt
      rw [← hg] at hcx
      obtain ⟨g1, g2⟩ := g
      have c0 := (hbel.cell (p := ⟨b, off + j * 2, none⟩) hbl).trans hcx.1
      have c1 := (hbel.cell (p := ⟨b, off + j * 2 + 1, none⟩) hbl).trans hcx.2
      have HG : Hid ((g1, g2) = rs.getD j G0) := hg
      have hki : (j : Int) < (n : Int) := by omega
      obtain ⟨mb, hmb⟩ : ∃ b, b = memB rs' (g1, g2) := ⟨_, rfl⟩
      have HMB : Hid (memB rs' (g1, g2) = mb) := hmb.symm
      have hPw : P < wr.heap.size := Nat.lt_of_lt_of_le hPl hbel.size
      have hQw : Q < wr.heap.size := Nat.lt_of_lt_of_le hQl hbel.size
      have hbw : b < wr.heap.size := Nat.lt_of_lt_of_le hbl hbel.size
      have ham : Calls Try.prog 151 #[.slice ib n' c', .agg #[.int .i64 g1, .int .i64 g2]] wr.drew fun e w' => e = .returned (.bool mb) ∧ Below wr.heap.size wr w' := by
        have := l3Among_any ib n' c' rs' g1 g2 wr.drew (by unfold maxLen; omega) ((HB.out.below hbel (Nat.le_refl _)).below (Below.refl _ _).drew (Nat.le_refl _))
        rw [HMB.out] at this
        exact this.mono fun e w' h => ⟨h.1, (Below.refl _ _).drew.trans h.2⟩
      clear hg hc hcx hmb
      go_wp2
      go_region_held3 (fun w' => w'.cell? ⟨P, 2, none⟩ = some (.slice (some ⟨b, off, none⟩) n c) ∧ w'.cell? ⟨Q, 2, none⟩ = some (.slice ib n' c') ∧ w'.cell? ⟨b, off + j * 2, none⟩ = some (.int .i64 g1) ∧ w'.cell? ⟨b, off + j * 2 + 1, none⟩ = some (.int .i64 g2)) (go_keep)
        (first | (go_at_call 151; refine ham.mono ?_; rintro e w3 ⟨rfl, hb3⟩; have q1 := (hb3.cell (p := ⟨P, 2, none⟩) hPw).trans y2; have q4 := (hb3.cell (p := ⟨Q, 2, none⟩) hQw).trans z2; have q2 := (hb3.cell (p := ⟨b, off + j * 2, none⟩) hbw).trans c0; have q3 := (hb3.cell (p := ⟨b, off + j * 2 + 1, none⟩) hbw).trans c1))
      cases mb
      · go_wp2
        go_roundw
        case rel => exact ⟨j + 1, by omega, by go_num, hbel.trans (hb3.mono hbel.size), clashB_next HN.out hlt HG.out HT.out HMB.out⟩
        case measure => simp [intOf]; omega
      · obtain rfl : r = true := by rw [HR.out]; exact clashB_hit HN.out hlt HG.out HMB.out
        go_wp2
        go_ret
        exact ⟨rfl, hbel.trans (hb3.mono hbel.size)⟩
    · obtain rfl : r = false := by rw [HR.out]; exact clashB_none HN.out hlt HT.out
      go_wp2
      go_ret
      exact ⟨rfl, hbel⟩

def clashR (k f : Int) (rs : List (Int × Int)) (os : List Ou) (k' f' : Int) (rs' : List (Int × Int)) (os' : List Ou) : Bool := decide (txR k f rs os = 0) && (decide (txR k' f' rs' os' = 0) && clashB rs rs')

set_option maxHeartbeats 1000000 in
theorem sClashTx_any (n c m d n' c' m' d' : Nat) (ia oa ib ob : Option Addr) (k f k' f' : Int) (rs rs' : List (Int × Int)) (os os' : List Ou) (w : World) (hn : n ≤ 1048576) (hm : m ≤ 1048576) (hc1 : n ≤ c) (hc2 : c ≤ maxLen) (hk : ∀ j, j < m → (os.getD j O0).l.length ≤ 1048576) (h : TxAt w ia n oa m rs os)
    (hn' : n' ≤ 1048576) (hm' : m' ≤ 1048576) (hc1' : n' ≤ c') (hc2' : c' ≤ maxLen) (hk' : ∀ j, j < m' → (os'.getD j O0).l.length ≤ 1048576) (h' : TxAt w ib n' ob m' rs' os') :
    Calls Try.prog 65 #[.agg #[.int .i64 k, .int .i64 f, .slice ia n c, .slice oa m d], .agg #[.int .i64 k', .int .i64 f', .slice ib n' c', .slice ob m' d']] w fun e w' => e = .returned (.bool (clashR k f rs os k' f' rs' os')) ∧ Below w.heap.size w w' := by
  have hbx : Below w.heap.size w ((w.alloc (.cells #[.int .i64 k, .int .i64 f, .slice ia n c, .slice oa m d] 86)).alloc (.cells #[.int .i64 k', .int .i64 f', .slice ib n' c', .slice ob m' d'] 86)) := below_box2 _ _
  have T0 := show Hid (((w.alloc (.cells #[.int .i64 k, .int .i64 f, .slice ia n c, .slice oa m d] 86)).alloc (.cells #[.int .i64 k', .int .i64 f', .slice ib n' c', .slice ob m' d'] 86)).heap[w.heap.size]? = some (.cells #[.int .i64 k, .int .i64 f, .slice ia n c, .slice oa m d] 86 (0, 0))) from block_at2
  have T1 := show Hid (((w.alloc (.cells #[.int .i64 k, .int .i64 f, .slice ia n c, .slice oa m d] 86)).alloc (.cells #[.int .i64 k', .int .i64 f', .slice ib n' c', .slice ob m' d'] 86)).heap[w.heap.size + 1]? = some (.cells #[.int .i64 k', .int .i64 f', .slice ib n' c', .slice ob m' d'] 86 (0, 0))) from heap_alloc_at _ _ _ (by simp)
  have hA := l3Fault_any w.heap.size n c m d ia oa k f rs os _ hn hm hc1 hc2 hk (h.below hbx (Nat.le_refl _)) T0.out
  have hB : ∀ v, Below w.heap.size w v → v.heap[w.heap.size + 1]? = some (.cells #[.int .i64 k', .int .i64 f', .slice ib n' c', .slice ob m' d'] 86 (0, 0)) → Calls Try.prog 121 #[.pointer (some ⟨w.heap.size + 1, 0, none⟩)] v fun e w' => e = .returned (.int .i64 (txR k' f' rs' os')) ∧ Below v.heap.size v w' := fun v hv hx =>
    l3Fault_any (w.heap.size + 1) n' c' m' d' ib ob k' f' rs' os' v hn' hm' hc1' hc2' hk' (h'.below hv (Nat.le_refl _)) hx
  have HA : Hid (GAt w ia n rs) := h.r
  have HB : Hid (GAt w ib n' rs') := h'.r
  have HBX : Hid (Below w.heap.size w ((w.alloc (.cells #[.int .i64 k, .int .i64 f, .slice ia n c, .slice oa m d] 86)).alloc (.cells #[.int .i64 k', .int .i64 f', .slice ib n' c', .slice ob m' d'] 86))) := hbx
  obtain ⟨ca, hca⟩ : ∃ x, x = txR k f rs os := ⟨_, rfl⟩
  obtain ⟨cb, hcb⟩ : ∃ x, x = txR k' f' rs' os' := ⟨_, rfl⟩
  obtain ⟨cl, hcl⟩ : ∃ x, x = clashB rs rs' := ⟨_, rfl⟩
  have hr : clashR k f rs os k' f' rs' os' = (decide (ca = 0) && (decide (cb = 0) && cl)) := by rw [hca, hcb, hcl]; rfl
  rw [← hca] at hA
  rw [← hcb] at hB
  have HCL : Hid (clashB rs rs' = cl) := hcl.symm
  rw [hr]
  have HBB : Hid (∀ v, Below w.heap.size w v → v.heap[w.heap.size + 1]? = some (.cells #[.int .i64 k', .int .i64 f', .slice ib n' c', .slice ob m' d'] 86 (0, 0)) → Calls Try.prog 121 #[.pointer (some ⟨w.heap.size + 1, 0, none⟩)] v fun e w' => e = .returned (.int .i64 cb) ∧ Below v.heap.size v w') := hB
  clear hr hca hcb hcl hbx h h' hk hk' hB
  by_cases ha0 : ca = 0
  · subst ha0
    by_cases hb0 : cb = 0
    · subst hb0
      have e0 : (decide ((0 : Int) = 0) && (decide ((0 : Int) = 0) && cl)) = cl := by simp
      rw [e0]
      clear e0
      go_enter Try.func65, Try.ntmps65
      go_wp2_with (first
        | (go_at_call 121; (first
            | (refine hA.mono ?_; clear hA; rintro e w2 ⟨rfl, hb2⟩; have HB2 : Hid (Below w.heap.size w w2) := HBX.out.trans (hb2.mono (by simp; omega)); have HP2 := keepb T0.out hb2; have HQ2 := keepb T1.out hb2; have hB2 := HBB.out w2 HB2.out HQ2.out; clear hb2)
            | (refine hB2.mono ?_; clear hB2; rintro e w3 ⟨rfl, hb3⟩; have HB3 : Hid (Below w.heap.size w w3) := HB2.out.trans (hb3.mono HB2.out.size); have HP3 := keepb HP2.out hb3; have HQ3 := keepb HQ2.out hb3; obtain ⟨p0, p1, p2, p3, _⟩ := cells4 HP3.out; obtain ⟨q0, q1, q2, q3, _⟩ := cells4 HQ3.out; have hcl := l3Clash_any w.heap.size (w.heap.size + 1) n c n' c' ia ib rs rs' w3 hn hn' (HA.out.below HB3.out (Nat.le_refl _)) (HB.out.below HB3.out (Nat.le_refl _)) (lt_of_block HP3.out) (lt_of_block HQ3.out) p2 q2; rw [HCL.out] at hcl; clear hb3)))
        | (go_at_call 131; refine hcl.mono ?_; rintro e w4 ⟨rfl, hb4⟩))
      go_ret
      exact ⟨rfl, HB3.out.trans (hb4.mono HB3.out.size)⟩
    · have e0 : (decide ((0 : Int) = 0) && (decide (cb = 0) && cl)) = false := by simp [hb0]
      have hbb : (cb == 0) = false := by simpa using hb0
      rw [e0]
      clear e0
      go_enter Try.func65, Try.ntmps65
      go_wp2_with (first
        | (go_at_call 121; (first
            | (refine hA.mono ?_; clear hA; rintro e w2 ⟨rfl, hb2⟩; have HB2 : Hid (Below w.heap.size w w2) := HBX.out.trans (hb2.mono (by simp; omega)); have HQ2 := keepb T1.out hb2; have hB2 := HBB.out w2 HB2.out HQ2.out; clear hb2)
            | (refine hB2.mono ?_; clear hB2; rintro e w3 ⟨rfl, hb3⟩; have HB3 : Hid (Below w.heap.size w w3) := HB2.out.trans (hb3.mono HB2.out.size); clear hb3))))
      go_ret
      exact ⟨rfl, HB3.out⟩
  · have e0 : (decide (ca = 0) && (decide (cb = 0) && cl)) = false := by simp [ha0]
    have hab : (ca == 0) = false := by simpa using ha0
    rw [e0]
    clear e0
    go_enter Try.func65, Try.ntmps65
    go_wp2_with (first
      | (go_at_call 121; refine hA.mono ?_; clear hA; rintro e w2 ⟨rfl, hb2⟩; have HB2 : Hid (Below w.heap.size w w2) := HBX.out.trans (hb2.mono (by simp; omega)); clear hb2))
    go_ret
    exact ⟨rfl, HB2.out⟩

end Go.Proofs.Ytaopblgnmmhjfaa
