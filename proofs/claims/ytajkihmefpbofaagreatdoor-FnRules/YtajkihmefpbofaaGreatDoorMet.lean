/- Is a rule met: the specification's way and the program's. -/
import Derived.Test.YtajkihmefpbofaaGreatDoorX3
import Derived.Test.YtajkihmefpbofaaGreatDoorHasSign
import Derived.Test.YtajkihmefpbofaaGreatDoorX1
namespace Go.Proofs.YtajkihmefpbofaaGreatDoor
open Go.RowKit Go.Shelf Go.Maps Go.WideMaps

def cntK (l : List Int) (gs : List (Int × Int)) (id : Int) : Nat := (l.filter fun k => memB gs (k, id)).length
theorem cntK_next {l : List Int} {n k : Nat} (hn : l.length = n) (hlt : k < n) {s : Int} (hs : s = l.getD k 0) (gs : List (Int × Int)) (id : Int) : cntK (l.take (k + 1)) gs id = cntK (l.take k) gs id + (if memB gs (s, id) = true then 1 else 0) := by
  unfold cntK
  rw [take_next hn hlt hs, List.filter_append, List.length_append]
  congr 1
  by_cases h : memB gs (s, id) = true
  · simp [h]
  · simp [h]

def metR (ss : List ByteArray) (gs : List (Int × Int)) (l : List Int) (x y id h : Int) : Int :=
  if flt ss gs ≠ 0 then flt ss gs else if ruleR l x y ≠ 0 then ruleR l x y else if inB id 1 ss.length = false ∨ inB h 0 999 = false then 3 else if h < y then 9 else if (cntK l gs id : Int) < x then 6 else 0

set_option maxRecDepth 20000 in
set_option maxHeartbeats 1000000 in
theorem l2Met_any (L P m gc n cap : Nat) (ga a : Option Addr) (gs : List (Int × Int)) (l : List Int) (x y id h : Int) (w : World) (hm : m ≤ maxLen) (hl : n ≤ 1048576) (hL : L < w.heap.size) (hP : P < w.heap.size) (hG : w.cell? ⟨L, 1, none⟩ = some (.slice ga m gc)) (hg : GAt w ga m gs) (hI : IAt w a n l)
    (p0 : w.cell? ⟨P, 0, none⟩ = some (.slice a n cap)) (p1 : w.cell? ⟨P, 1, none⟩ = some (.int .i64 x)) (p2 : w.cell? ⟨P, 2, none⟩ = some (.int .i64 y)) :
    Calls Tryz.prog 27 #[.pointer (some ⟨L, 0, none⟩), .pointer (some ⟨P, 0, none⟩), .int .i64 id, .int .i64 h] w fun e w' => e = .returned (.int .i64 (if h < y then 9 else if (cntK l gs id : Int) < x then 6 else 0)) ∧ Below w.heap.size w w' := by
  have HG : Hid (GAt w ga m gs) := hg
  have HI : Hid (IAt w a n l) := hI
  have HN : Hid (l.length = n) := hI.1
  clear hg hI
  by_cases hy : h < y
  · rw [if_pos hy]
    go_enter Tryz.func27, Tryz.ntmps27
    go_wp2
    go_ret
    exact ⟨rfl, Below.refl _ _⟩
  · rw [if_neg hy]
    obtain ⟨r, hr⟩ : ∃ r : Int, r = if (cntK l gs id : Int) < x then 6 else 0 := ⟨_, rfl⟩
    rw [← hr]
    have HR : Hid (r = if (cntK l gs id : Int) < x then 6 else 0) := hr
    clear hr
    go_enter Tryz.func27, Tryz.ntmps27
    go_wp2
    go_loopw [9, 10] (fun v i wr => ∃ j : Nat, j ≤ n ∧ i = .int .i64 j ∧ ∃ c : Nat, v = .int .i64 c ∧ c ≤ j ∧ Hid (c = cntK (l.take j) gs id) ∧ Below w.heap.size w wr) (fun _ i _ => n - (intOf i).toNat)
    case atStart => exact ⟨0, Nat.zero_le _, rfl, 0, rfl, Nat.le_refl _, by show _ = _; simp [cntK], Below.refl _ _⟩
    case round =>
      obtain ⟨j, hj, rfl, c, rfl, hcj, HC, hbel⟩ := hrel
      have y0 := (hbel.cell (p := ⟨P, 0, none⟩) hP).trans p0
      have y1 := (hbel.cell (p := ⟨P, 1, none⟩) hP).trans p1
      by_cases hlt : j < n
      · rcases HI.out.2 with h0 | ⟨b, off, e0, l0, d0⟩
        · omega
        subst e0
        obtain ⟨s, hs⟩ : ∃ s, s = l.getD j 0 := ⟨_, rfl⟩
        have x0 := (hbel.cell (p := ⟨b, off + j, none⟩) l0).trans (d0 j hlt)
        rw [← hs] at x0
        have hnx := cntK_next HN.out hlt hs gs id
        have hhs := l1Has_any L m gc ga gs s id wr hm ((hbel.cell (p := ⟨L, 1, none⟩) hL).trans hG) (HG.out.below hbel (Nat.le_refl _))
        obtain ⟨mb, hmb⟩ : ∃ b, b = memB gs (s, id) := ⟨_, rfl⟩
        rw [← hmb] at hhs hnx
        have HNX : Hid (cntK (l.take (j + 1)) gs id = cntK (l.take j) gs id + (if mb = true then 1 else 0)) := hnx
        clear hs d0 hmb hnx
        have hki : (j : Int) < (n : Int) := by omega
        cases mb
        · go_wp2_with (go_at_call 59; refine hhs.mono ?_; rintro e w2 ⟨rfl, hb2⟩)
          go_roundw
          case rel => exact ⟨j + 1, by omega, by go_num, c, rfl, by omega, by show _ = _; rw [HNX.out, ← HC.out]; rfl, hbel.trans (hb2.mono hbel.size)⟩
          case measure => simp [intOf]; omega
        · go_wp2_with (go_at_call 59; refine hhs.mono ?_; rintro e w2 ⟨rfl, hb2⟩)
          go_roundw
          case rel => exact ⟨j + 1, by omega, by go_num, c + 1, by go_num, by omega, by show _ = _; rw [HNX.out, ← HC.out]; rfl, hbel.trans (hb2.mono hbel.size)⟩
          case measure => simp [intOf]; omega
      · have e1 : c = cntK l gs id := by have := HC.out; rwa [take_all HN.out hlt] at this
        have hr2 : r = if (c : Int) < x then 6 else 0 := by rw [HR.out, e1]
        clear e1
        by_cases hx : (c : Int) < x
        · obtain rfl : r = 6 := by rw [hr2, if_pos hx]
          clear hr2
          go_wp2
          go_ret
          exact ⟨rfl, hbel⟩
        · obtain rfl : r = 0 := by rw [hr2, if_neg hx]
          clear hr2
          go_wp2
          go_ret
          exact ⟨rfl, hbel⟩

/-- A ledger and a rule in two blocks, all old memory below as it was. -/
structure LR (w v : World) (tl tr : TypeId) (ta : Option Addr) (n tc : Nat) (ga : Option Addr) (m gc : Nat) (a : Option Addr) (k cap : Nat) (x y : Int) : Prop where
  led : v.heap[w.heap.size]? = some (.cells #[.slice ta n tc, .slice ga m gc] tl (0, 0))
  rul : v.heap[w.heap.size + 1]? = some (.cells #[.slice a k cap, .int .i64 x, .int .i64 y] tr (0, 0))
  bel : Below w.heap.size w v
section
variable {w v v' : World} {tl tr : TypeId} {ta ga a : Option Addr} {n tc m gc k cap : Nat} {x y : Int}
theorem LR.start : LR w ((w.alloc (.cells #[.slice ta n tc, .slice ga m gc] tl)).alloc (.cells #[.slice a k cap, .int .i64 x, .int .i64 y] tr)) tl tr ta n tc ga m gc a k cap x y := ⟨block_at2, heap_alloc_at _ _ _ (by simp), below_box2 _ _⟩
theorem LR.step (h : LR w v tl tr ta n tc ga m gc a k cap x y) (hb : Below v.heap.size v v') : LR w v' tl tr ta n tc ga m gc a k cap x y := ⟨(keepb h.led hb).out, (keepb h.rul hb).out, h.bel.trans (hb.mono h.bel.size)⟩
end

set_option maxRecDepth 20000 in
set_option maxHeartbeats 2000000 in
theorem sRuleMet_any (n m tc gc k cap : Nat) (ta ga a : Option Addr) (ss : List ByteArray) (gs : List (Int × Int)) (l : List Int) (x y id h : Int) (w : World) (htc : n ≤ tc) (hgc : m ≤ gc) (htm : tc ≤ maxLen) (hgm : gc ≤ maxLen) (hf : Fine ss gs) (hL : LedAt w ta n ga m ss gs) (hk : k ≤ 1048576) (hI : IAt w a k l) :
    Calls Tryz.prog 7 #[.agg #[.slice ta n tc, .slice ga m gc], .agg #[.slice a k cap, .int .i64 x, .int .i64 y], .int .i64 id, .int .i64 h] w fun e w' => e = .returned (.int .i64 (metR ss gs l x y id h)) ∧ Below w.heap.size w w' := by
  have B0 := LR.start (w := w) (tl := 27) (tr := 30) (ta := ta) (n := n) (tc := tc) (ga := ga) (m := m) (gc := gc) (a := a) (k := k) (cap := cap) (x := x) (y := y)
  obtain ⟨c0, c1⟩ := cells2 B0.led
  have hfl := l1Fault_any w.heap.size n m tc gc ta ga ss gs _ (lt_of_block B0.led) c0 c1 htc hgc htm hgm hf.s (hL.s.below B0.bel (Nat.le_refl _)) (hL.g.below B0.bel (Nat.le_refl _))
  have HM : Hid (m ≤ maxLen) := Nat.le_trans hgc hgm
  have HL : Hid (LedAt w ta n ga m ss gs) := hL
  have HN : Hid (ss.length = n) := hL.s.1
  have HI : Hid (IAt w a k l) := hI
  obtain ⟨r, hr⟩ : ∃ r, r = metR ss gs l x y id h := ⟨_, rfl⟩
  obtain ⟨r1, hr1⟩ : ∃ r, r = flt ss gs := ⟨_, rfl⟩
  obtain ⟨r2, hr2⟩ : ∃ r, r = ruleR l x y := ⟨_, rfl⟩
  obtain ⟨bi, hbi⟩ : ∃ r, r = inB id 1 n := ⟨_, rfl⟩
  obtain ⟨bh, hbh⟩ : ∃ r, r = inB h 0 999 := ⟨_, rfl⟩
  obtain ⟨r3, hr3⟩ : ∃ r : Int, r = if h < y then 9 else if (cntK l gs id : Int) < x then 6 else 0 := ⟨_, rfl⟩
  have HR : Hid (r = if r1 ≠ 0 then r1 else if r2 ≠ 0 then r2 else if bi = false ∨ bh = false then 3 else r3) := by show _ = _; rw [hr, hr1, hr2, hbi, hbh, hr3, ← hL.s.1]; rfl
  rw [← hr]
  rw [← hr1] at hfl
  have hrf : ∀ v, LR w v 27 30 ta n tc ga m gc a k cap x y → Hid (Calls Tryz.prog 24 #[.pointer (some ⟨w.heap.size + 1, 0, none⟩)] v fun e w' => e = .returned (.int .i64 r2) ∧ Below v.heap.size v w') := fun v hv => by
    show Calls _ _ _ _ _; rw [hr2]; exact l2Fault_any (w.heap.size + 1) k cap a l x y v hk (HI.out.below hv.bel (Nat.le_refl _)) hv.rul
  have hid : ∀ v, LR w v 27 30 ta n tc ga m gc a k cap x y → Hid (Calls Tryz.prog 25 #[.pointer (some ⟨w.heap.size, 0, none⟩), .int .i64 id] v fun e w' => e = .returned (.bool bi) ∧ w' = v) := fun v hv => by
    show Calls _ _ _ _ _; rw [hbi]; exact l1Id_any w.heap.size n tc ta id v (cells2 hv.led).1
  have hht : ∀ v, Calls Tryz.prog 26 #[.int .i64 h] v fun e w' => e = .returned (.bool bh) ∧ w' = v := fun v => by rw [hbh]; exact l2Height_any h v
  have hmt : ∀ v, LR w v 27 30 ta n tc ga m gc a k cap x y → Hid (Calls Tryz.prog 27 #[.pointer (some ⟨w.heap.size, 0, none⟩), .pointer (some ⟨w.heap.size + 1, 0, none⟩), .int .i64 id, .int .i64 h] v fun e w' => e = .returned (.int .i64 r3) ∧ Below v.heap.size v w') := fun v hv => by
    show Calls _ _ _ _ _; rw [hr3]
    obtain ⟨q0, q1, q2⟩ := cells3 hv.rul
    exact l2Met_any w.heap.size (w.heap.size + 1) m gc k cap ga a gs l x y id h v HM.out hk (lt_of_block hv.led) (lt_of_block hv.rul) (cells2 hv.led).2 (HL.out.g.below hv.bel (Nat.le_refl _)) (HI.out.below hv.bel (Nat.le_refl _)) q0 q1 q2
  have HB0 : Hid (LR w ((w.alloc (.cells #[.slice ta n tc, .slice ga m gc] 27)).alloc (.cells #[.slice a k cap, .int .i64 x, .int .i64 y] 30)) 27 30 ta n tc ga m gc a k cap x y) := B0
  have HRF : Hid (∀ v, LR w v 27 30 ta n tc ga m gc a k cap x y → Hid (Calls Tryz.prog 24 #[.pointer (some ⟨w.heap.size + 1, 0, none⟩)] v fun e w' => e = .returned (.int .i64 r2) ∧ Below v.heap.size v w')) := hrf
  have HID : Hid (∀ v, LR w v 27 30 ta n tc ga m gc a k cap x y → Hid (Calls Tryz.prog 25 #[.pointer (some ⟨w.heap.size, 0, none⟩), .int .i64 id] v fun e w' => e = .returned (.bool bi) ∧ w' = v)) := hid
  have HMT : Hid (∀ v, LR w v 27 30 ta n tc ga m gc a k cap x y → Hid (Calls Tryz.prog 27 #[.pointer (some ⟨w.heap.size, 0, none⟩), .pointer (some ⟨w.heap.size + 1, 0, none⟩), .int .i64 id, .int .i64 h] v fun e w' => e = .returned (.int .i64 r3) ∧ Below v.heap.size v w')) := hmt
  clear hr hr1 hr2 hr3 hbi hbh hrf hid hmt B0 hL hI hf c0 c1 htc hgc htm hgm
  by_cases h1 : r1 = 0
  · subst h1
    by_cases h2 : r2 = 0
    · subst h2
      cases bi
      · obtain rfl : r = 3 := by rw [HR.out]; simp
        go_enter Tryz.func7, Tryz.ntmps7
        go_wp2_with (first
          | (go_at_call 23; refine hfl.mono ?_; clear hfl; rintro e w1 ⟨rfl, hb1⟩; have HB1 : Hid (LR w w1 27 30 ta n tc ga m gc a k cap x y) := HB0.out.step hb1; have hrf1 := HRF.out w1 HB1.out; clear hb1)
          | (go_at_call 24; refine hrf1.out.mono ?_; clear hrf1; rintro e w2 ⟨rfl, hb2⟩; have HB2 : Hid (LR w w2 27 30 ta n tc ga m gc a k cap x y) := HB1.out.step hb2; have hid2 := HID.out w2 HB2.out; clear hb2)
          | (go_at_call 25; refine hid2.out.mono ?_; clear hid2; rintro e w' ⟨rfl, hw⟩; have hw2 := hw.symm; subst hw2))
        go_ret
        exact ⟨rfl, HB2.out.bel⟩
      cases bh
      · obtain rfl : r = 3 := by rw [HR.out]; simp
        go_enter Tryz.func7, Tryz.ntmps7
        go_wp2_with (first
          | (go_at_call 23; refine hfl.mono ?_; clear hfl; rintro e w1 ⟨rfl, hb1⟩; have HB1 : Hid (LR w w1 27 30 ta n tc ga m gc a k cap x y) := HB0.out.step hb1; have hrf1 := HRF.out w1 HB1.out; clear hb1)
          | (go_at_call 24; refine hrf1.out.mono ?_; clear hrf1; rintro e w2 ⟨rfl, hb2⟩; have HB2 : Hid (LR w w2 27 30 ta n tc ga m gc a k cap x y) := HB1.out.step hb2; have hid2 := HID.out w2 HB2.out; clear hb2)
          | (go_at_call 25; refine hid2.out.mono ?_; clear hid2; rintro e w' ⟨rfl, hw⟩; have hw2 := hw.symm; subst hw2)
          | (go_at_call 26; refine (hht _).mono ?_; rintro e w' ⟨rfl, hw⟩; have hw2 := hw.symm; subst hw2))
        go_ret
        exact ⟨rfl, HB2.out.bel⟩
      obtain rfl : r = r3 := by rw [HR.out]; simp
      go_enter Tryz.func7, Tryz.ntmps7
      go_wp2_with (first
        | (go_at_call 23; refine hfl.mono ?_; clear hfl; rintro e w1 ⟨rfl, hb1⟩; have HB1 : Hid (LR w w1 27 30 ta n tc ga m gc a k cap x y) := HB0.out.step hb1; have hrf1 := HRF.out w1 HB1.out; clear hb1)
        | (go_at_call 24; refine hrf1.out.mono ?_; clear hrf1; rintro e w2 ⟨rfl, hb2⟩; have HB2 : Hid (LR w w2 27 30 ta n tc ga m gc a k cap x y) := HB1.out.step hb2; have hid2 := HID.out w2 HB2.out; have hmt2 := HMT.out w2 HB2.out; clear hb2)
        | (go_at_call 25; refine hid2.out.mono ?_; clear hid2; rintro e w' ⟨rfl, hw⟩; have hw2 := hw.symm; subst hw2)
        | (go_at_call 26; refine (hht _).mono ?_; rintro e w' ⟨rfl, hw⟩; have hw2 := hw.symm; subst hw2)
        | (go_at_call 27; refine hmt2.out.mono ?_; clear hmt2; rintro e w3 ⟨rfl, hb3⟩))
      go_ret
      exact ⟨rfl, (HB2.out.step hb3).bel⟩
    · obtain rfl : r = r2 := by rw [HR.out]; simp [h2]
      go_enter Tryz.func7, Tryz.ntmps7
      go_wp2_with (first
        | (go_at_call 23; refine hfl.mono ?_; clear hfl; rintro e w1 ⟨rfl, hb1⟩; have HB1 : Hid (LR w w1 27 30 ta n tc ga m gc a k cap x y) := HB0.out.step hb1; have hrf1 := HRF.out w1 HB1.out; clear hb1)
        | (go_at_call 24; refine hrf1.out.mono ?_; clear hrf1; rintro e w2 ⟨rfl, hb2⟩; have HB2 : Hid (LR w w2 27 30 ta n tc ga m gc a k cap x y) := HB1.out.step hb2; clear hb2))
      go_ret
      exact ⟨rfl, HB2.out.bel⟩
  · obtain rfl : r = r1 := by rw [HR.out]; simp [h1]
    go_enter Tryz.func7, Tryz.ntmps7
    go_wp2_with (first
      | (go_at_call 23; refine hfl.mono ?_; clear hfl; rintro e w1 ⟨rfl, hb1⟩; have HB1 : Hid (LR w w1 27 30 ta n tc ga m gc a k cap x y) := HB0.out.step hb1; clear hb1))
    go_ret
    exact ⟨rfl, HB1.out.bel⟩

end Go.Proofs.YtajkihmefpbofaaGreatDoor
