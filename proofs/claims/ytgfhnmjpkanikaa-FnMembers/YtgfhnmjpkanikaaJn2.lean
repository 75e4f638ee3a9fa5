/- A ledger that comes in as a law's argument, read as data, gives its texts and its signatures. The law on TxFault answers true, whatever transaction comes in, and writes nothing that was there: where the program's TxFault keeps its contract. The program's fault of a transaction: kinds, refs, outs. The program's fault of a transaction: its parts and the whole. The program's TxFault keeps its contract. Coins of the call's own: their row and their keys' rows; marks are written into them, and read back. The specification's fault of coins. The program's order of refs: two numbers compared, the first that is not 0, two refs compared. -/
import Derived.Test.YtgfhnmjpkanikaaRows
import Derived.Test.YtgfhnmjpkanikaaJn1
import Derived.ProofKit
import Derived.OpenShut
import Derived.ShutString
import Derived.ChangeOld
import Derived.SliceStrings
import Derived.Deep.SlicePairs
import Derived.Deep.Slices
import Derived.OneCell
namespace Go.Proofs.Ytgfhnmjpkanikaa
open Go.ChangeShapes Go.WideShapes Go.ChangeAt Go.RowKit Go.Joins Go.Deep
open Go.ChangeMaps (open_string shut_string)

theorem Try.own : ownKnob Try.prog.godebug = none := by kernel_rfl
section
variable {H : Type} {enc : TypeId × Value → H} {W : World} {base : Nat} {spare : Nat → Bool} {held : Bool}

theorem add_none (b off j : Nat) : (⟨b, off, none⟩ : Addr).add j = ⟨b, off + j, none⟩ := by
  simp only [Addr.add]
  split
  · simp_all
  · rfl
end

end Go.Proofs.Ytgfhnmjpkanikaa

namespace Go.Proofs.Ytgfhnmjpkanikaa
open Go.RowKit Go.Maps Go.WideMaps

/-- A transaction in a block of its own, all old memory below as it was. -/
structure TBx (w v : World) (k f : Int) (ia : Option Addr) (n c : Nat) (oa : Option Addr) (m d : Nat) (t : TypeId) : Prop where
  box : v.heap[w.heap.size]? = some (.cells #[.int .i64 k, .int .i64 f, .slice ia n c, .slice oa m d] t (0, 0))
  bel : Below w.heap.size w v
section
variable {w v v' : World} {k f : Int} {ia oa : Option Addr} {n c m d : Nat} {t : TypeId} {rs : List (Int × Int)} {os : List Ou}
theorem TBx.start : TBx w (w.alloc (.cells #[.int .i64 k, .int .i64 f, .slice ia n c, .slice oa m d] t)) k f ia n c oa m d t := ⟨heap_alloc_new _ _, below_box _⟩
theorem TBx.step (h : TBx w v k f ia n c oa m d t) (hb : Below v.heap.size v v') : TBx w v' k f ia n c oa m d t := ⟨(keepb h.box hb).out, h.bel.trans (hb.mono h.bel.size)⟩
theorem TBx.at (h : TBx w v k f ia n c oa m d t) (hI : TxAt w ia n oa m rs os) : TxAt v ia n oa m rs os := hI.below h.bel (Nat.le_refl _)
theorem TBx.lt (h : TBx w v k f ia n c oa m d t) : w.heap.size < v.heap.size := lt_of_block h.box
end
end Go.Proofs.Ytgfhnmjpkanikaa

namespace Go.Proofs.Ytgfhnmjpkanikaa
open Go.RowKit Go.Maps Go.WideMaps

theorem isKind_any (v : Int) (w : World) : Calls Try.prog 54 #[.int .i64 v] w fun e w' => e = .returned (.bool (inB v 0 2)) ∧ w' = w := by
  go_enter Try.func54, Try.ntmps54
  go_wp2_with (go_at_call 40; refine (isWithin_any _ _ _ _).mono ?_; rintro e w' ⟨rfl, rfl⟩)
  go_ret
  exact ⟨rfl, rfl⟩

theorem isValue_any (v : Int) (w : World) : Calls Try.prog 56 #[.int .i64 v] w fun e w' => e = .returned (.bool (inB v 1 1000000)) ∧ w' = w := by
  go_enter Try.func56, Try.ntmps56
  go_wp2_with (go_at_call 40; refine (isWithin_any _ _ _ _).mono ?_; rintro e w' ⟨rfl, rfl⟩)
  go_ret
  exact ⟨rfl, rfl⟩

theorem arePieces_any (n : Nat) (w : World) : Calls Try.prog 37 #[.int .i64 n] w fun e w' => e = .returned (.bool (inB n 1 4)) ∧ w' = w := by
  go_enter Try.func37, Try.ntmps37
  go_wp2_with (go_at_call 40; refine (isWithin_any _ _ _ _).mono ?_; rintro e w' ⟨rfl, rfl⟩)
  go_ret
  exact ⟨rfl, rfl⟩

def memK (k : Int) : Bool := decide (k = 1 ∨ k = 2)
theorem hasMember_any (k : Int) (w : World) : Calls Try.prog 55 #[.int .i64 k] w fun e w' => e = .returned (.bool (memK k)) ∧ w' = w := by
  by_cases h1 : k = 1
  · subst h1
    go_enter Try.func55, Try.ntmps55
    go_wp2
    go_ret
    exact ⟨rfl, rfl⟩
  · have b1 : (k == 1) = false := by simpa using h1
    by_cases h2 : k = 2
    · subst h2
      go_enter Try.func55, Try.ntmps55
      go_wp2
      go_ret
      exact ⟨rfl, rfl⟩
    · have b2 : (k == 2) = false := by simpa using h2
      have e : memK k = false := by simp [memK, h1, h2]
      rw [e]
      go_enter Try.func55, Try.ntmps55
      go_wp2
      go_ret
      exact ⟨rfl, rfl⟩

theorem isTxId_any (v : Int) (w : World) : Calls Try.prog 21 #[.int .i64 v] w fun e w' => e = .returned (.bool (inB v 1 60)) ∧ w' = w := by
  go_enter Try.func21, Try.ntmps21
  go_wp2_with (go_at_call 40; refine (isWithin_any _ _ _ _).mono ?_; rintro e w' ⟨rfl, rfl⟩)
  go_ret
  exact ⟨rfl, rfl⟩

theorem isRef_any (a b : Int) (w : World) : Calls Try.prog 52 #[.agg #[.int .i64 a, .int .i64 b]] w fun e w' => e = .returned (.bool (refB (a, b))) ∧ Below w.heap.size w w' := by
  obtain ⟨ka, hka⟩ : ∃ k, k = inB a 1 60 := ⟨_, rfl⟩
  obtain ⟨kb, hkb⟩ : ∃ k, k = inB b 0 3 := ⟨_, rfl⟩
  have hr : refB (a, b) = (ka && kb) := by rw [hka, hkb]; rfl
  have h1 : ∀ v, Calls Try.prog 21 #[.int .i64 a] v fun e w' => e = .returned (.bool ka) ∧ w' = v := fun v => by rw [hka]; exact isTxId_any _ v
  have h2 : ∀ v, Calls Try.prog 40 #[.int .i64 b, .int .i64 0, .int .i64 3] v fun e w' => e = .returned (.bool kb) ∧ w' = v := fun v => by rw [hkb]; exact isWithin_any _ _ _ v
  rw [hr]
  clear hka hkb hr
  have hbx : Below w.heap.size w (w.alloc (.cells #[.int .i64 a, .int .i64 b] 36)) := below_box _
  cases ka <;> cases kb
  all_goals
    go_enter Try.func52, Try.ntmps52
    go_wp2_with (first | (go_at_call 21; refine (h1 _).mono ?_; rintro e w' ⟨rfl, hw⟩; have hw2 := hw.symm; subst hw2) | (go_at_call 40; refine (h2 _).mono ?_; rintro e w' ⟨rfl, hw⟩; have hw2 := hw.symm; subst hw2))
    go_ret
    exact ⟨rfl, hbx⟩

set_option maxHeartbeats 400000 in
theorem rIndex_any (a : Option Addr) (n cap : Nat) (gs : List (Int × Int)) (p q : Int) (w : World) (hl : n ≤ maxLen) (hs : GAt w a n gs) :
    Calls Try.prog 66 #[.slice a n cap, .agg #[.int .i64 p, .int .i64 q]] w fun e w' => ∃ i : Int, e = .returned (.int .i64 i) ∧ Hid (memB gs (p, q) = decide (0 ≤ i)) ∧ Below w.heap.size w w' := by
  unfold maxLen at hl
  obtain ⟨hn, hs⟩ := hs
  rcases hs with rfl | ⟨b, off, rfl, hb, hc⟩
  · obtain rfl : gs = [] := List.length_eq_zero_iff.1 hn
    go_enter Try.func66, Try.ntmps66
    go_wp2
    refine wp_loop_rounds 1 ?_
    rw [rounds_succ]
    go_wp2
    go_ret
    exact ⟨-1, rfl, rfl, (Below.refl _ _).alloc (Nat.le_refl _) _⟩
  · have HN : Hid (gs.length = n) := hn
    clear hn
    go_enter Try.func66, Try.ntmps66
    go_wp2
    go_loopw [8] (fun i wr => ∃ k : Nat, k ≤ n ∧ i = .int .i64 k ∧ Hid ((p, q) ∉ gs.take k) ∧ wr.cell? ⟨w.heap.size, 0, none⟩ = some (.int .i64 p) ∧ wr.cell? ⟨w.heap.size, 1, none⟩ = some (.int .i64 q) ∧ Below w.heap.size w wr) (fun i _ => n - (intOf i).toNat)
    case atStart => exact ⟨0, Nat.zero_le _, rfl, by show (p, q) ∉ _; simp, by simp, by simp, (Below.refl _ _).alloc (Nat.le_refl _) _⟩
    case round =>
      obtain ⟨k, hk, rfl, hj, hp, hq, hbel⟩ := hrel
      by_cases hlt : k < n
      · obtain ⟨g, hg⟩ : ∃ g, g = gs.getD k G0 := ⟨_, rfl⟩
        have hcx := hc k hlt
        rw [← hg] at hcx
        obtain ⟨g1, g2⟩ := g
        have c0 := (hbel.cell (p := ⟨b, off + k * 2, none⟩) hb).trans hcx.1
        have c1 := (hbel.cell (p := ⟨b, off + k * 2 + 1, none⟩) hb).trans hcx.2
        have HG : Hid ((g1, g2) = gs.getD k G0) := hg
        clear hg hc hcx
        have hki : (k : Int) < (n : Int) := by omega
        by_cases h1 : p = g1
        · have e1 : (p == g1) = true := by simp [h1]
          have H1 : Hid (p = g1) := h1
          clear h1
          by_cases h2 : q = g2
          · have e2 : (q == g2) = true := by simp [h2]
            have H2 : Hid (q = g2) := h2
            clear h2
            go_wp2
            go_quiet (fail)
            go_wp2
            go_ret
            refine ⟨_, rfl, ?_, hbel.trans (Joins.below_draws _ _ _)⟩
            have hm : memB gs (p, q) = true := by
              unfold memB
              rw [num_hit gs (p, q) G0 k (by rw [HN.out]; exact hlt) (by rw [← HG.out, H1.out, H2.out]) hj.out]
              simp
            show _ = _
            rw [hm]; simp
          · have e2 : (q == g2) = false := by simp [h2]
            have H2 : Hid (¬ (g1, g2) = (p, q)) := fun e => h2 (by simpa using (congrArg Prod.snd e).symm)
            clear h2
            go_wp2
            go_quiet (fail)
            go_wp2
            go_roundw
            case rel => exact ⟨k + 1, by omega, by go_num, signed_more HN.out hlt hj.out HG.out H2.out, by simpa using hp, by simpa using hq, hbel.trans (Joins.below_draws _ _ _)⟩
            case measure => simp [intOf]; omega
        · have e1 : (p == g1) = false := by simp [h1]
          have H2 : Hid (¬ (g1, g2) = (p, q)) := fun e => h1 (by simpa using (congrArg Prod.fst e).symm)
          clear h1
          go_wp2
          go_quiet (fail)
          go_wp2
          go_roundw
          case rel => exact ⟨k + 1, by omega, by go_num, signed_more HN.out hlt hj.out HG.out H2.out, by simpa using hp, by simpa using hq, hbel.trans (Joins.below_draws _ _ _)⟩
          case measure => simp [intOf]; omega
      · go_wp2
        go_ret
        refine ⟨_, rfl, ?_, hbel⟩
        have hm : memB gs (p, q) = false := by
          unfold memB
          rw [(num_zero gs (p, q)).2 (by have := hj.out; rwa [List.take_of_length_le (by rw [HN.out]; omega)] at this)]
          rfl
        show _ = _
        rw [hm]; rfl

theorem rContains_any (a : Option Addr) (n cap : Nat) (gs : List (Int × Int)) (p q : Int) (w : World) (hl : n ≤ maxLen) (hs : GAt w a n gs) :
    Calls Try.prog 53 #[.slice a n cap, .agg #[.int .i64 p, .int .i64 q]] w fun e w' => e = .returned (.bool (memB gs (p, q))) ∧ Below w.heap.size w w' := by
  have hbx : Below w.heap.size w (w.alloc (.cells #[.int .i64 p, .int .i64 q] 36)) := below_box _
  have hI := rIndex_any a n cap gs p q (w.alloc (.cells #[.int .i64 p, .int .i64 q] 36)) hl (hs.below hbx (Nat.le_refl _))
  clear hs
  go_enter Try.func53, Try.ntmps53
  go_wp2_with (go_at_call 66; refine hI.mono ?_; rintro e w2 ⟨i, rfl, HM, hb2⟩)
  go_ret
  refine ⟨?_, hbx.trans (hb2.mono (by simp))⟩
  rw [HM.out]; rfl

end Go.Proofs.Ytgfhnmjpkanikaa

namespace Go.Proofs.Ytgfhnmjpkanikaa
open Go.RowKit Go.Maps Go.WideMaps

set_option maxRecDepth 20000 in
set_option maxHeartbeats 1000000 in
theorem refsFault_any (n c : Nat) (ia : Option Addr) (rs : List (Int × Int)) (w : World) (hc1 : n ≤ c) (hc2 : c ≤ maxLen) (h : GAt w ia n rs) :
    Calls Try.prog 38 #[.slice ia n c] w fun e w' => e = .returned (.int .i64 (refsR [] rs)) ∧ Below w.heap.size w w' := by
  unfold maxLen at hc2
  have HR : Hid (GAt w ia n rs) := h
  have HN : Hid (rs.length = n) := h.1
  obtain ⟨r, hr⟩ : ∃ r, r = refsR [] rs := ⟨_, rfl⟩
  rw [← hr]
  have HV : Hid (r = refsR [] rs) := hr
  clear h hr
  go_enter Try.func38, Try.ntmps38
  go_wp2
  go_loopw [7] (fun i wr => ∃ j : Nat, j ≤ n ∧ i = .int .i64 j ∧ Below w.heap.size w wr ∧ Hid (refsR [] rs = refsR (rs.take j) (rs.drop j))) (fun i _ => n - (intOf i).toNat)
  case atStart => exact ⟨0, Nat.zero_le _, rfl, Below.refl _ _, by show _ = _; simp⟩
  case round =>
    obtain ⟨j, hj, rfl, hbel, HT⟩ := hrel
    by_cases hlt : j < n
    · rcases HR.out.2 with h0 | ⟨b, off, ha, hb, hc⟩
      · omega
      subst ha
      obtain ⟨g, hg⟩ : ∃ g, g = rs.getD j G0 := ⟨_, rfl⟩
      have hcx := hc j hlt
      rw [← hg] at hcx
      obtain ⟨g1, g2⟩ := g
      have c0 := (hbel.cell (p := ⟨b, off + j * 2, none⟩) hb).trans hcx.1
      have c1 := (hbel.cell (p := ⟨b, off + j * 2 + 1, none⟩) hb).trans hcx.2
      have HG : Hid ((g1, g2) = rs.getD j G0) := hg
      have hki : (j : Int) < (n : Int) := by omega
      have hkc : (j : Int) ≤ (c : Int) := by omega
      have hkm : j ≤ maxLen := by unfold maxLen; omega
      obtain ⟨kr, hkr⟩ : ∃ b, b = refB (g1, g2) := ⟨_, rfl⟩
      have hrf := isRef_any g1 g2 (wr.alloc (.cells #[.int .i64 g1, .int .i64 g2] 36))
      rw [← hkr] at hrf
      have HKR : Hid (kr = refB (g1, g2)) := hkr
      have HBX : Hid (Below wr.heap.size wr (wr.alloc (.cells #[.int .i64 g1, .int .i64 g2] 36))) := below_box _
      have HX : Hid ((wr.alloc (.cells #[.int .i64 g1, .int .i64 g2] 36)).heap[wr.heap.size]? = some (.cells #[.int .i64 g1, .int .i64 g2] 36 (0, 0))) := heap_alloc_new _ _
      clear hg hc hcx hkr
      cases kr
      · obtain rfl : r = 3 := by rw [HV.out]; exact refs_bad HN.out hlt HG.out HT.out HKR.out.symm
        go_wp2_with (first | (go_at_call 52; refine hrf.mono ?_; rintro e w2 ⟨rfl, hb2⟩))
        go_ret
        exact ⟨rfl, (hbel.trans (HBX.out.mono hbel.size)).trans (hb2.mono (by have := hbel.size; simp; omega))⟩
      · obtain ⟨mb, hmb⟩ : ∃ b, b = memB (rs.take j) (g1, g2) := ⟨_, rfl⟩
        have HMB : Hid (memB (rs.take j) (g1, g2) = mb) := hmb.symm
        clear hmb
        go_wp2_with (first | (go_at_call 52; refine hrf.mono ?_; rintro e w2 ⟨rfl, hb2⟩; have hbw : Below w.heap.size w w2 := (hbel.trans (HBX.out.mono hbel.size)).trans (hb2.mono (by have := hbel.size; simp; omega)); obtain ⟨x0, x1⟩ := cells2 (keepb HX.out hb2).out; have hlx := lt_of_block (keepb HX.out hb2).out; clear hb2))
        have ham : Calls Try.prog 53 #[.slice (some ⟨b, off, none⟩) j c, .agg #[.int .i64 g1, .int .i64 g2]] w2.drew fun e w' => e = .returned (.bool mb) ∧ Below w2.heap.size w2 w' := by
          have := rContains_any (some ⟨b, off, none⟩) j c (rs.take j) g1 g2 w2.drew hkm (((HR.out.below hbw (Nat.le_refl _)).take hj).below (Below.refl _ _).drew (Nat.le_refl _))
          rw [HMB.out] at this
          exact this.mono fun e w' h => ⟨h.1, (Below.refl _ _).drew.trans h.2⟩
        go_region_held3 (fun w' => w'.cell? ⟨wr.heap.size, 0, none⟩ = some (.int .i64 g1) ∧ w'.cell? ⟨wr.heap.size, 1, none⟩ = some (.int .i64 g2)) (go_keep)
          (first | (go_at_call 53; refine ham.mono ?_; rintro e w3 ⟨rfl, hb3⟩; have q1 := (hb3.cell (p := ⟨wr.heap.size, 0, none⟩) hlx).trans x0; have q2 := (hb3.cell (p := ⟨wr.heap.size, 1, none⟩) hlx).trans x1))
        cases mb
        · go_wp2
          go_roundw
          case rel => exact ⟨j + 1, by omega, by go_num, hbw.trans (hb3.mono hbw.size), refs_go HN.out hlt HG.out HT.out HKR.out.symm HMB.out⟩
          case measure => simp [intOf]; omega
        · obtain rfl : r = 7 := by rw [HV.out]; exact refs_taken HN.out hlt HG.out HT.out HKR.out.symm HMB.out
          go_wp2
          go_ret
          exact ⟨rfl, hbw.trans (hb3.mono hbw.size)⟩
    · obtain rfl : r = 0 := by rw [HV.out]; exact refs_done HN.out hlt HT.out
      go_wp2
      go_ret
      exact ⟨rfl, hbel⟩

set_option maxHeartbeats 1000000 in
theorem outsFault_any (m d : Nat) (oa : Option Addr) (os : List Ou) (w : World) (hm : m ≤ 1048576) (hk : ∀ j, j < m → (os.getD j O0).l.length ≤ 1048576) (hO : OAt w oa m os) :
    Calls Try.prog 39 #[.slice oa m d] w fun e w' => e = .returned (.int .i64 (outsR os)) ∧ Below w.heap.size w w' := by
  have HO : Hid (OAt w oa m os) := hO
  have HN : Hid (os.length = m) := hO.1
  have HKL : Hid (∀ j, j < m → (os.getD j O0).l.length ≤ 1048576) := hk
  obtain ⟨r, hr⟩ : ∃ r, r = outsR os := ⟨_, rfl⟩
  rw [← hr]
  have HR : Hid (r = outsR os) := hr
  clear hO hk hr
  go_enter Try.func39, Try.ntmps39
  go_wp2
  go_loopw [8] (fun i wr => ∃ j : Nat, j ≤ m ∧ i = .int .i64 j ∧ Below w.heap.size w wr ∧ Hid (outsR os = outsR (os.drop j))) (fun i _ => m - (intOf i).toNat)
  case atStart => exact ⟨0, Nat.zero_le _, rfl, Below.refl _ _, by show _ = _; simp⟩
  case round =>
    obtain ⟨j, hj, rfl, hbel, HT⟩ := hrel
    by_cases hlt : j < m
    · rcases HO.out.2 with h0 | ⟨b, off, e0, l0, d0⟩
      · omega
      subst e0
      obtain ⟨o, ho⟩ : ∃ o, o = os.getD j O0 := ⟨_, rfl⟩
      obtain ⟨ka, kn, kc, p0, p1, p2, p3, p4, p5⟩ := d0 j hlt
      have hol := HKL.out j hlt
      rw [← ho] at p0 p2 p3 p5 hol
      have HS : Hid (o = os.getD j O0) := ho
      obtain ⟨ov, ol, ox, oy⟩ := o
      obtain rfl := p5.1
      have x0 := (hbel.cell (p := ⟨b, off + j * 4, none⟩) l0).trans p0
      have x1 := (hbel.cell (p := ⟨b, off + j * 4 + 1, none⟩) l0).trans p1
      have x2 := (hbel.cell (p := ⟨b, off + j * 4 + 2, none⟩) l0).trans p2
      have x3 := (hbel.cell (p := ⟨b, off + j * 4 + 3, none⟩) l0).trans p3
      simp only at x0 x2 x3
      obtain ⟨cd, hcd⟩ : ∃ c, c = ruleR ol ox oy := ⟨_, rfl⟩
      have hbx : Below wr.heap.size wr (wr.alloc (.cells #[.int .i64 ov, .slice ka ol.length kc, .int .i64 ox, .int .i64 oy] 77)) := below_box _
      have hlf := iRuleFault_any ol.length kc ka ol ox oy (wr.alloc (.cells #[.int .i64 ov, .slice ka ol.length kc, .int .i64 ox, .int .i64 oy] 77)) hol ((p5.below hbel (Nat.le_refl _)).below hbx (Nat.le_refl _))
      rw [← hcd] at hlf
      have HBX : Hid (Below wr.heap.size wr (wr.alloc (.cells #[.int .i64 ov, .slice ka ol.length kc, .int .i64 ox, .int .i64 oy] 77))) := hbx
      have HCD : Hid (cd = ruleR ol ox oy) := hcd
      obtain ⟨kv, hkv⟩ : ∃ k, k = inB ov 1 1000000 := ⟨_, rfl⟩
      have hin : ∀ v, Calls Try.prog 56 #[.int .i64 ov] v fun e w' => e = .returned (.bool kv) ∧ w' = v := fun v => by rw [hkv]; exact isValue_any _ v
      have HKV : Hid (kv = inB ov 1 1000000) := hkv
      have HNX : Hid (os.drop j = (⟨ov, ol, ox, oy⟩ : Ou) :: os.drop (j + 1)) := drop_next HN.out hlt HS.out
      clear ho d0 p0 p1 p2 p3 p4 p5 hol hcd hkv hbx
      have hki : (j : Int) < (m : Int) := by omega
      cases kv
      · obtain rfl : r = 3 := by rw [HR.out, HT.out, HNX.out, outsR, if_pos HKV.out.symm]
        go_wp2_with (go_at_call 56; refine (hin _).mono ?_; rintro e w' ⟨rfl, hw⟩; have hw2 := hw.symm; subst hw2)
        go_ret
        exact ⟨rfl, hbel.trans (HBX.out.mono hbel.size)⟩
      · by_cases hc0 : cd = 0
        · have HTN : Hid (outsR os = outsR (os.drop (j + 1))) := by
            show _ = _
            rw [HT.out, HNX.out, outsR, if_neg (by rw [← HKV.out]; simp), if_neg (by rw [← HCD.out, hc0]; simp)]
          go_wp2_with (first | (go_at_call 56; refine (hin _).mono ?_; rintro e w' ⟨rfl, hw⟩; have hw2 := hw.symm; subst hw2) | (go_at_call 57; refine hlf.mono ?_; rintro e w3 ⟨rfl, hb3⟩))
          go_roundw
          case rel => exact ⟨j + 1, by omega, by go_num, (hbel.trans (HBX.out.mono hbel.size)).trans (hb3.mono (by have := hbel.size; simp; omega)), HTN⟩
          case measure => simp [intOf]; omega
        · have e1 : outsR os = cd := by rw [HT.out, HNX.out, outsR, if_neg (by rw [← HKV.out]; simp), if_pos (by rw [← HCD.out]; exact hc0), ← HCD.out]
          obtain rfl : r = cd := by rw [HR.out, e1]
          clear e1
          go_wp2_with (first | (go_at_call 56; refine (hin _).mono ?_; rintro e w' ⟨rfl, hw⟩; have hw2 := hw.symm; subst hw2) | (go_at_call 57; refine hlf.mono ?_; rintro e w3 ⟨rfl, hb3⟩))
          go_ret
          exact ⟨rfl, (hbel.trans (HBX.out.mono hbel.size)).trans (hb3.mono (by have := hbel.size; simp; omega))⟩
    · obtain rfl : r = 0 := by rw [HR.out, HT.out]; exact drop_none HN.out hlt
      go_wp2
      go_ret
      exact ⟨rfl, hbel⟩

def kindR (k f : Int) : Int := if inB k 0 2 = false ∨ ¬ (k = 0 ↔ f = 0) then 1 else if k ≠ 0 ∧ inB f 1 999 = false then 3 else 0

set_option maxRecDepth 20000 in
set_option maxHeartbeats 1000000 in
theorem kindFault_any (k f : Int) (v2 v3 : Value) (w : World) :
    Calls Try.prog 36 #[.agg #[.int .i64 k, .int .i64 f, v2, v3]] w fun e w' => e = .returned (.int .i64 (kindR k f)) ∧ Below w.heap.size w w' := by
  have hbx : Below w.heap.size w (w.alloc (.cells #[.int .i64 k, .int .i64 f, v2, v3] 28)) := below_box _
  obtain ⟨kb, hkb⟩ : ∃ b, b = inB k 0 2 := ⟨_, rfl⟩
  obtain ⟨mk, hmk⟩ : ∃ b, b = memK k := ⟨_, rfl⟩
  obtain ⟨fk, hfk⟩ : ∃ b, b = inB f 1 999 := ⟨_, rfl⟩
  have hK : ∀ v, Calls Try.prog 54 #[.int .i64 k] v fun e w' => e = .returned (.bool kb) ∧ w' = v := fun v => by rw [hkb]; exact isKind_any _ v
  have hM : ∀ v, Calls Try.prog 55 #[.int .i64 k] v fun e w' => e = .returned (.bool mk) ∧ w' = v := fun v => by rw [hmk]; exact hasMember_any _ v
  have hF : ∀ v, Calls Try.prog 51 #[.int .i64 f] v fun e w' => e = .returned (.bool fk) ∧ w' = v := fun v => by rw [hfk]; exact isKey_any _ v
  have HKB : Hid (kb = inB k 0 2) := hkb
  have HMK : Hid (mk = memK k) := hmk
  have HFK : Hid (fk = inB f 1 999) := hfk
  obtain ⟨r, hr⟩ : ∃ r, r = kindR k f := ⟨_, rfl⟩
  rw [← hr]
  have HR : Hid (r = kindR k f) := hr
  clear hkb hmk hfk hr
  have HBX : Hid (Below w.heap.size w (w.alloc (.cells #[.int .i64 k, .int .i64 f, v2, v3] 28))) := hbx
  clear hbx
  have hmem : kb = true → (mk = false ↔ k = 0) := by
    intro h
    have h1 := inB_true.1 (HKB.out.symm.trans h)
    rw [HMK.out]
    unfold memK
    rw [decide_eq_false_iff_not]
    omega
  cases kb
  · obtain rfl : r = 1 := by rw [HR.out]; unfold kindR; rw [if_pos (.inl HKB.out.symm)]
    clear hmem
    go_enter Try.func36, Try.ntmps36
    go_wp2
    go_quiet (first | (go_at_call 54; refine Calls.quiet_of_same (hK _)))
    go_wp2
    go_ret
    exact ⟨rfl, HBX.out.trans (Joins.below_draws _ _ _)⟩
  have hmem := hmem rfl
  have HB : Hid (¬ inB k 0 2 = false) := by show ¬ _; rw [← HKB.out]; simp
  by_cases hf0 : f = 0
  · subst hf0
    cases mk
    · have hk0 : k = 0 := hmem.1 rfl
      obtain rfl : r = 0 := by rw [HR.out]; unfold kindR; rw [if_neg (fun h => h.elim HB.out (fun h => h (by simp [hk0]))), if_neg (fun h => h.1 hk0)]
      subst hk0
      clear hmem
      go_enter Try.func36, Try.ntmps36
      go_wp2
      go_quiet (first | (go_at_call 54; refine Calls.quiet_of_same (hK _)) | (go_at_call 55; refine Calls.quiet_of_same (hM _)))
      go_wp2_with (go_at_call 55; refine (hM _).mono ?_; rintro e w' ⟨rfl, hw⟩; have hw2 := hw.symm; subst hw2)
      go_ret
      exact ⟨rfl, HBX.out.trans (Joins.below_draws _ _ _)⟩
    · have hk0 : ¬ k = 0 := fun e => by have := hmem.2 e; cases this
      obtain rfl : r = 1 := by rw [HR.out]; unfold kindR; rw [if_pos (.inr (fun h => hk0 (h.2 rfl)))]
      clear hmem hk0
      go_enter Try.func36, Try.ntmps36
      go_wp2
      go_quiet (first | (go_at_call 54; refine Calls.quiet_of_same (hK _)) | (go_at_call 55; refine Calls.quiet_of_same (hM _)))
      go_wp2
      go_ret
      exact ⟨rfl, HBX.out.trans (Joins.below_draws _ _ _)⟩
  · have hfb : (f != 0) = true := by simpa using hf0
    have hfe : (f == 0) = false := by simpa using hf0
    cases mk
    · have hk0 : k = 0 := hmem.1 rfl
      obtain rfl : r = 1 := by rw [HR.out]; unfold kindR; rw [if_pos (.inr (fun h => hf0 (h.1 hk0)))]
      subst hk0
      clear hmem
      go_enter Try.func36, Try.ntmps36
      go_wp2
      go_quiet (first | (go_at_call 54; refine Calls.quiet_of_same (hK _)) | (go_at_call 55; refine Calls.quiet_of_same (hM _)))
      go_wp2
      go_ret
      exact ⟨rfl, HBX.out.trans (Joins.below_draws _ _ _)⟩
    · have hk0 : ¬ k = 0 := fun e => by have := hmem.2 e; cases this
      have hrr : r = if fk = false then 3 else 0 := by rw [HR.out, HFK.out]; unfold kindR; rw [if_neg (fun h => h.elim HB.out (fun h => h ⟨fun e => absurd e hk0, fun e => absurd e hf0⟩))]; simp [hk0]
      clear hmem hk0
      cases fk
      · obtain rfl : r = 3 := by rw [hrr]; rfl
        clear hrr
        go_enter Try.func36, Try.ntmps36
        go_wp2
        go_quiet (first | (go_at_call 54; refine Calls.quiet_of_same (hK _)) | (go_at_call 55; refine Calls.quiet_of_same (hM _)))
        go_wp2_with (first | (go_at_call 55; refine (hM _).mono ?_; rintro e w' ⟨rfl, hw⟩; have hw2 := hw.symm; subst hw2) | (go_at_call 51; refine (hF _).mono ?_; rintro e w' ⟨rfl, hw⟩; have hw2 := hw.symm; subst hw2))
        go_ret
        exact ⟨rfl, HBX.out.trans (Joins.below_draws _ _ _)⟩
      · obtain rfl : r = 0 := by rw [hrr]; rfl
        clear hrr
        go_enter Try.func36, Try.ntmps36
        go_wp2
        go_quiet (first | (go_at_call 54; refine Calls.quiet_of_same (hK _)) | (go_at_call 55; refine Calls.quiet_of_same (hM _)))
        go_wp2_with (first | (go_at_call 55; refine (hM _).mono ?_; rintro e w' ⟨rfl, hw⟩; have hw2 := hw.symm; subst hw2) | (go_at_call 51; refine (hF _).mono ?_; rintro e w' ⟨rfl, hw⟩; have hw2 := hw.symm; subst hw2))
        go_ret
        exact ⟨rfl, HBX.out.trans (Joins.below_draws _ _ _)⟩

end Go.Proofs.Ytgfhnmjpkanikaa

namespace Go.Proofs.Ytgfhnmjpkanikaa
open Go.RowKit Go.Maps Go.WideMaps

theorem txR_eq (k f : Int) (rs : List (Int × Int)) (os : List Ou) : txR k f rs os = if kindR k f ≠ 0 then kindR k f else if inB rs.length 1 4 = false ∨ inB os.length 1 4 = false then 2 else if refsR [] rs ≠ 0 then refsR [] rs else if outsR os ≠ 0 then outsR os else if k = 1 ∧ (os.getD 0 O0).v < 100 then 8 else 0 := by
  unfold txR kindR joinR
  by_cases h1 : inB k 0 2 = false ∨ ¬ (k = 0 ↔ f = 0)
  · rw [if_pos h1, if_pos h1]; rfl
  · rw [if_neg h1, if_neg h1]
    by_cases h2 : k ≠ 0 ∧ inB f 1 999 = false
    · rw [if_pos h2, if_pos h2]; rfl
    · rw [if_neg h2, if_neg h2, if_neg (show ¬ (0 : Int) ≠ 0 by simp)]

set_option maxRecDepth 20000 in
set_option maxHeartbeats 2000000 in
theorem iTxFault_any (n c m d : Nat) (ia oa : Option Addr) (k f : Int) (rs : List (Int × Int)) (os : List Ou) (w : World) (_hn : n ≤ 1048576) (hm : m ≤ 1048576) (hc1 : n ≤ c) (hc2 : c ≤ maxLen) (hk : ∀ j, j < m → (os.getD j O0).l.length ≤ 1048576) (h : TxAt w ia n oa m rs os) :
    Calls Try.prog 20 #[.agg #[.int .i64 k, .int .i64 f, .slice ia n c, .slice oa m d]] w fun e w' => e = .returned (.int .i64 (txR k f rs os)) ∧ Below w.heap.size w w' := by
  have B0 : TBx w (w.alloc (.cells #[.int .i64 k, .int .i64 f, .slice ia n c, .slice oa m d] 28)) k f ia n c oa m d 28 := TBx.start
  have HT : Hid (TxAt w ia n oa m rs os) := h
  have HN : Hid (rs.length = n) := h.r.1
  have HM : Hid (os.length = m) := h.o.1
  have HK : Hid (∀ j, j < m → (os.getD j O0).l.length ≤ 1048576) := hk
  have HB0 : Hid (TBx w (w.alloc (.cells #[.int .i64 k, .int .i64 f, .slice ia n c, .slice oa m d] 28)) k f ia n c oa m d 28) := B0
  obtain ⟨cd, hcd⟩ : ∃ c, c = txR k f rs os := ⟨_, rfl⟩
  rw [← hcd]
  have HCD : Hid (cd = if kindR k f ≠ 0 then kindR k f else if inB n 1 4 = false ∨ inB m 1 4 = false then 2 else if refsR [] rs ≠ 0 then refsR [] rs else if outsR os ≠ 0 then outsR os else if k = 1 ∧ (os.getD 0 O0).v < 100 then 8 else 0) := by
    show _ = _
    rw [hcd, txR_eq, h.r.1, h.o.1]
  obtain ⟨r1, hr1⟩ : ∃ c, c = kindR k f := ⟨_, rfl⟩
  obtain ⟨r2, hr2⟩ : ∃ c, c = refsR [] rs := ⟨_, rfl⟩
  obtain ⟨r3, hr3⟩ : ∃ c, c = outsR os := ⟨_, rfl⟩
  obtain ⟨bn, hbn⟩ : ∃ c, c = inB n 1 4 := ⟨_, rfl⟩
  obtain ⟨bm, hbm⟩ : ∃ c, c = inB m 1 4 := ⟨_, rfl⟩
  have hk1 := kindFault_any k f (.slice ia n c) (.slice oa m d) (w.alloc (.cells #[.int .i64 k, .int .i64 f, .slice ia n c, .slice oa m d] 28))
  have hrf : ∀ v, GAt v ia n rs → Calls Try.prog 38 #[.slice ia n c] v fun e w' => e = .returned (.int .i64 r2) ∧ Below v.heap.size v w' := fun v hv => by rw [hr2]; exact refsFault_any n c ia rs v hc1 hc2 hv
  have hof : ∀ v, OAt v oa m os → Calls Try.prog 39 #[.slice oa m d] v fun e w' => e = .returned (.int .i64 r3) ∧ Below v.heap.size v w' := fun v hv => by rw [hr3]; exact outsFault_any m d oa os v hm HK.out hv
  have hp1 : ∀ v, Calls Try.prog 37 #[.int .i64 n] v fun e w' => e = .returned (.bool bn) ∧ w' = v := fun v => by rw [hbn]; exact arePieces_any n v
  have hp2 : ∀ v, Calls Try.prog 37 #[.int .i64 m] v fun e w' => e = .returned (.bool bm) ∧ w' = v := fun v => by rw [hbm]; exact arePieces_any m v
  have HRF : Hid (∀ v, GAt v ia n rs → Calls Try.prog 38 #[.slice ia n c] v fun e w' => e = .returned (.int .i64 r2) ∧ Below v.heap.size v w') := hrf
  have HOF : Hid (∀ v, OAt v oa m os → Calls Try.prog 39 #[.slice oa m d] v fun e w' => e = .returned (.int .i64 r3) ∧ Below v.heap.size v w') := hof
  have HC := HCD.out
  rw [← hr1, ← hr2, ← hr3, ← hbn, ← hbm] at HC
  rw [← hr1] at hk1
  have HBM : Hid (bm = inB m 1 4) := hbm
  have HC2 : Hid (cd = if r1 ≠ 0 then r1 else if bn = false ∨ bm = false then 2 else if r2 ≠ 0 then r2 else if r3 ≠ 0 then r3 else if k = 1 ∧ (os.getD 0 O0).v < 100 then 8 else 0) := HC
  clear HC HCD h B0 hk hcd hr1 hr2 hr3 hbn hbm hrf hof
  by_cases h1 : r1 = 0
  · subst h1
    by_cases h2 : bn = false
    · subst h2
      obtain rfl : cd = 2 := by rw [HC2.out]; simp
      clear hp2
      go_enter Try.func20, Try.ntmps20
      go_wp2_with (first
        | (go_at_call 36; refine hk1.mono ?_; rintro e w1 ⟨rfl, hb1⟩; have HB1 : Hid (TBx w w1 k f ia n c oa m d 28) := HB0.out.step hb1; obtain ⟨p0, p1, p2, p3, _⟩ := cells4 HB1.out.box; clear hb1)
        | (go_at_call 37; refine (hp1 _).mono ?_; rintro e w' ⟨rfl, hw⟩; have hw2 := hw.symm; subst hw2))
      go_ret
      exact ⟨rfl, HB1.out.bel⟩
    obtain rfl : bn = true := by simpa using h2
    by_cases h3 : bm = false
    · subst h3
      obtain rfl : cd = 2 := by rw [HC2.out]; simp
      go_enter Try.func20, Try.ntmps20
      go_wp2_with (first
        | (go_at_call 36; refine hk1.mono ?_; rintro e w1 ⟨rfl, hb1⟩; have HB1 : Hid (TBx w w1 k f ia n c oa m d 28) := HB0.out.step hb1; obtain ⟨p0, p1, p2, p3, _⟩ := cells4 HB1.out.box; clear hb1)
        | (go_at_call 37; (first | (refine (hp1 _).mono ?_; clear hp1) | refine (hp2 _).mono ?_); rintro e w' ⟨rfl, hw⟩; have hw2 := hw.symm; subst hw2))
      go_ret
      exact ⟨rfl, HB1.out.bel⟩
    obtain rfl : bm = true := by simpa using h3
    have hm4 := inB_true.1 HBM.out.symm
    have HC3 : Hid (cd = if r2 ≠ 0 then r2 else if r3 ≠ 0 then r3 else if k = 1 ∧ (os.getD 0 O0).v < 100 then 8 else 0) := by show _ = _; rw [HC2.out]; simp
    clear HC2 h2 h3
    by_cases h4 : r2 = 0
    · subst h4
      by_cases h5 : r3 = 0
      · subst h5
        have HC4 : Hid (cd = if k = 1 ∧ (os.getD 0 O0).v < 100 then 8 else 0) := by show _ = _; rw [HC3.out]; simp
        clear HC3
        rcases HT.out.o.2 with h0 | ⟨b, off, e0, l0, d0⟩
        · omega
        subst e0
        obtain ⟨ka, kn, kc, q0, _⟩ := d0 0 (by omega)
        simp only [Nat.zero_mul, Nat.add_zero] at q0
        obtain ⟨ov, hov⟩ : ∃ v, v = (os.getD 0 O0).v := ⟨_, rfl⟩
        have HC5 : Hid (cd = if k = 1 ∧ ov < 100 then 8 else 0) := by show _ = _; rw [HC4.out, hov]
        rw [← hov] at q0
        clear HC4 hov d0
        have hmi : 0 < (m : Int) := by omega
        rcases (show (k = 1 ∧ ov < 100 ∧ cd = 8) ∨ (k = 1 ∧ ¬ ov < 100 ∧ cd = 0) ∨ (¬ k = 1 ∧ (k == 1) = false ∧ cd = 0) by
          by_cases g1 : k = 1
          · by_cases g2 : ov < 100
            · exact .inl ⟨g1, g2, by rw [HC5.out, if_pos ⟨g1, g2⟩]⟩
            · exact .inr (.inl ⟨g1, g2, by rw [HC5.out, if_neg (fun h => g2 h.2)]⟩)
          · exact .inr (.inr ⟨g1, by simpa using g1, by rw [HC5.out, if_neg (fun h => g1 h.1)]⟩)) with ⟨rfl, g2, rfl⟩ | ⟨rfl, g2, rfl⟩ | ⟨g1, g2, rfl⟩
        all_goals
         clear HC5
         go_enter Try.func20, Try.ntmps20
         go_wp2_with (first
           | (go_at_call 36; refine hk1.mono ?_; rintro e w1 ⟨rfl, hb1⟩; have HB1 : Hid (TBx w w1 _ f ia n c (some ⟨b, off, none⟩) m d 28) := HB0.out.step hb1; obtain ⟨p0, p1, p2, p3, _⟩ := cells4 HB1.out.box; clear hb1)
           | (go_at_call 37; (first | (refine (hp1 _).mono ?_; clear hp1) | refine (hp2 _).mono ?_); rintro e w' ⟨rfl, hw⟩; have hw2 := hw.symm; subst hw2)
           | (go_at_call 38; refine (HRF.out _ (HB1.out.at HT.out).r).mono ?_; rintro e w2 ⟨rfl, hb2⟩; have HB2 : Hid (TBx w w2 _ f ia n c (some ⟨b, off, none⟩) m d 28) := HB1.out.step hb2; clear p0 p1 p2 p3; obtain ⟨p0, p1, p2, p3, _⟩ := cells4 HB2.out.box; clear hb2)
           | (go_at_call 39; refine (HOF.out _ (HB2.out.at HT.out).o).mono ?_; rintro e w3 ⟨rfl, hb3⟩; have HB3 : Hid (TBx w w3 _ f ia n c (some ⟨b, off, none⟩) m d 28) := HB2.out.step hb3; clear p0 p1 p2 p3; obtain ⟨p0, p1, p2, p3, _⟩ := cells4 HB3.out.box; have x0 := (HB3.out.bel.cell (p := ⟨b, off, none⟩) l0).trans q0; clear hb3))
         go_ret
         exact ⟨rfl, HB3.out.bel⟩
      · obtain rfl : cd = r3 := by rw [HC3.out]; simp [h5]
        go_enter Try.func20, Try.ntmps20
        go_wp2_with (first
          | (go_at_call 36; refine hk1.mono ?_; rintro e w1 ⟨rfl, hb1⟩; have HB1 : Hid (TBx w w1 k f ia n c oa m d 28) := HB0.out.step hb1; obtain ⟨p0, p1, p2, p3, _⟩ := cells4 HB1.out.box; clear hb1)
          | (go_at_call 37; (first | (refine (hp1 _).mono ?_; clear hp1) | refine (hp2 _).mono ?_); rintro e w' ⟨rfl, hw⟩; have hw2 := hw.symm; subst hw2)
          | (go_at_call 38; refine (HRF.out _ (HB1.out.at HT.out).r).mono ?_; rintro e w2 ⟨rfl, hb2⟩; have HB2 : Hid (TBx w w2 k f ia n c oa m d 28) := HB1.out.step hb2; clear p0 p1 p2 p3; obtain ⟨p0, p1, p2, p3, _⟩ := cells4 HB2.out.box; clear hb2)
          | (go_at_call 39; refine (HOF.out _ (HB2.out.at HT.out).o).mono ?_; rintro e w3 ⟨rfl, hb3⟩; have HB3 : Hid (TBx w w3 k f ia n c oa m d 28) := HB2.out.step hb3; clear p0 p1 p2 p3; obtain ⟨p0, p1, p2, p3, _⟩ := cells4 HB3.out.box; clear hb3))
        go_ret
        exact ⟨rfl, HB3.out.bel⟩
    · obtain rfl : cd = r2 := by rw [HC3.out]; simp [h4]
      go_enter Try.func20, Try.ntmps20
      go_wp2_with (first
        | (go_at_call 36; refine hk1.mono ?_; rintro e w1 ⟨rfl, hb1⟩; have HB1 : Hid (TBx w w1 k f ia n c oa m d 28) := HB0.out.step hb1; obtain ⟨p0, p1, p2, p3, _⟩ := cells4 HB1.out.box; clear hb1)
        | (go_at_call 37; (first | (refine (hp1 _).mono ?_; clear hp1) | refine (hp2 _).mono ?_); rintro e w' ⟨rfl, hw⟩; have hw2 := hw.symm; subst hw2)
        | (go_at_call 38; refine (HRF.out _ (HB1.out.at HT.out).r).mono ?_; rintro e w2 ⟨rfl, hb2⟩; have HB2 : Hid (TBx w w2 k f ia n c oa m d 28) := HB1.out.step hb2; clear p0 p1 p2 p3; obtain ⟨p0, p1, p2, p3, _⟩ := cells4 HB2.out.box; clear hb2))
      go_ret
      exact ⟨rfl, HB2.out.bel⟩
  · obtain rfl : cd = r1 := by rw [HC2.out]; simp [h1]
    clear hp1 hp2
    go_enter Try.func20, Try.ntmps20
    go_wp2_with (first
      | (go_at_call 36; refine hk1.mono ?_; rintro e w1 ⟨rfl, hb1⟩; have HB1 : Hid (TBx w w1 k f ia n c oa m d 28) := HB0.out.step hb1; obtain ⟨p0, p1, p2, p3, _⟩ := cells4 HB1.out.box; clear hb1))
    go_ret
    exact ⟨rfl, HB1.out.bel⟩

end Go.Proofs.Ytgfhnmjpkanikaa

namespace Go.Proofs.Ytgfhnmjpkanikaa
open Go.RowKit Go.Maps Go.WideMaps

theorem Chg.refl (w : World) (lo hi : Nat) : Chg w w lo hi := ⟨rfl, rfl, rfl, Nat.le_refl _, fun _ _ _ => rfl⟩
theorem Chg.setCell {w W : World} {lo hi g t : Nat} (h : Chg w W lo hi) (hg : lo ≤ g ∧ g < hi) (u : Value) : Chg w (W.setCell ⟨g, t, none⟩ u) lo hi :=
  ⟨h.os, h.tape, h.output, by simpa using h.size, fun b hb ho => (Below.heap_setCell _ ⟨g, t, none⟩ u b (show b ≠ g by omega)).trans (h.block b hb ho)⟩

end Go.Proofs.Ytgfhnmjpkanikaa

namespace Go.Proofs.Ytgfhnmjpkanikaa
open Go.RowKit Go.Maps Go.WideMaps

def cmpI (a b : Int) : Int := if a < b then -1 else if b < a then 1 else 0
theorem cmpI_zero {a b : Int} : cmpI a b = 0 ↔ a = b := by
  unfold cmpI; by_cases h : a < b
  · simp [h]; omega
  · by_cases h2 : b < a
    · simp [h, h2]; omega
    · simp [h, h2]; omega
end Go.Proofs.Ytgfhnmjpkanikaa

namespace Go.Proofs.Ytgfhnmjpkanikaa
open Go.RowKit Go.Maps Go.WideMaps

theorem isNaN_any (v : Int) (w : World) : Calls Try.prog 75 #[.int .i64 v] w fun e w' => e = .returned (.bool false) ∧ w' = w := by
  go_enter Try.func75, Try.ntmps75
  go_wp2
  go_ret
  exact ⟨by simp, rfl⟩

theorem cmpC_any (a b : Int) (w : World) : Calls Try.prog 65 #[.int .i64 a, .int .i64 b] w fun e w' => e = .returned (.int .i64 (cmpI a b)) ∧ w' = w := by
  have h0 : ∀ v u, Calls Try.prog 75 #[.int .i64 v] u fun e w' => e = .returned (.bool false) ∧ w' = u := isNaN_any
  by_cases h1 : a < b
  · have e : cmpI a b = -1 := by simp [cmpI, h1]
    rw [e]
    go_enter Try.func65, Try.ntmps65
    go_wp2_with (go_at_call 75; refine (h0 _ _).mono ?_; rintro e w' ⟨rfl, hw⟩; have hw2 := hw.symm; subst hw2)
    go_ret
    exact ⟨rfl, rfl⟩
  · by_cases h2 : b < a
    · have e : cmpI a b = 1 := by simp [cmpI, h1, h2]
      rw [e]
      go_enter Try.func65, Try.ntmps65
      go_wp2_with (go_at_call 75; refine (h0 _ _).mono ?_; rintro e w' ⟨rfl, hw⟩; have hw2 := hw.symm; subst hw2)
      go_ret
      exact ⟨rfl, rfl⟩
    · have e : cmpI a b = 0 := by simp [cmpI, h1, h2]
      rw [e]
      go_enter Try.func65, Try.ntmps65
      go_wp2_with (go_at_call 75; refine (h0 _ _).mono ?_; rintro e w' ⟨rfl, hw⟩; have hw2 := hw.symm; subst hw2)
      go_ret
      exact ⟨rfl, rfl⟩

end Go.Proofs.Ytgfhnmjpkanikaa
