/- What the specification's own functions of chapter 1 answer, and that they write nothing that was there. The specification's fault of a ledger: two loops, one over the texts, one over the signatures. What the laws' own helpers do with a ledger that came in: its size is told, it is copied into new memory, two are compared. The laws' own copies and comparisons of ledgers. The laws' own copies and comparisons of signatures and of whole ledgers. The laws' own copies, sizes and comparisons of whole ledgers. The program's fault of a ledger is the specification's, and the law that asks it answers true. What IdOf and TextOf and HasSign answer: the specification's and the program's. The law on IdOf answers true, whatever ledger and text come in, and writes nothing that was there. What TextOf and HasSign answer: the specification's and the program's. The marks that the laws write into lists, and the looks that they are there. The marks of signatures and numbers, and of whole ledgers. The marks of whole ledgers and of results that hold one; results compared. What SignsOf answers: the specification's and the program's. What the specification's SignsOf answers. The marks of lists of numbers, and results that hold one compared. -/
import Derived.Test.YtacjgnefomdoaaaGreatDoorBase
import Derived.Deep.QuietTactic
import Derived.BigQuiet
import Derived.Lib.SmallJoins
import Derived.Deep.RegionHeld3
import Derived.Test.YtacjgnefomdoaaaGreatDoorTw
import Derived.Deep.RegionLaw
namespace Go.Proofs.YtacjgnefomdoaaaGreatDoor
open Go.RowKit Go.Maps

theorem l1In_any (v lo hi : Int) (w : World) : Calls Tryz.prog 43 #[.int .i64 v, .int .i64 lo, .int .i64 hi] w fun e w' => e = .returned (.bool (inB v lo hi)) ∧ w' = w := by
  by_cases h1 : lo ≤ v
  · by_cases h2 : v ≤ hi
    · have hb : inB v lo hi = true := by simp [inB, h1, h2]
      rw [hb]
      go_enter Tryz.func43, Tryz.ntmps43
      go_wp2
      go_ret
      exact ⟨rfl, rfl⟩
    · have hb : inB v lo hi = false := by simp [inB, h2]
      rw [hb]
      go_enter Tryz.func43, Tryz.ntmps43
      go_wp2
      go_ret
      exact ⟨rfl, rfl⟩
  · have hb : inB v lo hi = false := by simp [inB, h1]
    rw [hb]
    go_enter Tryz.func43, Tryz.ntmps43
    go_wp2
    go_ret
    exact ⟨rfl, rfl⟩

theorem l1Key_any (v : Int) (w : World) : Calls Tryz.prog 42 #[.int .i64 v] w fun e w' => e = .returned (.bool (inB v 1 999)) ∧ w' = w := by
  go_enter Tryz.func42, Tryz.ntmps42
  go_wp2_with (go_at_call 43; refine (l1In_any _ _ _ _).mono ?_; rintro e w' ⟨rfl, rfl⟩)
  go_ret
  exact ⟨rfl, rfl⟩

set_option maxHeartbeats 400000 in
theorem l1At_any (a : Option Addr) (n cap : Nat) (ss : List ByteArray) (x : ByteArray) (w : World) (hl : n ≤ maxLen) (hs : SAt w a n ss) :
    Calls Tryz.prog 26 #[.slice a n cap, .string x] w fun e w' => e = .returned (.int .i64 (num ss x : Nat)) ∧ w' = w := by
  unfold maxLen at hl
  obtain ⟨hn, hs⟩ := hs
  rcases hs with rfl | ⟨b, off, rfl, hb, hc⟩
  · obtain rfl : ss = [] := List.length_eq_zero_iff.1 hn
    go_enter Tryz.func26, Tryz.ntmps26
    go_wp2
    refine wp_loop_rounds 1 ?_
    rw [rounds_succ]
    go_wp2
    go_ret
    exact ⟨rfl, rfl⟩
  · have HN : Hid (ss.length = n) := hn
    clear hn
    go_enter Tryz.func26, Tryz.ntmps26
    go_wp2
    go_loop [5] (fun i => ∃ k : Nat, k ≤ n ∧ i = .int .i64 k ∧ Hid (x ∉ ss.take k)) (fun i => n - (intOf i).toNat)
    case atStart => exact ⟨0, Nat.zero_le _, rfl, by show x ∉ _; simp⟩
    case round =>
      obtain ⟨k, hk, rfl, hj⟩ := hrel
      by_cases hlt : k < n
      · obtain ⟨s, hs⟩ : ∃ s, s = ss.getD k E0 := ⟨_, rfl⟩
        have hcx := hc k hlt
        rw [← hs] at hcx
        have HS : Hid (s = ss.getD k E0) := hs
        clear hs hc
        by_cases he : s = x
        · have hy := str_yes he
          clear he
          go_wp2
          go_ret
          exact ⟨ret_int (by rw [num_hit ss x E0 k (by rw [HN.out]; exact hlt) (by rw [← HS.out]; exact Classical.byContradiction fun e => by rw [str_no e] at hy; cases hy) hj.out]; omega), rfl⟩
        · have hy := str_no he
          have HE : Hid (¬ s = x) := he
          clear he
          go_wp2
          go_round
          case rel =>
            refine ⟨k + 1, by omega, by go_num, ?_⟩
            show x ∉ _
            rw [take_snoc ss E0 k (by rw [HN.out]; exact hlt), ← HS.out]
            simp only [List.mem_append, List.mem_singleton, not_or]
            exact ⟨hj.out, fun e => HE.out e.symm⟩
          case measure => simp [intOf]; omega
      · go_wp2
        go_ret
        exact ⟨ret_int (by rw [(num_zero ss x).2 (by have := hj.out; rwa [List.take_of_length_le (by rw [HN.out]; omega)] at this)]; rfl), rfl⟩

theorem signed_more {gs : List (Int × Int)} {n k : Nat} {x g : Int × Int} (hn : gs.length = n) (hlt : k < n) (hj : x ∉ gs.take k) (hg : g = gs.getD k G0) (hne : ¬ g = x) : Hid (x ∉ gs.take (k + 1)) := by
  show x ∉ _
  rw [take_snoc gs G0 k (by omega), ← hg]
  simp only [List.mem_append, List.mem_singleton, not_or]
  exact ⟨hj, fun e => hne e.symm⟩

def memB (gs : List (Int × Int)) (x : Int × Int) : Bool := num gs x != 0

set_option maxHeartbeats 400000 in
theorem l1Signed_any (a : Option Addr) (n cap : Nat) (gs : List (Int × Int)) (p q : Int) (w : World) (hl : n ≤ maxLen) (hs : GAt w a n gs) :
    Calls Tryz.prog 44 #[.slice a n cap, .agg #[.int .i64 p, .int .i64 q]] w fun e w' => e = .returned (.bool (memB gs (p, q))) ∧ Below w.heap.size w w' := by
  unfold maxLen at hl
  obtain ⟨hn, hs⟩ := hs
  rcases hs with rfl | ⟨b, off, rfl, hb, hc⟩
  · obtain rfl : gs = [] := List.length_eq_zero_iff.1 hn
    go_enter Tryz.func44, Tryz.ntmps44
    go_wp2
    refine wp_loop_rounds 1 ?_
    rw [rounds_succ]
    go_wp2
    go_ret
    exact ⟨rfl, (Below.refl _ _).alloc (Nat.le_refl _) _⟩
  · have HN : Hid (gs.length = n) := hn
    clear hn
    go_enter Tryz.func44, Tryz.ntmps44
    go_wp2
    go_loopw [5] (fun i wr => ∃ k : Nat, k ≤ n ∧ i = .int .i64 k ∧ Hid ((p, q) ∉ gs.take k) ∧ wr.cell? ⟨w.heap.size, 0, none⟩ = some (.int .i64 p) ∧ wr.cell? ⟨w.heap.size, 1, none⟩ = some (.int .i64 q) ∧ Below w.heap.size w wr) (fun i _ => n - (intOf i).toNat)
    case atStart => exact ⟨0, Nat.zero_le _, rfl, by show (p, q) ∉ _; simp, by simp, by simp, (Below.refl _ _).alloc (Nat.le_refl _) _⟩
    case round =>
      obtain ⟨k, hk, rfl, hj, hp, hq, hbel⟩ := hrel
      by_cases hlt : k < n
      · obtain ⟨g, hg⟩ : ∃ g, g = gs.getD k G0 := ⟨_, rfl⟩
        have hcx := hc k hlt
        rw [← hg] at hcx
        obtain ⟨g1, g2⟩ := g
        have c0 := (hbel.cell (p := ⟨b, off + k * 2, none⟩) hb).trans hcx.1
        have c1 := (hbel.cell (p := ⟨b, off + k * 2 + 1, none⟩) hb).trans hcx.2
        have HG : Hid ((g1, g2) = gs.getD k G0) := hg
        clear hg hc hcx
        have hki : (k : Int) < (n : Int) := by omega
        by_cases h1 : g1 = p
        · have e1 : (g1 == p) = true := by simp [h1]
          have H1 : Hid (g1 = p) := h1
          clear h1
          by_cases h2 : g2 = q
          · have e2 : (g2 == q) = true := by simp [h2]
            have H2 : Hid (g2 = q) := h2
            clear h2
            go_wp2
            go_quiet (fail)
            go_wp2
            go_ret
            refine ⟨?_, hbel.trans (Joins.below_draws _ _ _)⟩
            have hm : memB gs (p, q) = true := by
              unfold memB
              rw [num_hit gs (p, q) G0 k (by rw [HN.out]; exact hlt) (by rw [← HG.out, H1.out, H2.out]) hj.out]
              simp
            rw [hm]; rfl
          · have e2 : (g2 == q) = false := by simp [h2]
            have H2 : Hid (¬ (g1, g2) = (p, q)) := fun e => h2 (by simpa using congrArg Prod.snd e)
            clear h2
            go_wp2
            go_quiet (fail)
            go_wp2
            go_roundw
            case rel => exact ⟨k + 1, by omega, by go_num, signed_more HN.out hlt hj.out HG.out H2.out, by simpa using hp, by simpa using hq, hbel.trans (Joins.below_draws _ _ _)⟩
            case measure => simp [intOf]; omega
        · have e1 : (g1 == p) = false := by simp [h1]
          have H2 : Hid (¬ (g1, g2) = (p, q)) := fun e => h1 (by simpa using congrArg Prod.fst e)
          clear h1
          go_wp2
          go_quiet (fail)
          go_wp2
          go_roundw
          case rel => exact ⟨k + 1, by omega, by go_num, signed_more HN.out hlt hj.out HG.out H2.out, by simpa using hp, by simpa using hq, hbel.trans (Joins.below_draws _ _ _)⟩
          case measure => simp [intOf]; omega
      · go_wp2
        go_ret
        refine ⟨?_, hbel⟩
        have hm : memB gs (p, q) = false := by
          unfold memB
          rw [(num_zero gs (p, q)).2 (by have := hj.out; rwa [List.take_of_length_le (by rw [HN.out]; omega)] at this)]
          rfl
        rw [hm]; rfl

end Go.Proofs.YtacjgnefomdoaaaGreatDoor

namespace Go.Proofs.YtacjgnefomdoaaaGreatDoor
open Go.RowKit Go.Maps

set_option maxHeartbeats 1000000 in
theorem l1Fault_any (L n m tc gc : Nat) (ta ga : Option Addr) (ss : List ByteArray) (gs : List (Int × Int)) (w : World) (hL : L < w.heap.size) (hT : w.cell? ⟨L, 0, none⟩ = some (.slice ta n tc)) (hG : w.cell? ⟨L, 1, none⟩ = some (.slice ga m gc))
    (htc : n ≤ tc) (hgc : m ≤ gc) (htm : tc ≤ maxLen) (hgm : gc ≤ maxLen) (hz : ∀ j, (ss.getD j E0).size ≤ maxLen) (hs : SAt w ta n ss) (hg : GAt w ga m gs) :
    Calls Tryz.prog 21 #[.pointer (some ⟨L, 0, none⟩)] w fun e w' => e = .returned (.int .i64 (flt ss gs)) ∧ Below w.heap.size w w' := by
  have HN : Hid (ss.length = n) := hs.1
  have HM : Hid (gs.length = m) := hg.1
  have htm' := htm
  have hgm' := hgm
  unfold maxLen at htm' hgm' hz
  by_cases hbig : 60 < n ∨ 120 < m
  · have hf := flt_many HN.out HM.out hbig
    rw [hf]
    clear hf
    by_cases h60 : 60 < n
    · go_enter Tryz.func21, Tryz.ntmps21
      go_wp2
      go_ret
      exact ⟨rfl, Below.refl _ _⟩
    · have h120 : 120 < m := by omega
      go_enter Tryz.func21, Tryz.ntmps21
      go_wp2
      go_ret
      exact ⟨rfl, Below.refl _ _⟩
  · have h60 : n ≤ 60 := by omega
    have h120 : m ≤ 120 := by omega
    have HB : Hid (¬ (60 < n ∨ 120 < m)) := hbig
    have HSS : Hid (SAt w ta n ss) := hs
    have HGG : Hid (GAt w ga m gs) := hg
    clear hbig hs hg
    go_enter Tryz.func21, Tryz.ntmps21
    go_wp2
    go_loopw [3] (fun i wr => ∃ k : Nat, k ≤ n ∧ i = .int .i64 k ∧ Hid (tgo [] ss = tAt ss k) ∧ Below w.heap.size w wr) (fun i _ => n - (intOf i).toNat)
    case atStart => exact ⟨0, Nat.zero_le _, rfl, (tAt_zero ss).symm, Below.refl _ _⟩
    case round =>
      obtain ⟨k, hk, rfl, hinv, hbel⟩ := hrel
      have hT1 := (hbel.cell (p := ⟨L, 0, none⟩) hL).trans hT
      have hG1 := (hbel.cell (p := ⟨L, 1, none⟩) hL).trans hG
      by_cases hlt : k < n
      · rcases HSS.out.2 with h0 | ⟨b, off, ha, hb, hc⟩
        · omega
        subst ha
        obtain ⟨s, hs⟩ : ∃ s, s = ss.getD k E0 := ⟨_, rfl⟩
        have hcx := (hbel.cell (p := ⟨b, off + k, none⟩) hb).trans (hc k hlt)
        have hsz := hz k
        rw [← hs] at hcx hsz
        have HS : Hid (s = ss.getD k E0) := hs
        clear hs hc hz
        by_cases hs1 : s.size < 1
        · go_wp2
          go_ret
          exact ⟨ret_int (flt_texts HN.out HM.out HB.out (t_short HN.out hlt HS.out (.inl hs1) hinv.out) (by omega)).symm, hbel⟩
        by_cases hs2 : 300 < s.size
        · go_wp2
          go_ret
          exact ⟨ret_int (flt_texts HN.out HM.out HB.out (t_short HN.out hlt HS.out (.inr hs2) hinv.out) (by omega)).symm, hbel⟩
        have hsd : ∀ j, SAt (wr.drewN j) (some ⟨b, off, none⟩) k (ss.take k) := fun j => ((HSS.out.below hbel (Nat.le_refl _)).take hk).below (Joins.below_draws _ wr j) (Nat.le_refl _)
        have hki : (k : Int) < (n : Int) := by omega
        have hkc : (k : Int) ≤ (tc : Int) := by omega
        have hkm : k ≤ maxLen := by unfold maxLen; omega
        obtain ⟨c, hcn⟩ : ∃ c : Nat, c = num (ss.take k) s := ⟨_, rfl⟩
        have HC : Hid (c = num (ss.take k) s) := hcn
        have hcle : c ≤ 60 := by rw [hcn]; have := num_le (ss.take k) s; simp at this; omega
        have hcall : ∀ (j cap : Nat), Calls Tryz.prog 26 #[.slice (some ⟨b, off, none⟩) k cap, .string s] (wr.drewN j) fun e w' => e = .returned (.int .i64 (c : Nat)) ∧ w' = wr.drewN j := fun j cap => by rw [hcn]; exact l1At_any _ _ _ _ _ _ hkm (hsd j)
        clear hcn hsd
        go_wp2
        go_quiet (first | (go_at_call 26; refine Calls.quiet_of_same (hcall _ _)))
        go_wp2
        · have hpos : 0 < c := by assumption
          go_ret
          exact ⟨ret_int (flt_texts HN.out HM.out HB.out (t_taken HN.out hlt HS.out (by omega) (by rw [← HC.out]; omega) hinv.out) (by omega)).symm, hbel.trans (Joins.below_draws _ _ _)⟩
        · have hpos : ¬ 0 < c := by assumption
          go_roundw
          case rel => exact ⟨k + 1, by omega, by go_num, t_next HN.out hlt HS.out (by omega) (by rw [← HC.out]; omega) hinv.out, hbel.trans (Joins.below_draws _ _ _)⟩
          case measure => simp [intOf]; omega
      · have HT0 : Hid (tgo [] ss = 0) := t_done HN.out hk hlt hinv.out
        clear hinv hz
        go_wp2
        go_loopw [4] (fun i wr => ∃ k : Nat, k ≤ m ∧ i = .int .i64 k ∧ Hid (sgo n [] gs = gAt n gs k) ∧ Below w.heap.size w wr) (fun i _ => m - (intOf i).toNat)
        case atStart => exact ⟨0, Nat.zero_le _, rfl, (gAt_zero n gs).symm, hbel⟩
        case round =>
          clear hT1 hG1 hbel hk hlt
          obtain ⟨k, hk, rfl, hinv, hbel⟩ := hrel
          have hT1 := (hbel.cell (p := ⟨L, 0, none⟩) hL).trans hT
          have hG1 := (hbel.cell (p := ⟨L, 1, none⟩) hL).trans hG
          by_cases hlt : k < m
          · rcases HGG.out.2 with h0 | ⟨b, off, ha, hb, hc⟩
            · omega
            subst ha
            obtain ⟨g, hg⟩ : ∃ g, g = gs.getD k G0 := ⟨_, rfl⟩
            have hcx := hc k hlt
            rw [← hg] at hcx
            obtain ⟨g1, g2⟩ := g
            have c0 := (hbel.cell (p := ⟨b, off + k * 2, none⟩) hb).trans hcx.1
            have c1 := (hbel.cell (p := ⟨b, off + k * 2 + 1, none⟩) hb).trans hcx.2
            have HG : Hid ((g1, g2) = gs.getD k G0) := hg
            clear hg hc hcx
            have hki : (k : Int) < (m : Int) := by omega
            have hLw : L < wr.heap.size := Nat.lt_of_lt_of_le hL hbel.size
            have hbw : b < wr.heap.size := Nat.lt_of_lt_of_le hb hbel.size
            have hkc : (k : Int) ≤ (gc : Int) := by omega
            have hkm : k ≤ maxLen := by unfold maxLen; omega
            have hgd : ∀ j, GAt (wr.drewN j) (some ⟨b, off, none⟩) k (gs.take k) := fun j => ((HGG.out.below hbel (Nat.le_refl _)).take hk).below (Joins.below_draws _ wr j) (Nat.le_refl _)
            by_cases hk1 : inB g1 1 999 = true
            · by_cases hk2 : inB g2 1 n = true
              · go_wp2
                go_quiet (first | (go_at_call 42; refine Calls.quiet_of_same (l1Key_any _ _)) | (go_at_call 43; refine Calls.quiet_of_same (l1In_any _ _ _ _)))
                go_wp2
                go_region_held3 (fun w' => w'.cell? ⟨L, 1, none⟩ = some (.slice (some ⟨b, off, none⟩) m gc) ∧ w'.cell? ⟨b, off + k * 2, none⟩ = some (.int .i64 g1) ∧ w'.cell? ⟨b, off + k * 2 + 1, none⟩ = some (.int .i64 g2)) (go_keep)
                  (first | (go_at_call 44; refine (l1Signed_any _ _ _ _ _ _ _ hkm (hgd _)).mono ?_; rintro e w3 ⟨rfl, hb3⟩; have q1 := (hb3.cell (p := ⟨L, 1, none⟩) hLw).trans hG1; have q2 := (hb3.cell (p := ⟨b, off + k * 2, none⟩) hbw).trans c0; have q3 := (hb3.cell (p := ⟨b, off + k * 2 + 1, none⟩) hbw).trans c1))
                all_goals go_wp2
                · have hmem : memB (gs.take k) (g1, g2) = true := by assumption
                  go_ret
                  exact ⟨ret_int (flt_signs HN.out HM.out HB.out HT0.out (g_taken HM.out hlt HG.out ⟨(inB_true.1 hk1).1, (inB_true.1 hk1).2, (inB_true.1 hk2).1, (inB_true.1 hk2).2⟩ (by simpa [memB] using hmem) hinv.out)).symm, (hbel.trans (Joins.below_draws _ _ _)).trans (hb3.mono hbel.size)⟩
                · have hmem : memB (gs.take k) (g1, g2) = false := by assumption
                  go_roundw
                  case rel => exact ⟨k + 1, by omega, by go_num, g_next HM.out hlt HG.out ⟨(inB_true.1 hk1).1, (inB_true.1 hk1).2, (inB_true.1 hk2).1, (inB_true.1 hk2).2⟩ (by simpa [memB] using hmem) hinv.out, (hbel.trans (Joins.below_draws _ _ _)).trans (hb3.mono hbel.size)⟩
                  case measure => simp [intOf]; omega
              · have hk2' : inB g2 1 n = false := by simpa using hk2
                clear hk2
                go_wp2
                go_quiet (first | (go_at_call 42; refine Calls.quiet_of_same (l1Key_any _ _)) | (go_at_call 43; refine Calls.quiet_of_same (l1In_any _ _ _ _)))
                go_wp2
                go_ret
                exact ⟨ret_int (flt_signs HN.out HM.out HB.out HT0.out (g_range HM.out hlt HG.out (fun e => inB_false.1 hk2' ⟨e.2.2.1, e.2.2.2⟩) hinv.out)).symm, hbel.trans (Joins.below_draws _ _ _)⟩
            · have hk1' : inB g1 1 999 = false := by simpa using hk1
              clear hk1
              go_wp2
              go_quiet (first | (go_at_call 42; refine Calls.quiet_of_same (l1Key_any _ _)) | (go_at_call 43; refine Calls.quiet_of_same (l1In_any _ _ _ _)))
              go_wp2
              go_ret
              exact ⟨ret_int (flt_signs HN.out HM.out HB.out HT0.out (g_range HM.out hlt HG.out (fun e => inB_false.1 hk1' ⟨e.1, e.2.1⟩) hinv.out)).symm, hbel.trans (Joins.below_draws _ _ _)⟩
          · go_wp2
            go_ret
            exact ⟨ret_int (flt_signs HN.out HM.out HB.out HT0.out (g_done HM.out hk hlt hinv.out)).symm, hbel⟩

end Go.Proofs.YtacjgnefomdoaaaGreatDoor

namespace Go.Proofs.YtacjgnefomdoaaaGreatDoor
open Go.RowKit Go.Maps

def SzS (n : Nat) (ss : List ByteArray) (left r : Int) : Prop := r = -1 ∨ 0 ≤ r ∧ r ≤ left ∧ (n : Int) ≤ left ∧ ∀ j, j < n → ((ss.getD j E0).size : Int) ≤ left
def SzG (n : Nat) (left r : Int) : Prop := r = -1 ∨ 0 ≤ r ∧ r ≤ left ∧ (n : Int) ≤ left

set_option maxHeartbeats 400000 in
theorem szS_any (a : Option Addr) (n cap : Nat) (ss : List ByteArray) (left : Int) (w : World) (h0 : 0 ≤ left) (h1 : left ≤ 1048576) (hl : n ≤ maxLen) (hz : ∀ j, (ss.getD j E0).size ≤ maxLen) (hs : SAt w a n ss) :
    Calls Tryz.prog 16 #[.slice a n cap, .int .i64 left] w fun e w' => ∃ r : Int, e = .returned (.int .i64 r) ∧ w' = w ∧ SzS n ss left r := by
  unfold maxLen at hl hz
  obtain ⟨hn, hs⟩ := hs
  clear hn
  rcases hs with rfl | ⟨b, off, rfl, hb, hc⟩
  · go_enter Tryz.func16, Tryz.ntmps16
    go_wp2
    refine wp_loop_rounds 1 ?_
    rw [rounds_succ]
    go_wp2
    go_ret
    exact ⟨_, rfl, rfl, Or.inr ⟨by omega, by omega, by omega, fun j hj => by omega⟩⟩
  · by_cases hn : left < n
    · go_enter Tryz.func16, Tryz.ntmps16
      go_wp2
      go_ret
      exact ⟨_, rfl, rfl, Or.inl rfl⟩
    · go_enter Tryz.func16, Tryz.ntmps16
      go_wp2
      go_loop [1, 5] (fun v i => ∃ k : Nat, k ≤ n ∧ i = .int .i64 k ∧ ∃ l : Int, v = .int .i64 l ∧ 0 ≤ l ∧ l ≤ left - n ∧ ∀ j, j < k → ((ss.getD j E0).size : Int) ≤ left) (fun _ i => n - (intOf i).toNat)
      case atStart => exact ⟨0, Nat.zero_le _, rfl, _, rfl, by omega, by omega, fun j hj => by omega⟩
      case round =>
        obtain ⟨k, hk, rfl, l, rfl, hl0, hl1, hj⟩ := hrel
        by_cases hlt : k < n
        · obtain ⟨s, hs⟩ : ∃ s, s = ss.getD k E0 := ⟨_, rfl⟩
          have hcx := hc k hlt
          have hsz := hz k
          rw [← hs] at hcx hsz
          have HS : Hid (s = ss.getD k E0) := hs
          have HJ : Hid (∀ j, j < k → ((ss.getD j E0).size : Int) ≤ left) := hj
          clear hs hj hc hz
          by_cases hneg : l < s.size
          · go_wp2
            go_ret
            exact ⟨_, rfl, rfl, Or.inl rfl⟩
          · go_wp2
            go_round
            case rel =>
              refine ⟨k + 1, by omega, by go_num, _, rfl, by omega, by omega, fun j hj => ?_⟩
              by_cases e : j = k
              · subst e; rw [← HS.out]; omega
              · exact HJ.out j (by omega)
            case measure => simp [intOf]; omega
        · go_wp2
          go_ret
          exact ⟨_, rfl, rfl, Or.inr ⟨hl0, by omega, by omega, fun j h => hj j (by omega)⟩⟩

theorem szG_any (a : Option Addr) (n cap : Nat) (left : Int) (w : World) (h0 : 0 ≤ left) (h1 : left ≤ 1048576) (hl : n ≤ maxLen) :
    Calls Tryz.prog 17 #[.slice a n cap, .int .i64 left] w fun e w' => ∃ r : Int, e = .returned (.int .i64 r) ∧ w' = w ∧ SzG n left r := by
  unfold maxLen at hl
  by_cases hn : left < n
  · go_enter Tryz.func17, Tryz.ntmps17
    go_wp2
    go_ret
    exact ⟨_, rfl, rfl, Or.inl rfl⟩
  · go_enter Tryz.func17, Tryz.ntmps17
    go_wp2
    go_ret
    exact ⟨_, rfl, rfl, Or.inr ⟨by omega, by omega, by omega⟩⟩

end Go.Proofs.YtacjgnefomdoaaaGreatDoor

namespace Go.Proofs.YtacjgnefomdoaaaGreatDoor
open Go.RowKit Go.Maps

theorem all_texts {xs : List Value} {ss : List ByteArray} {n : Nat} (hn : ss.length = n) (hl : xs.length = n * 1) (h : ∀ j, j < n → xs[j]? = some (.string (ss.getD j E0))) : xs = ss.map Value.string := by
  apply List.ext_getElem?
  intro j
  by_cases hj : j < n
  · rw [h j hj]; simp [List.getD, show j < ss.length by omega]
  · rw [List.getElem?_eq_none (by omega), List.getElem?_eq_none (by simp; omega)]

theorem all_signs {xs : List Value} {gs : List (Int × Int)} {n : Nat} (hn : gs.length = n) (hl : xs.length = n * 2) (h : ∀ j, j < n → xs[j * 2]? = some (.int .i64 (gs.getD j G0).1) ∧ xs[j * 2 + 1]? = some (.int .i64 (gs.getD j G0).2)) : xs = gcells gs := by
  apply List.ext_getElem?
  intro j
  by_cases hj : j < n * 2
  · have h1 := h (j / 2) (by omega)
    have h2 := gcells_at gs (j / 2) (by omega)
    rcases Nat.mod_two_eq_zero_or_one j with e | e
    · rw [show j = j / 2 * 2 by omega, h1.1, h2.1]
    · rw [show j = j / 2 * 2 + 1 by omega, h1.2, h2.2]
  · rw [List.getElem?_eq_none (by omega), List.getElem?_eq_none (by rw [gcells_length]; omega)]

set_option maxHeartbeats 400000 in
theorem toS_any (a : Option Addr) (n cap : Nat) (ss : List ByteArray) (w : World) (hl : n ≤ 1048576) (hs : SAt w a n ss) :
    Calls Tryz.prog 28 #[.slice a n cap] w fun e w' => ∃ g c, e = .returned (.slice (some ⟨g, 0, none⟩) n c) ∧ w'.ownsRow w.heap.size 9 1 (.slice (some ⟨g, 0, none⟩) n c) n (ss.map Value.string) ∧ Below w.heap.size w w' := by
  have HN : Hid (ss.length = n) := hs.1
  have HSS : Hid (SAt w a n ss) := hs
  clear hs
  obtain ⟨i0, hi, hz0, hz1, hz2⟩ := info_parts Tryz.infoStr
  have hml : n ≤ maxLen := by unfold maxLen; omega
  go_enter Tryz.func28, Tryz.ntmps28
  go_wp2_with (first | (at_make; refine wpList_make_full _ rfl _ _ 22 rfl w.heap.size 9 i0 (.string ByteArray.empty) 1 Tryz.underlying22 hi hz0 hz1 _ _ _ _ n rfl rfl (by omega) (by omega) (by rw [hz2]; omega) hml (Nat.le_refl _) ?_; intro w1 ho1 hg1))
  have hb1 : Below w.heap.size w w1 := (Below.refl _ _).grown hg1 (Nat.le_refl _) (fun k h => by cases h)
  go_loopw [4] (fun i wr => ∃ k : Nat, k ≤ n ∧ i = .int .i64 k ∧ Below w.heap.size w wr ∧ Hid (∃ xs, wr.ownsRow w.heap.size 9 1 (.slice (some ⟨w.heap.size, 0, none⟩) n n) n xs ∧ ∀ j, j < k → xs[j]? = some (.string (ss.getD j E0)))) (fun i _ => n - (intOf i).toNat)
  case atStart => exact ⟨0, Nat.zero_le _, rfl, hb1, _, ho1, fun j hj => by omega⟩
  case round =>
    obtain ⟨k, hk, rfl, hbel, HX⟩ := hrel
    clear ho1 hg1 hb1
    by_cases hlt : k < n
    · rcases HSS.out.2 with h0 | ⟨b, off, ha, hb, hc⟩
      · omega
      subst ha
      obtain ⟨s, hs⟩ : ∃ s, s = ss.getD k E0 := ⟨_, rfl⟩
      have hcx := (hbel.cell (p := ⟨b, off + k, none⟩) hb).trans (hc k hlt)
      rw [← hs] at hcx
      have HS : Hid (s = ss.getD k E0) := hs
      clear hs hc
      obtain ⟨xs, hown, hxs⟩ := HX.out
      have hxl : xs.length = n * 1 := hown.1
      obtain ⟨v, hv⟩ : ∃ v, xs[k]? = some v := ⟨_, List.getElem?_eq_getElem (by omega)⟩
      have cg : wr.cell? ⟨w.heap.size, k, none⟩ = some v := (hown.cellAt k (by omega)).trans hv
      have fg : wr.frozen? ⟨w.heap.size, k, none⟩ = false := hown.frozenAt k
      have HX2 : Hid (∃ xs, (wr.setCell ⟨w.heap.size, k, none⟩ (.string s)).ownsRow w.heap.size 9 1 (.slice (some ⟨w.heap.size, 0, none⟩) n n) n xs ∧ ∀ j, j < k + 1 → xs[j]? = some (.string (ss.getD j E0))) := by
        refine ⟨_, (hown.stored k (.string s)).1, fun j hj => ?_⟩
        by_cases e : k = j
        · subst e
          rw [List.getElem?_set_self (by omega), HS.out]
        · rw [List.getElem?_set_ne e, hxs j (by omega)]
      clear hown hxs hv hxl HX
      go_wp2
      go_roundw
      case rel => exact ⟨k + 1, by omega, by go_num, hbel.setCell (Nat.le_refl _) _, HX2⟩
      case measure => simp [intOf]; omega
    · go_wp2
      go_ret
      obtain ⟨xs, hown, hxs⟩ := HX.out
      refine ⟨_, _, rfl, ?_, hbel⟩
      rw [← all_texts HN.out hown.1 (fun j hj => hxs j (by omega))]
      exact hown

theorem toSign_any (a b : Int) (w : World) : Calls Tryz.prog 57 #[.agg #[.int .i64 a, .int .i64 b]] w fun e w' => e = .returned (.agg #[.int .i64 a, .int .i64 b]) ∧ Below w.heap.size w w' := by
  go_enter Tryz.func57, Tryz.ntmps57
  go_wp2
  refine bodyPost_ret (v := .agg #[.int .i64 a, .int .i64 b]) (by simp [results, Tryz.results57, go_sem]) rfl ⟨rfl, ?_⟩
  exact (((Below.refl _ _).alloc (Nat.le_refl _) _).alloc (by simp) _).alloc (by simp; omega) _

end Go.Proofs.YtacjgnefomdoaaaGreatDoor

namespace Go.Proofs.YtacjgnefomdoaaaGreatDoor
open Go.RowKit Go.Maps

/-- What a round of the signatures' copy leaves. -/
theorem toG_round {wr w2 : World} {B n k : Nat} {gs : List (Int × Int)} {g1 g2 : Int} (hg : (g1, g2) = gs.getD k G0) (hlt : k < n)
    (h : ∃ xs, wr.ownsRow B 108 2 (.slice (some ⟨B, 0, none⟩) n n) n xs ∧ ∀ j, j < k → xs[j * 2]? = some (.int .i64 (gs.getD j G0).1) ∧ xs[j * 2 + 1]? = some (.int .i64 (gs.getD j G0).2)) (hb : Below wr.heap.size wr w2) :
    ∃ u0 u1, w2.cell? ⟨B, k * 2, none⟩ = some u0 ∧ w2.cell? ⟨B, k * 2 + 1, none⟩ = some u1 ∧ w2.frozen? ⟨B, k * 2, none⟩ = false ∧ w2.frozen? ⟨B, k * 2 + 1, none⟩ = false ∧
      Hid (∃ xs, ((w2.setCell ⟨B, k * 2, none⟩ (.int .i64 g1)).setCell ⟨B, k * 2 + 1, none⟩ (.int .i64 g2)).ownsRow B 108 2 (.slice (some ⟨B, 0, none⟩) n n) n xs ∧ ∀ j, j < k + 1 → xs[j * 2]? = some (.int .i64 (gs.getD j G0).1) ∧ xs[j * 2 + 1]? = some (.int .i64 (gs.getD j G0).2)) := by
  obtain ⟨xs, hown0, hxs⟩ := h
  have hown := hown0.kept (w' := w2) (row := none) ⟨hb.os, hb.tape, hb.output, hb.size, fun k hk _ => hb.block k hk⟩ (by simp [Value.ownBlock])
  have hxl := hown.1
  have r1 := (hown.stored (k * 2) (.int .i64 g1)).1
  have r2 := (r1.stored (k * 2 + 1) (.int .i64 g2)).1
  refine ⟨_, _, (hown.cellAt (k * 2) (by omega)).trans (List.getElem?_eq_getElem (by omega)), (hown.cellAt (k * 2 + 1) (by omega)).trans (List.getElem?_eq_getElem (by omega)), hown.frozenAt _, hown.frozenAt _, _, r2, fun j hj => ?_⟩
  by_cases e : k = j
  · subst e
    rw [← hg]
    constructor
    · rw [List.getElem?_set_ne (by omega), List.getElem?_set_self (by omega)]
    · rw [List.getElem?_set_self (by simp; omega)]
  · have := hxs j (by omega)
    constructor
    · rw [List.getElem?_set_ne (by omega), List.getElem?_set_ne (by omega)]; exact this.1
    · rw [List.getElem?_set_ne (by omega), List.getElem?_set_ne (by omega)]; exact this.2

set_option maxHeartbeats 400000 in
theorem toG_any (a : Option Addr) (n cap : Nat) (gs : List (Int × Int)) (w : World) (hl : n ≤ 1048576) (hs : GAt w a n gs) :
    Calls Tryz.prog 29 #[.slice a n cap] w fun e w' => ∃ g c, e = .returned (.slice (some ⟨g, 0, none⟩) n c) ∧ w'.ownsRow w.heap.size 108 2 (.slice (some ⟨g, 0, none⟩) n c) n (gcells gs) ∧ Below w.heap.size w w' := by
  have HN : Hid (gs.length = n) := hs.1
  have HSS : Hid (GAt w a n gs) := hs
  clear hs
  obtain ⟨i0, hi, hz0, hz1, hz2⟩ := info_parts Tryz.infoSig
  have hml : n ≤ maxLen := by unfold maxLen; omega
  go_enter Tryz.func29, Tryz.ntmps29
  go_wp2_with (first | (at_make; refine wpList_make_full _ rfl _ _ 37 rfl w.heap.size 108 i0 (.agg #[.int .i64 0, .int .i64 0]) 2 Tryz.underlying37 hi hz0 hz1 _ _ _ _ n rfl rfl (by omega) (by omega) (by rw [hz2]; omega) hml (Nat.le_refl _) ?_; intro w1 ho1 hg1))
  have hb1 : Below w.heap.size w w1 := (Below.refl _ _).grown hg1 (Nat.le_refl _) (fun k h => by cases h)
  go_loopw [4] (fun i wr => ∃ k : Nat, k ≤ n ∧ i = .int .i64 k ∧ Below w.heap.size w wr ∧ Hid (∃ xs, wr.ownsRow w.heap.size 108 2 (.slice (some ⟨w.heap.size, 0, none⟩) n n) n xs ∧ ∀ j, j < k → xs[j * 2]? = some (.int .i64 (gs.getD j G0).1) ∧ xs[j * 2 + 1]? = some (.int .i64 (gs.getD j G0).2))) (fun i _ => n - (intOf i).toNat)
  case atStart => exact ⟨0, Nat.zero_le _, rfl, hb1, _, ho1, fun j hj => by omega⟩
  case round =>
    obtain ⟨k, hk, rfl, hbel, HX⟩ := hrel
    clear ho1 hg1 hb1
    by_cases hlt : k < n
    · rcases HSS.out.2 with h0 | ⟨b, off, ha, hb, hc⟩
      · omega
      subst ha
      obtain ⟨g, hg⟩ : ∃ g, g = gs.getD k G0 := ⟨_, rfl⟩
      have hcx := hc k hlt
      rw [← hg] at hcx
      obtain ⟨g1, g2⟩ := g
      have c0 := (hbel.cell (p := ⟨b, off + k * 2, none⟩) hb).trans hcx.1
      have c1 := (hbel.cell (p := ⟨b, off + k * 2 + 1, none⟩) hb).trans hcx.2
      have HG : Hid ((g1, g2) = gs.getD k G0) := hg
      clear hg hc hcx
      go_wp2_with (first | (go_at_call 57; refine (toSign_any _ _ _).mono ?_; rintro e w2 ⟨rfl, hb2⟩; obtain ⟨u0, u1, cg0, cg1, fg0, fg1, HX2⟩ := toG_round HG.out hlt HX.out hb2))
      go_roundw
      case rel => exact ⟨k + 1, by omega, by go_num, ((hbel.trans (hb2.mono hbel.size)).setCell (Nat.le_refl _) _).setCell (Nat.le_refl _) _, HX2⟩
      case measure => simp [intOf]; omega
    · go_wp2
      go_ret
      obtain ⟨xs, hown, hxs⟩ := HX.out
      refine ⟨_, _, rfl, ?_, hbel⟩
      rw [← all_signs HN.out hown.1 (fun j hj => hxs j (by omega))]
      exact hown

set_option maxHeartbeats 400000 in
theorem eqS_any (a b : Option Addr) (n c1 c2 : Nat) (ss : List ByteArray) (w : World) (hl : n ≤ 1048576) (ha : SAt w a n ss) (hb : SAt w b n ss) :
    Calls Tryz.prog 36 #[.slice a n c1, .slice b n c2] w fun e w' => e = .returned (.bool true) ∧ Below w.heap.size w w' := by
  have HA : Hid (SAt w a n ss) := ha
  have HB : Hid (SAt w b n ss) := hb
  clear ha hb
  go_enter Tryz.func36, Tryz.ntmps36
  go_wp2
  go_loopw [5] (fun i wr => ∃ k : Nat, k ≤ n ∧ i = .int .i64 k ∧ Below w.heap.size w wr) (fun i _ => n - (intOf i).toNat)
  case atStart => exact ⟨0, Nat.zero_le _, rfl, Below.refl _ _⟩
  case round =>
    obtain ⟨k, hk, rfl, hbel⟩ := hrel
    by_cases hlt : k < n
    · rcases HA.out.2 with h0 | ⟨b0, o0, e0, l0, d0⟩
      · omega
      subst e0
      rcases HB.out.2 with h0 | ⟨b1, o1, e1, l1, d1⟩
      · omega
      subst e1
      obtain ⟨s, hs⟩ : ∃ s, s = ss.getD k E0 := ⟨_, rfl⟩
      have x0 := (hbel.cell (p := ⟨b0, o0 + k, none⟩) l0).trans (d0 k hlt)
      have x1 := (hbel.cell (p := ⟨b1, o1 + k, none⟩) l1).trans (d1 k hlt)
      rw [← hs] at x0 x1
      clear hs d0 d1
      have hki : (k : Int) < (n : Int) := by omega
      go_wp2
      go_quiet (fail)
      go_wp2
      go_roundw
      case rel => exact ⟨k + 1, by omega, by go_num, hbel.trans (Joins.below_draws _ _ _)⟩
      case measure => simp [intOf]; omega
    · go_wp2
      go_ret
      exact ⟨rfl, hbel⟩

theorem eqSign_any (a b : Int) (w : World) : Calls Tryz.prog 69 #[.agg #[.int .i64 a, .int .i64 b], .agg #[.int .i64 a, .int .i64 b]] w fun e w' => e = .returned (.bool true) ∧ Below w.heap.size w w' := by
  go_enter Tryz.func69, Tryz.ntmps69
  go_wp2
  go_ret
  exact ⟨rfl, ((Below.refl _ _).alloc (Nat.le_refl _) _).alloc (by simp) _⟩

end Go.Proofs.YtacjgnefomdoaaaGreatDoor

namespace Go.Proofs.YtacjgnefomdoaaaGreatDoor
open Go.RowKit Go.Maps

set_option maxHeartbeats 400000 in
theorem eqG_any (a b : Option Addr) (n c1 c2 : Nat) (gs : List (Int × Int)) (w : World) (hl : n ≤ 1048576) (ha : GAt w a n gs) (hb : GAt w b n gs) :
    Calls Tryz.prog 37 #[.slice a n c1, .slice b n c2] w fun e w' => e = .returned (.bool true) ∧ Below w.heap.size w w' := by
  have HA : Hid (GAt w a n gs) := ha
  have HB : Hid (GAt w b n gs) := hb
  clear ha hb
  go_enter Tryz.func37, Tryz.ntmps37
  go_wp2
  go_loopw [5] (fun i wr => ∃ k : Nat, k ≤ n ∧ i = .int .i64 k ∧ Below w.heap.size w wr) (fun i _ => n - (intOf i).toNat)
  case atStart => exact ⟨0, Nat.zero_le _, rfl, Below.refl _ _⟩
  case round =>
    obtain ⟨k, hk, rfl, hbel⟩ := hrel
    by_cases hlt : k < n
    · rcases HA.out.2 with h0 | ⟨b0, o0, e0, l0, d0⟩
      · omega
      subst e0
      rcases HB.out.2 with h0 | ⟨b1, o1, e1, l1, d1⟩
      · omega
      subst e1
      obtain ⟨g, hg⟩ : ∃ g, g = gs.getD k G0 := ⟨_, rfl⟩
      have y0 := d0 k hlt
      have y1 := d1 k hlt
      rw [← hg] at y0 y1
      obtain ⟨g1, g2⟩ := g
      have x0 := (hbel.cell (p := ⟨b0, o0 + k * 2, none⟩) l0).trans y0.1
      have x1 := (hbel.cell (p := ⟨b0, o0 + k * 2 + 1, none⟩) l0).trans y0.2
      have x2 := (hbel.cell (p := ⟨b1, o1 + k * 2, none⟩) l1).trans y1.1
      have x3 := (hbel.cell (p := ⟨b1, o1 + k * 2 + 1, none⟩) l1).trans y1.2
      clear hg d0 d1 y0 y1
      have hki : (k : Int) < (n : Int) := by omega
      have hw0 : b0 < wr.heap.size := Nat.lt_of_lt_of_le l0 hbel.size
      have hw1 : b1 < wr.heap.size := Nat.lt_of_lt_of_le l1 hbel.size
      have hcall : ∀ j, Calls Tryz.prog 69 #[.agg #[.int .i64 g1, .int .i64 g2], .agg #[.int .i64 g1, .int .i64 g2]] (wr.drewN j) fun e w' => e = .returned (.bool true) ∧ Below wr.heap.size wr w' := fun j => (eqSign_any g1 g2 _).mono fun e w' h => ⟨h.1, (Joins.below_draws _ wr j).trans h.2⟩
      go_wp2
      go_region_held3 (fun w' => w'.cell? ⟨b0, o0 + k * 2, none⟩ = some (.int .i64 g1) ∧ w'.cell? ⟨b0, o0 + k * 2 + 1, none⟩ = some (.int .i64 g2) ∧ w'.cell? ⟨b1, o1 + k * 2, none⟩ = some (.int .i64 g1) ∧ w'.cell? ⟨b1, o1 + k * 2 + 1, none⟩ = some (.int .i64 g2)) (go_keep)
        (first | (go_at_call 69; refine (hcall 1).mono ?_; rintro e w3 ⟨rfl, hb3⟩; have z0 := (hb3.cell (p := ⟨b0, o0 + k * 2, none⟩) hw0).trans x0; have z1 := (hb3.cell (p := ⟨b0, o0 + k * 2 + 1, none⟩) hw0).trans x1; have z2 := (hb3.cell (p := ⟨b1, o1 + k * 2, none⟩) hw1).trans x2; have z3 := (hb3.cell (p := ⟨b1, o1 + k * 2 + 1, none⟩) hw1).trans x3))
      go_wp2
      go_roundw
      case rel => exact ⟨k + 1, by omega, by go_num, hbel.trans (hb3.mono hbel.size)⟩
      case measure => simp [intOf]; omega
    · go_wp2
      go_ret
      exact ⟨rfl, hbel⟩

/-- What is known of a ledger that came in: its texts and its signatures. -/
structure LedAt (w : World) (ta : Option Addr) (n : Nat) (ga : Option Addr) (m : Nat) (ss : List ByteArray) (gs : List (Int × Int)) : Prop where
  s : SAt w ta n ss
  g : GAt w ga m gs

theorem LedAt.below {w w' : World} {ta ga : Option Addr} {n m : Nat} {ss : List ByteArray} {gs : List (Int × Int)} (h : LedAt w ta n ga m ss gs) {B : Nat} (hb : Below B w w') (hB : w.heap.size ≤ B) : LedAt w' ta n ga m ss gs :=
  ⟨h.s.below hb hB, h.g.below hb hB⟩

theorem below_box {w : World} (o : Obj) : Below w.heap.size w (w.alloc o) := (Below.refl _ _).alloc (Nat.le_refl _) _
theorem below_box2 {w : World} (o o' : Obj) : Below w.heap.size w ((w.alloc o).alloc o') := (below_box o).alloc (by simp) _
theorem below_box3 {w : World} (o o' o2 : Obj) : Below w.heap.size w (((w.alloc o).alloc o').alloc o2) := (below_box2 o o').alloc (by simp; omega) _

theorem block_at2 {w : World} {o o' : Obj} : ((w.alloc o).alloc o').heap[w.heap.size]? = some o := (Below.heap_alloc _ _ _ (by simp)).trans (heap_alloc_new w o)

set_option maxHeartbeats 400000 in
theorem eqL_any (a0 g0 a1 g1 : Option Addr) (n m c0 c1 d0 d1 : Nat) (ss : List ByteArray) (gs : List (Int × Int)) (w : World) (hl : n ≤ 1048576) (hm : m ≤ 1048576) (h0 : LedAt w a0 n g0 m ss gs) (h1 : LedAt w a1 n g1 m ss gs) :
    Calls Tryz.prog 13 #[.agg #[.slice a0 n c0, .slice g0 m d0], .agg #[.slice a1 n c1, .slice g1 m d1]] w fun e w' => e = .returned (.bool true) ∧ Below w.heap.size w w' := by
  have hbx : Below w.heap.size w ((w.alloc (.cells #[.slice a0 n c0, .slice g0 m d0] 39)).alloc (.cells #[.slice a1 n c1, .slice g1 m d1] 39)) := below_box2 _ _
  have hS := eqS_any a0 a1 n c0 c1 ss _ hl (h0.s.below hbx (Nat.le_refl _)) (h1.s.below hbx (Nat.le_refl _))
  have HBX : Hid (Below w.heap.size w ((w.alloc (.cells #[.slice a0 n c0, .slice g0 m d0] 39)).alloc (.cells #[.slice a1 n c1, .slice g1 m d1] 39))) := hbx
  have H0 : Hid (LedAt w a0 n g0 m ss gs) := h0
  have H1 : Hid (LedAt w a1 n g1 m ss gs) := h1
  clear hbx h0 h1
  go_enter Tryz.func13, Tryz.ntmps13
  go_wp2_with (first
    | (go_at_call 36; refine hS.mono ?_; rintro e w2 ⟨rfl, hb2⟩; have q0 : w2.cell? ⟨w.heap.size, 1, none⟩ = some (.slice g0 m d0) := (hb2.cell (p := ⟨w.heap.size, 1, none⟩) (by simp; omega)).trans (by simp); have q1 : w2.cell? ⟨w.heap.size + 1, 1, none⟩ = some (.slice g1 m d1) := (hb2.cell (p := ⟨w.heap.size + 1, 1, none⟩) (by simp)).trans (by simp); have hbw : Below w.heap.size w w2 := HBX.out.trans (hb2.mono (by simp; omega)))
    | (go_at_call 37; refine (eqG_any g0 g1 m d0 d1 gs _ hm (H0.out.g.below hbw (Nat.le_refl _)) (H1.out.g.below hbw (Nat.le_refl _))).mono ?_; rintro e w3 ⟨rfl, hb3⟩))
  go_ret
  exact ⟨rfl, hbw.trans (hb3.mono hbw.size)⟩

/-- A ledger's copy: two slices of new memory. -/
def OwnL (w : World) (base n m : Nat) (ss : List ByteArray) (gs : List (Int × Int)) (g0 k0 g1 k1 : Nat) : Prop :=
  w.ownsRow base 9 1 (.slice (some ⟨g0, 0, none⟩) n k0) n (ss.map Value.string) ∧ w.ownsRow base 108 2 (.slice (some ⟨g1, 0, none⟩) m k1) m (gcells gs)

theorem OwnL.led {w : World} {base n m : Nat} {ss : List ByteArray} {gs : List (Int × Int)} {g0 k0 g1 k1 : Nat} (h : OwnL w base n m ss gs g0 k0 g1 k1) (hn : ss.length = n) (hm : gs.length = m) : LedAt w (some ⟨g0, 0, none⟩) n (some ⟨g1, 0, none⟩) m ss gs :=
  ⟨SAt.owned h.1 hn, GAt.owned h.2 hm⟩

theorem OwnL.below {w w' : World} {base n m : Nat} {ss : List ByteArray} {gs : List (Int × Int)} {g0 k0 g1 k1 : Nat} (h : OwnL w base n m ss gs g0 k0 g1 k1) (hb : Below w.heap.size w w') : OwnL w' base n m ss gs g0 k0 g1 k1 := by
  have hg : w.grownBy w' none := ⟨hb.os, hb.tape, hb.output, hb.size, fun k hk _ => hb.block k hk⟩
  exact ⟨h.1.kept hg (by simp [Value.ownBlock]), h.2.kept hg (by simp [Value.ownBlock])⟩

theorem OwnL.caps {w : World} {base n m : Nat} {ss : List ByteArray} {gs : List (Int × Int)} {g0 k0 g1 k1 : Nat} (h : OwnL w base n m ss gs g0 k0 g1 k1) : n ≤ k0 ∧ m ≤ k1 ∧ k0 ≤ maxLen ∧ k1 ≤ maxLen := by
  rcases h.1.2 with ⟨e, _⟩ | ⟨_, _, _, e, _, _, h1, h2, _⟩
  · cases e
  rcases h.2.2 with ⟨e', _⟩ | ⟨_, _, _, e', _, _, h3, h4, _⟩
  · cases e'
  simp at e e'
  omega

/-- The three blocks that a ledger's copy lays. -/
theorem three_blocks (w : World) (o o' o2 : Obj) : (((w.alloc o).alloc o').alloc o2).heap[w.heap.size]? = some o ∧ (((w.alloc o).alloc o').alloc o2).heap[w.heap.size + 1]? = some o' ∧ (((w.alloc o).alloc o').alloc o2).heap[w.heap.size + 1 + 1]? = some o2 ∧ (((w.alloc o).alloc o').alloc o2).heap.size = w.heap.size + 1 + 1 + 1 := by
  refine ⟨(Below.heap_alloc _ _ _ (by simp; omega)).trans block_at2, ?_, ?_, by simp⟩
  · have := Below.heap_alloc ((w.alloc o).alloc o') o2 (w.heap.size + 1) (by simp)
    rw [this, show w.heap.size + 1 = (w.alloc o).heap.size by simp]
    exact heap_alloc_new _ _
  · rw [show w.heap.size + 1 + 1 = ((w.alloc o).alloc o').heap.size by simp]
    exact heap_alloc_new _ _

/-- Behind the texts' copy. -/
def ToL1 (w w2 : World) (ga : Option Addr) (n m : Nat) (ss : List ByteArray) (gs : List (Int × Int)) (g0 k0 : Nat) : Prop :=
  GAt (w2.setCell ⟨w.heap.size + 1 + 1, 0, none⟩ (.slice (some ⟨g0, 0, none⟩) n k0)) ga m gs ∧
  (w2.setCell ⟨w.heap.size + 1 + 1, 0, none⟩ (.slice (some ⟨g0, 0, none⟩) n k0)).heap[w.heap.size + 1]? = some (.cells #[.slice none 0 0, .slice none 0 0] 39 (0, 0)) ∧
  (w2.setCell ⟨w.heap.size + 1 + 1, 0, none⟩ (.slice (some ⟨g0, 0, none⟩) n k0)).heap[w.heap.size + 1 + 1]? = some (.cells #[.slice (some ⟨g0, 0, none⟩) n k0, .slice none 0 0] 39 (0, 0)) ∧
  w.heap.size + 1 + 1 < w2.heap.size ∧ Below w.heap.size w (w2.setCell ⟨w.heap.size + 1 + 1, 0, none⟩ (.slice (some ⟨g0, 0, none⟩) n k0)) ∧
  (w2.setCell ⟨w.heap.size + 1 + 1, 0, none⟩ (.slice (some ⟨g0, 0, none⟩) n k0)).ownsRow (w.heap.size + 1 + 1 + 1) 9 1 (.slice (some ⟨g0, 0, none⟩) n k0) n (ss.map Value.string)

theorem toL_one {w w2 : World} {ta ga : Option Addr} {n m tc gc g0 k0 : Nat} {ss : List ByteArray} {gs : List (Int × Int)} (h : LedAt w ta n ga m ss gs)
    (ho : w2.ownsRow (((w.alloc (.cells #[.slice ta n tc, .slice ga m gc] 25)).alloc (.cells #[.slice none 0 0, .slice none 0 0] 39)).alloc (.cells #[.slice none 0 0, .slice none 0 0] 39)).heap.size 9 1 (.slice (some ⟨g0, 0, none⟩) n k0) n (ss.map Value.string))
    (hb : Below (((w.alloc (.cells #[.slice ta n tc, .slice ga m gc] 25)).alloc (.cells #[.slice none 0 0, .slice none 0 0] 39)).alloc (.cells #[.slice none 0 0, .slice none 0 0] 39)).heap.size (((w.alloc (.cells #[.slice ta n tc, .slice ga m gc] 25)).alloc (.cells #[.slice none 0 0, .slice none 0 0] 39)).alloc (.cells #[.slice none 0 0, .slice none 0 0] 39)) w2) :
    w2.cell? ⟨w.heap.size, 0, none⟩ = some (.slice ta n tc) ∧ w2.cell? ⟨w.heap.size, 1, none⟩ = some (.slice ga m gc) ∧
    w2.cell? ⟨w.heap.size + 1, 0, none⟩ = some (.slice none 0 0) ∧ w2.cell? ⟨w.heap.size + 1, 1, none⟩ = some (.slice none 0 0) ∧ w2.frozen? ⟨w.heap.size + 1, 0, none⟩ = false ∧ w2.frozen? ⟨w.heap.size + 1, 1, none⟩ = false ∧
    w2.cell? ⟨w.heap.size + 1 + 1, 0, none⟩ = some (.slice none 0 0) ∧ w2.cell? ⟨w.heap.size + 1 + 1, 1, none⟩ = some (.slice none 0 0) ∧ w2.frozen? ⟨w.heap.size + 1 + 1, 0, none⟩ = false ∧ w2.frozen? ⟨w.heap.size + 1 + 1, 1, none⟩ = false ∧
    Hid (ToL1 w w2 ga n m ss gs g0 k0) := by
  obtain ⟨t0, t1, t2, t3⟩ := three_blocks w (.cells #[.slice ta n tc, .slice ga m gc] 25) (.cells #[.slice none 0 0, .slice none 0 0] 39) (.cells #[.slice none 0 0, .slice none 0 0] 39)
  have hbw : Below w.heap.size w w2 := (below_box3 _ _ _).trans (hb.mono (by rw [t3]; omega))
  have hsz := hb.size
  rw [t3] at hb hsz ho
  obtain ⟨a0, a1, _, _, _⟩ := res_cells t0 hb (by omega)
  obtain ⟨b0, b1, b2, b3, HB⟩ := res_cells t1 hb (by omega)
  obtain ⟨c0, c1, c2, c3, HC⟩ := res_cells t2 hb (by omega)
  have hbs := hbw.setCell (p := ⟨w.heap.size + 1 + 1, 0, none⟩) (show w.heap.size ≤ w.heap.size + 1 + 1 by omega) (.slice (some ⟨g0, 0, none⟩) n k0)
  refine ⟨a0, a1, b0, b1, b2, b3, c0, c1, c2, c3, h.g.below hbs (Nat.le_refl _), (Below.heap_setCell _ ⟨w.heap.size + 1 + 1, 0, none⟩ _ (w.heap.size + 1) (show w.heap.size + 1 ≠ w.heap.size + 1 + 1 by omega)).trans HB.out, ?_, by omega, hbs, ownsRow_setCell_below ho (a := ⟨w.heap.size + 1 + 1, 0, none⟩) (show w.heap.size + 1 + 1 < _ by omega) _⟩
  have := Joins.block_setCell (i := 0) HC.out (.slice (some ⟨g0, 0, none⟩) n k0)
  simpa using this

theorem toL_two {w w2 w4 : World} {ga : Option Addr} {n m g0 k0 g1 k1 : Nat} {ss : List ByteArray} {gs : List (Int × Int)} (h : ToL1 w w2 ga n m ss gs g0 k0)
    (ho : w4.ownsRow (w2.setCell ⟨w.heap.size + 1 + 1, 0, none⟩ (.slice (some ⟨g0, 0, none⟩) n k0)).heap.size 108 2 (.slice (some ⟨g1, 0, none⟩) m k1) m (gcells gs))
    (hb : Below (w2.setCell ⟨w.heap.size + 1 + 1, 0, none⟩ (.slice (some ⟨g0, 0, none⟩) n k0)).heap.size (w2.setCell ⟨w.heap.size + 1 + 1, 0, none⟩ (.slice (some ⟨g0, 0, none⟩) n k0)) w4) :
    w4.cell? ⟨w.heap.size + 1, 0, none⟩ = some (.slice none 0 0) ∧ w4.cell? ⟨w.heap.size + 1, 1, none⟩ = some (.slice none 0 0) ∧ w4.frozen? ⟨w.heap.size + 1, 0, none⟩ = false ∧ w4.frozen? ⟨w.heap.size + 1, 1, none⟩ = false ∧
    w4.cell? ⟨w.heap.size + 1 + 1, 0, none⟩ = some (.slice (some ⟨g0, 0, none⟩) n k0) ∧ w4.cell? ⟨w.heap.size + 1 + 1, 1, none⟩ = some (.slice none 0 0) ∧ w4.frozen? ⟨w.heap.size + 1 + 1, 0, none⟩ = false ∧ w4.frozen? ⟨w.heap.size + 1 + 1, 1, none⟩ = false ∧
    Hid ((w4.setCell ⟨w.heap.size + 1 + 1, 1, none⟩ (.slice (some ⟨g1, 0, none⟩) m k1)).heap[w.heap.size + 1]? = some (.cells #[.slice none 0 0, .slice none 0 0] 39 (0, 0)) ∧
      OwnL (((w4.setCell ⟨w.heap.size + 1 + 1, 1, none⟩ (.slice (some ⟨g1, 0, none⟩) m k1)).setCell ⟨w.heap.size + 1, 0, none⟩ (.slice (some ⟨g0, 0, none⟩) n k0)).setCell ⟨w.heap.size + 1, 1, none⟩ (.slice (some ⟨g1, 0, none⟩) m k1)) w.heap.size n m ss gs g0 k0 g1 k1 ∧
      Below w.heap.size w (((w4.setCell ⟨w.heap.size + 1 + 1, 1, none⟩ (.slice (some ⟨g1, 0, none⟩) m k1)).setCell ⟨w.heap.size + 1, 0, none⟩ (.slice (some ⟨g0, 0, none⟩) n k0)).setCell ⟨w.heap.size + 1, 1, none⟩ (.slice (some ⟨g1, 0, none⟩) m k1))) := by
  obtain ⟨_, hB, hC, hsz, hbw, ho0⟩ := h
  have hss : (w2.setCell ⟨w.heap.size + 1 + 1, 0, none⟩ (.slice (some ⟨g0, 0, none⟩) n k0)).heap.size = w2.heap.size := by simp
  have hg : (w2.setCell ⟨w.heap.size + 1 + 1, 0, none⟩ (.slice (some ⟨g0, 0, none⟩) n k0)).grownBy w4 none := ⟨hb.os, hb.tape, hb.output, hb.size, fun k hk _ => hb.block k hk⟩
  have ho4 := ho0.kept hg (by simp [Value.ownBlock])
  have hbb := hbw.trans (hb.mono hbw.size)
  rw [hss] at hb ho
  obtain ⟨b0, b1, b2, b3, HB⟩ := res_cells hB hb (by omega)
  obtain ⟨c0, c1, c2, c3, HC⟩ := res_cells hC hb (by omega)
  refine ⟨b0, b1, b2, b3, c0, c1, c2, c3, (Below.heap_setCell _ ⟨w.heap.size + 1 + 1, 1, none⟩ _ (w.heap.size + 1) (show w.heap.size + 1 ≠ w.heap.size + 1 + 1 by omega)).trans HB.out, ⟨?_, ?_⟩, ?_⟩
  · refine Joins.ownsRow_le (base := w.heap.size + 1 + 1 + 1) ?_ (by omega)
    exact ownsRow_setCell_below (ownsRow_setCell_below (ownsRow_setCell_below ho4 (a := ⟨w.heap.size + 1 + 1, 1, none⟩) (show w.heap.size + 1 + 1 < _ by omega) _) (a := ⟨w.heap.size + 1, 0, none⟩) (show w.heap.size + 1 < _ by omega) _) (a := ⟨w.heap.size + 1, 1, none⟩) (show w.heap.size + 1 < _ by omega) _
  · refine Joins.ownsRow_le (base := w2.heap.size) ?_ (by omega)
    exact ownsRow_setCell_below (ownsRow_setCell_below (ownsRow_setCell_below ho (a := ⟨w.heap.size + 1 + 1, 1, none⟩) (show w.heap.size + 1 + 1 < _ by omega) _) (a := ⟨w.heap.size + 1, 0, none⟩) (show w.heap.size + 1 < _ by omega) _) (a := ⟨w.heap.size + 1, 1, none⟩) (show w.heap.size + 1 < _ by omega) _
  · exact ((hbb.setCell (p := ⟨w.heap.size + 1 + 1, 1, none⟩) (show w.heap.size ≤ w.heap.size + 1 + 1 by omega) _).setCell (p := ⟨w.heap.size + 1, 0, none⟩) (show w.heap.size ≤ w.heap.size + 1 by omega) _).setCell (p := ⟨w.heap.size + 1, 1, none⟩) (show w.heap.size ≤ w.heap.size + 1 by omega) _

set_option maxHeartbeats 400000 in
theorem toL_any (ta ga : Option Addr) (n m tc gc : Nat) (ss : List ByteArray) (gs : List (Int × Int)) (w : World) (hl : n ≤ 1048576) (hm : m ≤ 1048576) (h : LedAt w ta n ga m ss gs) :
    Calls Tryz.prog 8 #[.agg #[.slice ta n tc, .slice ga m gc]] w fun e w' => ∃ g0 k0 g1 k1, e = .returned (.agg #[.slice (some ⟨g0, 0, none⟩) n k0, .slice (some ⟨g1, 0, none⟩) m k1]) ∧ OwnL w' w.heap.size n m ss gs g0 k0 g1 k1 ∧ Below w.heap.size w w' := by
  have hbx : Below w.heap.size w (((w.alloc (.cells #[.slice ta n tc, .slice ga m gc] 25)).alloc (.cells #[.slice none 0 0, .slice none 0 0] 39)).alloc (.cells #[.slice none 0 0, .slice none 0 0] 39)) := below_box3 _ _ _
  have hS := toS_any ta n tc ss _ hl (h.s.below hbx (Nat.le_refl _))
  have HBX : Hid (Below w.heap.size w (((w.alloc (.cells #[.slice ta n tc, .slice ga m gc] 25)).alloc (.cells #[.slice none 0 0, .slice none 0 0] 39)).alloc (.cells #[.slice none 0 0, .slice none 0 0] 39))) := hbx
  have H0 : Hid (LedAt w ta n ga m ss gs) := h
  clear hbx h
  go_enter Tryz.func8, Tryz.ntmps8
  go_wp2_with (first
    | (go_at_call 28; refine hS.mono ?_; rintro e w2 ⟨g0, k0, rfl, ho0, hb2⟩; obtain ⟨p0, p1, q0, q1, q2, q3, r0, r1, r2, r3, HF⟩ := toL_one H0.out ho0 hb2)
    | (go_at_call 29; refine (toG_any ga m gc gs _ hm HF.out.1).mono ?_; rintro e w4 ⟨g1, k1, rfl, ho1, hb4⟩; obtain ⟨x0, x1, x2, x3, y0, y1, y2, y3, HZ⟩ := toL_two HF.out ho1 hb4))
  obtain ⟨s0, s1, s2⟩ := two_set HZ.out.1 (.slice (some ⟨g0, 0, none⟩) n k0) (.slice (some ⟨g1, 0, none⟩) m k1)
  refine bodyPost_ret (v := .agg #[.slice (some ⟨g0, 0, none⟩) n k0, .slice (some ⟨g1, 0, none⟩) m k1]) (by simp [results, Tryz.results8, go_sem, s0, s1]) rfl ⟨g0, k0, g1, k1, rfl, HZ.out.2⟩

end Go.Proofs.YtacjgnefomdoaaaGreatDoor

namespace Go.Proofs.YtacjgnefomdoaaaGreatDoor
open Go.RowKit Go.Maps Go.WideMaps

/-- What the lists hold are values of Go: texts no longer than a length is, numbers of 64 bits. -/
structure Fine (ss : List ByteArray) (gs : List (Int × Int)) : Prop where
  s : ∀ j, (ss.getD j E0).size ≤ maxLen
  g : ∀ j, (Lit.int .i64 (gs.getD j G0).1).wf = true ∧ (Lit.int .i64 (gs.getD j G0).2).wf = true


end Go.Proofs.YtacjgnefomdoaaaGreatDoor

namespace Go.Proofs.YtacjgnefomdoaaaGreatDoor
open Go.RowKit Go.Maps Go.WideMaps

/-- Below, behind the result's two stores. -/
theorem below_res {w w2 : World} (h : Below w.heap.size w w2) (v0 v1 : Value) : Below w.heap.size w ((w2.setCell ⟨w.heap.size + 1, 0, none⟩ v0).setCell ⟨w.heap.size + 1, 1, none⟩ v1) :=
  (h.setCell (p := ⟨w.heap.size + 1, 0, none⟩) (show w.heap.size ≤ w.heap.size + 1 by omega) _).setCell (p := ⟨w.heap.size + 1, 1, none⟩) (show w.heap.size ≤ w.heap.size + 1 by omega) _

theorem numS_tw {w : World} {base p : Nat} {l : List ByteArray} (x : ByteArray) (hx : x.size ≤ maxLen) (h : TwS w base p l) :
    Calls Tryz.prog 104 #[.pointer (some ⟨p, 0, none⟩), .string x] w fun e w' => e = .returned (.int .i64 (num l x : Nat)) ∧ w' = w := by
  obtain ⟨iv, B, hp, hbp, hbB, ho, ht⟩ := h
  exact numS_any p B l x w hx (by unfold World.cell?; rw [hp]; rfl) ht

theorem numG_tw {w : World} {base p : Nat} {l : List (Int × Int)} {a b : Int} (ha : (Lit.int .i64 a).wf = true) (hb : (Lit.int .i64 b).wf = true) (h : TwG w base p l) :
    Calls Tryz.prog 105 #[.pointer (some ⟨p, 0, none⟩), .agg #[.int .i64 a, .int .i64 b]] w fun e w' => e = .returned (.int .i64 (num l (a, b) : Nat)) ∧ Below w.heap.size w w' := by
  obtain ⟨iv, B, hp, hbp, hbB, ho, ht⟩ := h
  exact numG_any p B l a b w ha hb (lt_of_block hp) (by unfold World.cell?; rw [hp]; rfl) ht

theorem eqIntR_any (a b : Int) (w : World) : Calls Tryz.prog 12 #[.agg #[.int .i64 a, .int .i64 b], .agg #[.int .i64 a, .int .i64 b]] w fun e w' => e = .returned (.bool true) ∧ Below w.heap.size w w' := by
  go_enter Tryz.func12, Tryz.ntmps12
  go_wp2
  go_ret
  exact ⟨rfl, ((Below.refl _ _).alloc (Nat.le_refl _) _).alloc (by simp) _⟩

end Go.Proofs.YtacjgnefomdoaaaGreatDoor

namespace Go.Proofs.YtacjgnefomdoaaaGreatDoor
open Go.RowKit Go.Maps Go.WideMaps

theorem keepb {v v' : World} {b : Nat} {o : Obj} (h : v.heap[b]? = some o) (hb : Below v.heap.size v v') : Hid (v'.heap[b]? = some o) := (hb.block b (lt_of_block h)).trans h
theorem cells2 {v : World} {b : Nat} {a0 a1 : Value} {t : TypeId} (h : v.heap[b]? = some (.cells #[a0, a1] t (0, 0))) : v.cell? ⟨b, 0, none⟩ = some a0 ∧ v.cell? ⟨b, 1, none⟩ = some a1 := ⟨by unfold World.cell?; rw [h]; rfl, by unfold World.cell?; rw [h]; rfl⟩

end Go.Proofs.YtacjgnefomdoaaaGreatDoor

namespace Go.Proofs.YtacjgnefomdoaaaGreatDoor
open Go.RowKit Go.Maps Go.WideMaps

theorem hasNumber_any (p n cap : Nat) (a : Option Addr) (id : Int) (w : World) (hI : w.cell? ⟨p, 0, none⟩ = some (.slice a n cap)) :
    Calls Tryz.prog 136 #[.pointer (some ⟨p, 0, none⟩), .int .i64 id] w fun e w' => e = .returned (.bool (inB id 1 n)) ∧ w' = w := by
  go_enter Tryz.func136, Tryz.ntmps136
  go_wp2_with (first
    | (go_at_call 62; refine (countS_any p n cap a w hI).mono ?_; rintro e w' ⟨rfl, hw⟩; have hw2 := hw.symm; subst hw2)
    | (go_at_call 84; refine (isWithin_any _ _ _ _).mono ?_; rintro e w' ⟨rfl, hw⟩; have hw2 := hw.symm; subst hw2))
  go_ret
  exact ⟨rfl, rfl⟩

theorem flt_le {ss : List ByteArray} {gs : List (Int × Int)} (h : 0 = flt ss gs) : ss.length ≤ 60 ∧ gs.length ≤ 120 := by
  by_cases hb : 60 < ss.length ∨ 120 < gs.length
  · rw [flt_many rfl rfl hb] at h; omega
  · omega

end Go.Proofs.YtacjgnefomdoaaaGreatDoor

namespace Go.Proofs.YtacjgnefomdoaaaGreatDoor
open Go.RowKit Go.Maps Go.WideMaps

/-- Only blocks from 'lo' to 'hi' may have turned. -/
structure Chg (w w' : World) (lo hi : Nat) : Prop where
  os : w'.os = w.os
  tape : w'.tape = w.tape
  output : w'.output = w.output
  size : w.heap.size ≤ w'.heap.size
  block : ∀ b, b < w.heap.size → (b < lo ∨ hi ≤ b) → w'.heap[b]? = w.heap[b]?

theorem Chg.of_below {w w' : World} (h : Below w.heap.size w w') (lo hi : Nat) : Chg w w' lo hi := ⟨h.os, h.tape, h.output, h.size, fun b hb _ => h.block b hb⟩
theorem Chg.of_grown {w w' : World} {row : Option Nat} {lo hi : Nat} (h : w.grownBy w' row) (hr : ∀ k, row = some k → lo ≤ k ∧ k < hi) : Chg w w' lo hi :=
  ⟨h.os, h.tape, h.output, h.size, fun b hb ho => h.block b hb (fun e => by have := hr b e.symm; omega)⟩
theorem Chg.trans {w w' w2 : World} {lo hi : Nat} (h : Chg w w' lo hi) (k : Chg w' w2 lo hi) : Chg w w2 lo hi :=
  ⟨k.os.trans h.os, k.tape.trans h.tape, k.output.trans h.output, Nat.le_trans h.size k.size, fun b hb ho => (k.block b (Nat.lt_of_lt_of_le hb h.size) ho).trans (h.block b hb ho)⟩
theorem Chg.below {w w' : World} {lo hi B : Nat} (h : Chg w w' lo hi) (hB : B ≤ lo) (hs : B ≤ w.heap.size) : Below B w w' := ⟨h.os, h.tape, h.output, h.size, fun k hk => h.block k (by omega) (by omega)⟩
theorem Chg.keep {w w' : World} {lo hi b : Nat} {o : Obj} (h : Chg w w' lo hi) (hb : w.heap[b]? = some o) (ho : b < lo ∨ hi ≤ b) : w'.heap[b]? = some o := (h.block b (lt_of_block hb) ho).trans hb
theorem Chg.row {w w' : World} {lo hi : Nat} (h : Chg w w' lo hi) {base : Nat} {e : TypeId} {size : Nat} {v : Value} {n : Nat} {xs : List Value} (ho : w.ownsRow base e size v n xs) (hv : ∀ k, v.ownBlock = some k → k < lo ∨ hi ≤ k) : w'.ownsRow base e size v n xs := by
  refine ⟨ho.1, ?_⟩
  rcases ho.2 with hn | ⟨g, cap, cur, rfl, hb, hgg, rest⟩
  · exact .inl hn
  · exact .inr ⟨g, cap, cur, rfl, hb, h.keep hgg (hv g rfl), rest⟩

end Go.Proofs.YtacjgnefomdoaaaGreatDoor

namespace Go.Proofs.YtacjgnefomdoaaaGreatDoor
open Go.RowKit Go.Maps Go.WideMaps

end Go.Proofs.YtacjgnefomdoaaaGreatDoor

namespace Go.Proofs.YtacjgnefomdoaaaGreatDoor
open Go.RowKit Go.Maps Go.WideMaps

section
variable {w w' : World} {lo hi n c0 m c1 : Nat} {a0 a1 : Option Addr} {xs ys : List Value}
theorem rows_apart {e e' : TypeId} {s s' n' : Nat} {v v' : Value} {zs zs' : List Value} (hne : e ≠ e') (h : w.ownsRow lo e s v n zs) (h' : w.ownsRow lo e' s' v' n' zs') : ∀ b, v.ownBlock = some b → v'.ownBlock ≠ some b := by
  intro b hb hb'
  rcases h.2 with ⟨rfl, _⟩ | ⟨g, c, cur, rfl, _, hh, _⟩
  · simp [Value.ownBlock] at hb
  rcases h'.2 with ⟨rfl, _⟩ | ⟨g', c', cur', rfl, _, hh', _⟩
  · simp [Value.ownBlock] at hb'
  simp [Value.ownBlock] at hb hb'
  subst hb hb'
  rw [hh] at hh'
  simp at hh'
  exact hne hh'.2
end

end Go.Proofs.YtacjgnefomdoaaaGreatDoor

namespace Go.Proofs.YtacjgnefomdoaaaGreatDoor
open Go.RowKit Go.Maps Go.WideMaps
attribute [local go_sem ↓] Go.wp_at_zero Go.wp_at_succ

theorem Tryz.infoI64 : (Tryz.prog.info? 2).map (fun i => (i.zero, i.size, i.bytes)) = some (some (.int .i64 0), 1, 8) := by kernel_rfl

def ints (l : List Int) : List Value := l.map (Value.int .i64)

theorem heap_alloc_at (w : World) (o : Obj) (n : Nat) (h : n = w.heap.size) : (w.alloc o).heap[n]? = some o := by rw [h]; exact heap_alloc_new w o

end Go.Proofs.YtacjgnefomdoaaaGreatDoor

namespace Go.Proofs.YtacjgnefomdoaaaGreatDoor
open Go.RowKit Go.Maps Go.WideMaps
attribute [local go_sem ↓] Go.wp_at_zero Go.wp_at_succ

end Go.Proofs.YtacjgnefomdoaaaGreatDoor

namespace Go.Proofs.YtacjgnefomdoaaaGreatDoor
open Go.RowKit Go.Maps Go.WideMaps

def IAt (w : World) (a : Option Addr) (n : Nat) (l : List Int) : Prop :=
  l.length = n ∧ (n = 0 ∨ ∃ b off, a = some ⟨b, off, none⟩ ∧ b < w.heap.size ∧ ∀ j, j < n → w.cell? ⟨b, off + j, none⟩ = some (.int .i64 (l.getD j 0)))

theorem IAt.below {w w' : World} {a : Option Addr} {n : Nat} {l : List Int} (h : IAt w a n l) {B : Nat} (hb : Below B w w') (hB : w.heap.size ≤ B) : IAt w' a n l := by
  obtain ⟨hn, h | ⟨b, off, rfl, hlt, hc⟩⟩ := h
  · exact ⟨hn, .inl h⟩
  · exact ⟨hn, .inr ⟨b, off, rfl, Nat.lt_of_lt_of_le hlt hb.size, fun j hj => (hb.cell (p := ⟨b, off + j, none⟩) (Nat.lt_of_lt_of_le hlt hB)).trans (hc j hj)⟩⟩

theorem IAt.owned {w : World} {base n c : Nat} {a : Option Addr} {l : List Int} (h : w.ownsRow base 2 1 (.slice a n c) n (ints l)) (hn : l.length = n) : IAt w a n l := by
  refine ⟨hn, ?_⟩
  rcases id h.2 with ⟨_, h0⟩ | ⟨g, cap, cur, e, _⟩
  · exact .inl h0
  · simp at e
    obtain ⟨rfl, rfl⟩ := e
    refine .inr ⟨g, 0, rfl, (h.lt g rfl).2, fun j hj => ?_⟩
    rw [Nat.zero_add, h.cellAt j (by omega)]
    simp [ints, List.getD, show j < l.length by omega]

set_option maxHeartbeats 400000 in
theorem eqI_any (a b : Option Addr) (n c1 c2 : Nat) (l : List Int) (w : World) (hl : n ≤ 1048576) (ha : IAt w a n l) (hb : IAt w b n l) :
    Calls Tryz.prog 124 #[.slice a n c1, .slice b n c2] w fun e w' => e = .returned (.bool true) ∧ Below w.heap.size w w' := by
  have HA : Hid (IAt w a n l) := ha
  have HB : Hid (IAt w b n l) := hb
  clear ha hb
  go_enter Tryz.func124, Tryz.ntmps124
  go_wp2
  go_loopw [5] (fun i wr => ∃ k : Nat, k ≤ n ∧ i = .int .i64 k ∧ Below w.heap.size w wr) (fun i _ => n - (intOf i).toNat)
  case atStart => exact ⟨0, Nat.zero_le _, rfl, Below.refl _ _⟩
  case round =>
    obtain ⟨k, hk, rfl, hbel⟩ := hrel
    by_cases hlt : k < n
    · rcases HA.out.2 with h0 | ⟨b0, o0, e0, l0, d0⟩
      · omega
      subst e0
      rcases HB.out.2 with h0 | ⟨b1, o1, e1, l1, d1⟩
      · omega
      subst e1
      obtain ⟨s, hs⟩ : ∃ s, s = l.getD k 0 := ⟨_, rfl⟩
      have x0 := (hbel.cell (p := ⟨b0, o0 + k, none⟩) l0).trans (d0 k hlt)
      have x1 := (hbel.cell (p := ⟨b1, o1 + k, none⟩) l1).trans (d1 k hlt)
      rw [← hs] at x0 x1
      clear hs d0 d1
      have hki : (k : Int) < (n : Int) := by omega
      go_wp2
      go_quiet (fail)
      go_wp2
      go_roundw
      case rel => exact ⟨k + 1, by omega, by go_num, hbel.trans (Joins.below_draws _ _ _)⟩
      case measure => simp [intOf]; omega
    · go_wp2
      go_ret
      exact ⟨rfl, hbel⟩

end Go.Proofs.YtacjgnefomdoaaaGreatDoor
