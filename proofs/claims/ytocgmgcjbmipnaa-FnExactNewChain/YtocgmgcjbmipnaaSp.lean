/- What the specification's own functions of chapter 1 answer, and that they write nothing that was there. The specification's fault of a ledger: two loops, one over the texts, one over the signatures. -/
import Derived.Test.YtocgmgcjbmipnaaBase
import Derived.Deep.QuietTactic
import Derived.BigQuiet
import Derived.Lib.SmallJoins
import Derived.Deep.RegionHeld3
namespace Go.Proofs.Ytocgmgcjbmipnaa
open Go.RowKit Go.Maps

theorem l1In_any (v lo hi : Int) (w : World) : Calls Try.prog 31 #[.int .i64 v, .int .i64 lo, .int .i64 hi] w fun e w' => e = .returned (.bool (inB v lo hi)) ∧ w' = w := by
  by_cases h1 : lo ≤ v
  · by_cases h2 : v ≤ hi
    · have hb : inB v lo hi = true := by simp [inB, h1, h2]
      rw [hb]
      go_enter Try.func31, Try.ntmps31
      go_wp2
      go_ret
      exact ⟨rfl, rfl⟩
    · have hb : inB v lo hi = false := by simp [inB, h2]
      rw [hb]
      go_enter Try.func31, Try.ntmps31
      go_wp2
      go_ret
      exact ⟨rfl, rfl⟩
  · have hb : inB v lo hi = false := by simp [inB, h1]
    rw [hb]
    go_enter Try.func31, Try.ntmps31
    go_wp2
    go_ret
    exact ⟨rfl, rfl⟩

theorem l1Key_any (v : Int) (w : World) : Calls Try.prog 30 #[.int .i64 v] w fun e w' => e = .returned (.bool (inB v 1 999)) ∧ w' = w := by
  go_enter Try.func30, Try.ntmps30
  go_wp2_with (go_at_call 31; refine (l1In_any _ _ _ _).mono ?_; rintro e w' ⟨rfl, rfl⟩)
  go_ret
  exact ⟨rfl, rfl⟩

set_option maxHeartbeats 400000 in
theorem l1At_any (a : Option Addr) (n cap : Nat) (ss : List ByteArray) (x : ByteArray) (w : World) (hl : n ≤ maxLen) (hs : SAt w a n ss) :
    Calls Try.prog 29 #[.slice a n cap, .string x] w fun e w' => e = .returned (.int .i64 (num ss x : Nat)) ∧ w' = w := by
  unfold maxLen at hl
  obtain ⟨hn, hs⟩ := hs
  rcases hs with rfl | ⟨b, off, rfl, hb, hc⟩
  · obtain rfl : ss = [] := List.length_eq_zero_iff.1 hn
    go_enter Try.func29, Try.ntmps29
    go_wp2
    refine wp_loop_rounds 1 ?_
    rw [rounds_succ]
    go_wp2
    go_ret
    exact ⟨rfl, rfl⟩
  · have HN : Hid (ss.length = n) := hn
    clear hn
    go_enter Try.func29, Try.ntmps29
    go_wp2
    go_loop [5] (fun i => ∃ k : Nat, k ≤ n ∧ i = .int .i64 k ∧ Hid (x ∉ ss.take k)) (fun i => n - (intOf i).toNat)
    case atStart => exact ⟨0, Nat.zero_le _, rfl, by show x ∉ _; simp⟩
    case round =>
      obtain ⟨k, hk, rfl, hj⟩ := hrel
      by_cases hlt : k < n
      · obtain ⟨s, hs⟩ : ∃ s, s = ss.getD k E0 := ⟨_, rfl⟩
        have hcx := hc k hlt
        rw [← hs] at hcx
        have HS : Hid (s = ss.getD k E0) := hs
        clear hs hc
        by_cases he : s = x
        · have hy := str_yes he
          clear he
          go_wp2
          go_ret
          exact ⟨ret_int (by rw [num_hit ss x E0 k (by rw [HN.out]; exact hlt) (by rw [← HS.out]; exact Classical.byContradiction fun e => by rw [str_no e] at hy; cases hy) hj.out]; omega), rfl⟩
        · have hy := str_no he
          have HE : Hid (¬ s = x) := he
          clear he
          go_wp2
          go_round
          case rel =>
            refine ⟨k + 1, by omega, by go_num, ?_⟩
            show x ∉ _
            rw [take_snoc ss E0 k (by rw [HN.out]; exact hlt), ← HS.out]
            simp only [List.mem_append, List.mem_singleton, not_or]
            exact ⟨hj.out, fun e => HE.out e.symm⟩
          case measure => simp [intOf]; omega
      · go_wp2
        go_ret
        exact ⟨ret_int (by rw [(num_zero ss x).2 (by have := hj.out; rwa [List.take_of_length_le (by rw [HN.out]; omega)] at this)]; rfl), rfl⟩

theorem signed_more {gs : List (Int × Int)} {n k : Nat} {x g : Int × Int} (hn : gs.length = n) (hlt : k < n) (hj : x ∉ gs.take k) (hg : g = gs.getD k G0) (hne : ¬ g = x) : Hid (x ∉ gs.take (k + 1)) := by
  show x ∉ _
  rw [take_snoc gs G0 k (by omega), ← hg]
  simp only [List.mem_append, List.mem_singleton, not_or]
  exact ⟨hj, fun e => hne e.symm⟩

def memB (gs : List (Int × Int)) (x : Int × Int) : Bool := num gs x != 0

set_option maxHeartbeats 400000 in
theorem l1Signed_any (a : Option Addr) (n cap : Nat) (gs : List (Int × Int)) (p q : Int) (w : World) (hl : n ≤ maxLen) (hs : GAt w a n gs) :
    Calls Try.prog 32 #[.slice a n cap, .agg #[.int .i64 p, .int .i64 q]] w fun e w' => e = .returned (.bool (memB gs (p, q))) ∧ Below w.heap.size w w' := by
  unfold maxLen at hl
  obtain ⟨hn, hs⟩ := hs
  rcases hs with rfl | ⟨b, off, rfl, hb, hc⟩
  · obtain rfl : gs = [] := List.length_eq_zero_iff.1 hn
    go_enter Try.func32, Try.ntmps32
    go_wp2
    refine wp_loop_rounds 1 ?_
    rw [rounds_succ]
    go_wp2
    go_ret
    exact ⟨rfl, (Below.refl _ _).alloc (Nat.le_refl _) _⟩
  · have HN : Hid (gs.length = n) := hn
    clear hn
    go_enter Try.func32, Try.ntmps32
    go_wp2
    go_loopw [5] (fun i wr => ∃ k : Nat, k ≤ n ∧ i = .int .i64 k ∧ Hid ((p, q) ∉ gs.take k) ∧ wr.cell? ⟨w.heap.size, 0, none⟩ = some (.int .i64 p) ∧ wr.cell? ⟨w.heap.size, 1, none⟩ = some (.int .i64 q) ∧ Below w.heap.size w wr) (fun i _ => n - (intOf i).toNat)
    case atStart => exact ⟨0, Nat.zero_le _, rfl, by show (p, q) ∉ _; simp, by simp, by simp, (Below.refl _ _).alloc (Nat.le_refl _) _⟩
    case round =>
      obtain ⟨k, hk, rfl, hj, hp, hq, hbel⟩ := hrel
      by_cases hlt : k < n
      · obtain ⟨g, hg⟩ : ∃ g, g = gs.getD k G0 := ⟨_, rfl⟩
        have hcx := hc k hlt
        rw [← hg] at hcx
        obtain ⟨g1, g2⟩ := g
        have c0 := (hbel.cell (p := ⟨b, off + k * 2, none⟩) hb).trans hcx.1
        have c1 := (hbel.cell (p := ⟨b, off + k * 2 + 1, none⟩) hb).trans hcx.2
        have HG : Hid ((g1, g2) = gs.getD k G0) := hg
        clear hg hc hcx
        have hki : (k : Int) < (n : Int) := by omega
        by_cases h1 : g1 = p
        · have e1 : (g1 == p) = true := by simp [h1]
          have H1 : Hid (g1 = p) := h1
          clear h1
          by_cases h2 : g2 = q
          · have e2 : (g2 == q) = true := by simp [h2]
            have H2 : Hid (g2 = q) := h2
            clear h2
            go_wp2
            go_quiet (fail)
            go_wp2
            go_ret
            refine ⟨?_, hbel.trans (Joins.below_draws _ _ _)⟩
            have hm : memB gs (p, q) = true := by
              unfold memB
              rw [num_hit gs (p, q) G0 k (by rw [HN.out]; exact hlt) (by rw [← HG.out, H1.out, H2.out]) hj.out]
              simp
            rw [hm]; rfl
          · have e2 : (g2 == q) = false := by simp [h2]
            have H2 : Hid (¬ (g1, g2) = (p, q)) := fun e => h2 (by simpa using congrArg Prod.snd e)
            clear h2
            go_wp2
            go_quiet (fail)
            go_wp2
            go_roundw
            case rel => exact ⟨k + 1, by omega, by go_num, signed_more HN.out hlt hj.out HG.out H2.out, by simpa using hp, by simpa using hq, hbel.trans (Joins.below_draws _ _ _)⟩
            case measure => simp [intOf]; omega
        · have e1 : (g1 == p) = false := by simp [h1]
          have H2 : Hid (¬ (g1, g2) = (p, q)) := fun e => h1 (by simpa using congrArg Prod.fst e)
          clear h1
          go_wp2
          go_quiet (fail)
          go_wp2
          go_roundw
          case rel => exact ⟨k + 1, by omega, by go_num, signed_more HN.out hlt hj.out HG.out H2.out, by simpa using hp, by simpa using hq, hbel.trans (Joins.below_draws _ _ _)⟩
          case measure => simp [intOf]; omega
      · go_wp2
        go_ret
        refine ⟨?_, hbel⟩
        have hm : memB gs (p, q) = false := by
          unfold memB
          rw [(num_zero gs (p, q)).2 (by have := hj.out; rwa [List.take_of_length_le (by rw [HN.out]; omega)] at this)]
          rfl
        rw [hm]; rfl

end Go.Proofs.Ytocgmgcjbmipnaa

namespace Go.Proofs.Ytocgmgcjbmipnaa
open Go.RowKit Go.Maps

set_option maxHeartbeats 1000000 in
theorem l1Fault_any (L n m tc gc : Nat) (ta ga : Option Addr) (ss : List ByteArray) (gs : List (Int × Int)) (w : World) (hL : L < w.heap.size) (hT : w.cell? ⟨L, 0, none⟩ = some (.slice ta n tc)) (hG : w.cell? ⟨L, 1, none⟩ = some (.slice ga m gc))
    (htc : n ≤ tc) (hgc : m ≤ gc) (htm : tc ≤ maxLen) (hgm : gc ≤ maxLen) (hz : ∀ j, (ss.getD j E0).size ≤ maxLen) (hs : SAt w ta n ss) (hg : GAt w ga m gs) :
    Calls Try.prog 15 #[.pointer (some ⟨L, 0, none⟩)] w fun e w' => e = .returned (.int .i64 (flt ss gs)) ∧ Below w.heap.size w w' := by
  have HN : Hid (ss.length = n) := hs.1
  have HM : Hid (gs.length = m) := hg.1
  have htm' := htm
  have hgm' := hgm
  unfold maxLen at htm' hgm' hz
  by_cases hbig : 60 < n ∨ 120 < m
  · have hf := flt_many HN.out HM.out hbig
    rw [hf]
    clear hf
    by_cases h60 : 60 < n
    · go_enter Try.func15, Try.ntmps15
      go_wp2
      go_ret
      exact ⟨rfl, Below.refl _ _⟩
    · have h120 : 120 < m := by omega
      go_enter Try.func15, Try.ntmps15
      go_wp2
      go_ret
      exact ⟨rfl, Below.refl _ _⟩
  · have h60 : n ≤ 60 := by omega
    have h120 : m ≤ 120 := by omega
    have HB : Hid (¬ (60 < n ∨ 120 < m)) := hbig
    have HSS : Hid (SAt w ta n ss) := hs
    have HGG : Hid (GAt w ga m gs) := hg
    clear hbig hs hg
    go_enter Try.func15, Try.ntmps15
    go_wp2
    go_loopw [3] (fun i wr => ∃ k : Nat, k ≤ n ∧ i = .int .i64 k ∧ Hid (tgo [] ss = tAt ss k) ∧ Below w.heap.size w wr) (fun i _ => n - (intOf i).toNat)
    case atStart => exact ⟨0, Nat.zero_le _, rfl, (tAt_zero ss).symm, Below.refl _ _⟩
    case round =>
      obtain ⟨k, hk, rfl, hinv, hbel⟩ := hrel
      have hT1 := (hbel.cell (p := ⟨L, 0, none⟩) hL).trans hT
      have hG1 := (hbel.cell (p := ⟨L, 1, none⟩) hL).trans hG
      by_cases hlt : k < n
      · rcases HSS.out.2 with h0 | ⟨b, off, ha, hb, hc⟩
        · omega
        subst ha
        obtain ⟨s, hs⟩ : ∃ s, s = ss.getD k E0 := ⟨_, rfl⟩
        have hcx := (hbel.cell (p := ⟨b, off + k, none⟩) hb).trans (hc k hlt)
        have hsz := hz k
        rw [← hs] at hcx hsz
        have HS : Hid (s = ss.getD k E0) := hs
        clear hs hc hz
        by_cases hs1 : s.size < 1
        · go_wp2
          go_ret
          exact ⟨ret_int (flt_texts HN.out HM.out HB.out (t_short HN.out hlt HS.out (.inl hs1) hinv.out) (by omega)).symm, hbel⟩
        by_cases hs2 : 300 < s.size
        · go_wp2
          go_ret
          exact ⟨ret_int (flt_texts HN.out HM.out HB.out (t_short HN.out hlt HS.out (.inr hs2) hinv.out) (by omega)).symm, hbel⟩
        have hsd : ∀ j, SAt (wr.drewN j) (some ⟨b, off, none⟩) k (ss.take k) := fun j => ((HSS.out.below hbel (Nat.le_refl _)).take hk).below (Joins.below_draws _ wr j) (Nat.le_refl _)
        have hki : (k : Int) < (n : Int) := by omega
        have hkc : (k : Int) ≤ (tc : Int) := by omega
        have hkm : k ≤ maxLen := by unfold maxLen; omega
        obtain ⟨c, hcn⟩ : ∃ c : Nat, c = num (ss.take k) s := ⟨_, rfl⟩
        have HC : Hid (c = num (ss.take k) s) := hcn
        have hcle : c ≤ 60 := by rw [hcn]; have := num_le (ss.take k) s; simp at this; omega
        have hcall : ∀ (j cap : Nat), Calls Try.prog 29 #[.slice (some ⟨b, off, none⟩) k cap, .string s] (wr.drewN j) fun e w' => e = .returned (.int .i64 (c : Nat)) ∧ w' = wr.drewN j := fun j cap => by rw [hcn]; exact l1At_any _ _ _ _ _ _ hkm (hsd j)
        clear hcn hsd
        go_wp2
        go_quiet (first | (go_at_call 29; refine Calls.quiet_of_same (hcall _ _)))
        go_wp2
        · have hpos : 0 < c := by assumption
          go_ret
          exact ⟨ret_int (flt_texts HN.out HM.out HB.out (t_taken HN.out hlt HS.out (by omega) (by rw [← HC.out]; omega) hinv.out) (by omega)).symm, hbel.trans (Joins.below_draws _ _ _)⟩
        · have hpos : ¬ 0 < c := by assumption
          go_roundw
          case rel => exact ⟨k + 1, by omega, by go_num, t_next HN.out hlt HS.out (by omega) (by rw [← HC.out]; omega) hinv.out, hbel.trans (Joins.below_draws _ _ _)⟩
          case measure => simp [intOf]; omega
      · have HT0 : Hid (tgo [] ss = 0) := t_done HN.out hk hlt hinv.out
        clear hinv hz
        go_wp2
        go_loopw [4] (fun i wr => ∃ k : Nat, k ≤ m ∧ i = .int .i64 k ∧ Hid (sgo n [] gs = gAt n gs k) ∧ Below w.heap.size w wr) (fun i _ => m - (intOf i).toNat)
        case atStart => exact ⟨0, Nat.zero_le _, rfl, (gAt_zero n gs).symm, hbel⟩
        case round =>
          clear hT1 hG1 hbel hk hlt
          obtain ⟨k, hk, rfl, hinv, hbel⟩ := hrel
          have hT1 := (hbel.cell (p := ⟨L, 0, none⟩) hL).trans hT
          have hG1 := (hbel.cell (p := ⟨L, 1, none⟩) hL).trans hG
          by_cases hlt : k < m
          · rcases HGG.out.2 with h0 | ⟨b, off, ha, hb, hc⟩
            · omega
            subst ha
            obtain ⟨g, hg⟩ : ∃ g, g = gs.getD k G0 := ⟨_, rfl⟩
            have hcx := hc k hlt
            rw [← hg] at hcx
            obtain ⟨g1, g2⟩ := g
            have c0 := (hbel.cell (p := ⟨b, off + k * 2, none⟩) hb).trans hcx.1
            have c1 := (hbel.cell (p := ⟨b, off + k * 2 + 1, none⟩) hb).trans hcx.2
            have HG : Hid ((g1, g2) = gs.getD k G0) := hg
            clear hg hc hcx
            have hki : (k : Int) < (m : Int) := by omega
            have hLw : L < wr.heap.size := Nat.lt_of_lt_of_le hL hbel.size
            have hbw : b < wr.heap.size := Nat.lt_of_lt_of_le hb hbel.size
            have hkc : (k : Int) ≤ (gc : Int) := by omega
            have hkm : k ≤ maxLen := by unfold maxLen; omega
            have hgd : ∀ j, GAt (wr.drewN j) (some ⟨b, off, none⟩) k (gs.take k) := fun j => ((HGG.out.below hbel (Nat.le_refl _)).take hk).below (Joins.below_draws _ wr j) (Nat.le_refl _)
            by_cases hk1 : inB g1 1 999 = true
            · by_cases hk2 : inB g2 1 n = true
              · go_wp2
                go_quiet (first | (go_at_call 30; refine Calls.quiet_of_same (l1Key_any _ _)) | (go_at_call 31; refine Calls.quiet_of_same (l1In_any _ _ _ _)))
                go_wp2
                go_region_held3 (fun w' => w'.cell? ⟨L, 1, none⟩ = some (.slice (some ⟨b, off, none⟩) m gc) ∧ w'.cell? ⟨b, off + k * 2, none⟩ = some (.int .i64 g1) ∧ w'.cell? ⟨b, off + k * 2 + 1, none⟩ = some (.int .i64 g2)) (go_keep)
                  (first | (go_at_call 32; refine (l1Signed_any _ _ _ _ _ _ _ hkm (hgd _)).mono ?_; rintro e w3 ⟨rfl, hb3⟩; have q1 := (hb3.cell (p := ⟨L, 1, none⟩) hLw).trans hG1; have q2 := (hb3.cell (p := ⟨b, off + k * 2, none⟩) hbw).trans c0; have q3 := (hb3.cell (p := ⟨b, off + k * 2 + 1, none⟩) hbw).trans c1))
                all_goals go_wp2
                · have hmem : memB (gs.take k) (g1, g2) = true := by assumption
                  go_ret
                  exact ⟨ret_int (flt_signs HN.out HM.out HB.out HT0.out (g_taken HM.out hlt HG.out ⟨(inB_true.1 hk1).1, (inB_true.1 hk1).2, (inB_true.1 hk2).1, (inB_true.1 hk2).2⟩ (by simpa [memB] using hmem) hinv.out)).symm, (hbel.trans (Joins.below_draws _ _ _)).trans (hb3.mono hbel.size)⟩
                · have hmem : memB (gs.take k) (g1, g2) = false := by assumption
                  go_roundw
                  case rel => exact ⟨k + 1, by omega, by go_num, g_next HM.out hlt HG.out ⟨(inB_true.1 hk1).1, (inB_true.1 hk1).2, (inB_true.1 hk2).1, (inB_true.1 hk2).2⟩ (by simpa [memB] using hmem) hinv.out, (hbel.trans (Joins.below_draws _ _ _)).trans (hb3.mono hbel.size)⟩
                  case measure => simp [intOf]; omega
              · have hk2' : inB g2 1 n = false := by simpa using hk2
                clear hk2
                go_wp2
                go_quiet (first | (go_at_call 30; refine Calls.quiet_of_same (l1Key_any _ _)) | (go_at_call 31; refine Calls.quiet_of_same (l1In_any _ _ _ _)))
                go_wp2
                go_ret
                exact ⟨ret_int (flt_signs HN.out HM.out HB.out HT0.out (g_range HM.out hlt HG.out (fun e => inB_false.1 hk2' ⟨e.2.2.1, e.2.2.2⟩) hinv.out)).symm, hbel.trans (Joins.below_draws _ _ _)⟩
            · have hk1' : inB g1 1 999 = false := by simpa using hk1
              clear hk1
              go_wp2
              go_quiet (first | (go_at_call 30; refine Calls.quiet_of_same (l1Key_any _ _)) | (go_at_call 31; refine Calls.quiet_of_same (l1In_any _ _ _ _)))
              go_wp2
              go_ret
              exact ⟨ret_int (flt_signs HN.out HM.out HB.out HT0.out (g_range HM.out hlt HG.out (fun e => inB_false.1 hk1' ⟨e.1, e.2.1⟩) hinv.out)).symm, hbel.trans (Joins.below_draws _ _ _)⟩
          · go_wp2
            go_ret
            exact ⟨ret_int (flt_signs HN.out HM.out HB.out HT0.out (g_done HM.out hk hlt hinv.out)).symm, hbel⟩

end Go.Proofs.Ytocgmgcjbmipnaa
