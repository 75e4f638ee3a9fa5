/- What the specification's own functions of chapter 1 answer, and that they write nothing that was there. -/
import Derived.Test.YtaopblgnmmhjfaaBase
import Derived.Deep.QuietTactic
import Derived.BigQuiet
import Derived.Lib.SmallJoins
import Derived.Deep.RegionHeld3
namespace Go.Proofs.Ytaopblgnmmhjfaa
open Go.RowKit Go.Maps

theorem l1In_any (v lo hi : Int) (w : World) : Calls Try.prog 140 #[.int .i64 v, .int .i64 lo, .int .i64 hi] w fun e w' => e = .returned (.bool (inB v lo hi)) ∧ w' = w := by
  by_cases h1 : lo ≤ v
  · by_cases h2 : v ≤ hi
    · have hb : inB v lo hi = true := by simp [inB, h1, h2]
      rw [hb]
      go_enter Try.func140, Try.ntmps140
      go_wp2
      go_ret
      exact ⟨rfl, rfl⟩
    · have hb : inB v lo hi = false := by simp [inB, h2]
      rw [hb]
      go_enter Try.func140, Try.ntmps140
      go_wp2
      go_ret
      exact ⟨rfl, rfl⟩
  · have hb : inB v lo hi = false := by simp [inB, h1]
    rw [hb]
    go_enter Try.func140, Try.ntmps140
    go_wp2
    go_ret
    exact ⟨rfl, rfl⟩

theorem l1Key_any (v : Int) (w : World) : Calls Try.prog 89 #[.int .i64 v] w fun e w' => e = .returned (.bool (inB v 1 999)) ∧ w' = w := by
  go_enter Try.func89, Try.ntmps89
  go_wp2_with (go_at_call 140; refine (l1In_any _ _ _ _).mono ?_; rintro e w' ⟨rfl, rfl⟩)
  go_ret
  exact ⟨rfl, rfl⟩

set_option maxHeartbeats 400000 in
theorem l1At_any (a : Option Addr) (n cap : Nat) (ss : List ByteArray) (x : ByteArray) (w : World) (hl : n ≤ maxLen) (hs : SAt w a n ss) :
    Calls Try.prog 81 #[.slice a n cap, .string x] w fun e w' => e = .returned (.int .i64 (num ss x : Nat)) ∧ w' = w := by
  unfold maxLen at hl
  obtain ⟨hn, hs⟩ := hs
  rcases hs with rfl | ⟨b, off, rfl, hb, hc⟩
  · obtain rfl : ss = [] := List.length_eq_zero_iff.1 hn
    go_enter Try.func81, Try.ntmps81
    go_wp2
    refine wp_loop_rounds 1 ?_
    rw [rounds_succ]
    go_wp2
    go_ret
    exact ⟨rfl, rfl⟩
  · have HN : Hid (ss.length = n) := hn
    clear hn
    go_enter Try.func81, Try.ntmps81
    go_wp2
    go_loop [5] (fun i => ∃ k : Nat, k ≤ n ∧ i = .int .i64 k ∧ Hid (x ∉ ss.take k)) (fun i => n - (intOf i).toNat)
    case atStart => exact ⟨0, Nat.zero_le _, rfl, by show x ∉ _; simp⟩
    case round =>
      obtain ⟨k, hk, rfl, hj⟩ := hrel
      by_cases hlt : k < n
      · obtain ⟨s, hs⟩ : ∃ s, s = ss.getD k E0 := ⟨_, rfl⟩
        have hcx := hc k hlt
        rw [← hs] at hcx
        have HS : Hid (s = ss.getD k E0) := hs
        clear hs hc
        by_cases he : s = x
        · have hy := str_yes he
          clear he
          go_wp2
          go_ret
          exact ⟨ret_int (by rw [num_hit ss x E0 k (by rw [HN.out]; exact hlt) (by rw [← HS.out]; exact Classical.byContradiction fun e => by rw [str_no e] at hy; cases hy) hj.out]; omega), rfl⟩
        · have hy := str_no he
          have HE : Hid (¬ s = x) := he
          clear he
          go_wp2
          go_round
          case rel =>
            refine ⟨k + 1, by omega, by go_num, ?_⟩
            show x ∉ _
            rw [take_snoc ss E0 k (by rw [HN.out]; exact hlt), ← HS.out]
            simp only [List.mem_append, List.mem_singleton, not_or]
            exact ⟨hj.out, fun e => HE.out e.symm⟩
          case measure => simp [intOf]; omega
      · go_wp2
        go_ret
        exact ⟨ret_int (by rw [(num_zero ss x).2 (by have := hj.out; rwa [List.take_of_length_le (by rw [HN.out]; omega)] at this)]; rfl), rfl⟩

theorem signed_more {gs : List (Int × Int)} {n k : Nat} {x g : Int × Int} (hn : gs.length = n) (hlt : k < n) (hj : x ∉ gs.take k) (hg : g = gs.getD k G0) (hne : ¬ g = x) : Hid (x ∉ gs.take (k + 1)) := by
  show x ∉ _
  rw [take_snoc gs G0 k (by omega), ← hg]
  simp only [List.mem_append, List.mem_singleton, not_or]
  exact ⟨hj, fun e => hne e.symm⟩

def memB (gs : List (Int × Int)) (x : Int × Int) : Bool := num gs x != 0

set_option maxHeartbeats 400000 in
theorem l1Signed_any (a : Option Addr) (n cap : Nat) (gs : List (Int × Int)) (p q : Int) (w : World) (hl : n ≤ maxLen) (hs : GAt w a n gs) :
    Calls Try.prog 91 #[.slice a n cap, .agg #[.int .i64 p, .int .i64 q]] w fun e w' => e = .returned (.bool (memB gs (p, q))) ∧ Below w.heap.size w w' := by
  unfold maxLen at hl
  obtain ⟨hn, hs⟩ := hs
  rcases hs with rfl | ⟨b, off, rfl, hb, hc⟩
  · obtain rfl : gs = [] := List.length_eq_zero_iff.1 hn
    go_enter Try.func91, Try.ntmps91
    go_wp2
    refine wp_loop_rounds 1 ?_
    rw [rounds_succ]
    go_wp2
    go_ret
    exact ⟨rfl, (Below.refl _ _).alloc (Nat.le_refl _) _⟩
  · have HN : Hid (gs.length = n) := hn
    clear hn
    go_enter Try.func91, Try.ntmps91
    go_wp2
    go_loopw [5] (fun i wr => ∃ k : Nat, k ≤ n ∧ i = .int .i64 k ∧ Hid ((p, q) ∉ gs.take k) ∧ wr.cell? ⟨w.heap.size, 0, none⟩ = some (.int .i64 p) ∧ wr.cell? ⟨w.heap.size, 1, none⟩ = some (.int .i64 q) ∧ Below w.heap.size w wr) (fun i _ => n - (intOf i).toNat)
    case atStart => exact ⟨0, Nat.zero_le _, rfl, by show (p, q) ∉ _; simp, by simp, by simp, (Below.refl _ _).alloc (Nat.le_refl _) _⟩
    case round =>
      obtain ⟨k, hk, rfl, hj, hp, hq, hbel⟩ := hrel
      by_cases hlt : k < n
      · obtain ⟨g, hg⟩ : ∃ g, g = gs.getD k G0 := ⟨_, rfl⟩
        have hcx := hc k hlt
        rw [← hg] at hcx
        obtain ⟨g1, g2⟩ := g
        have c0 := (hbel.cell (p := ⟨b, off + k * 2, none⟩) hb).trans hcx.1
        have c1 := (hbel.cell (p := ⟨b, off + k * 2 + 1, none⟩) hb).trans hcx.2
        have HG : Hid ((g1, g2) = gs.getD k G0) := hg
        clear hg hc hcx
        have hki : (k : Int) < (n : Int) := by omega
        by_cases h1 : g1 = p
        · have e1 : (g1 == p) = true := by simp [h1]
          have H1 : Hid (g1 = p) := h1
          clear h1
          by_cases h2 : g2 = q
          · have e2 : (g2 == q) = true := by simp [h2]
            have H2 : Hid (g2 = q) := h2
            clear h2
            go_wp2
            go_quiet (fail)
            go_wp2
            go_ret
            refine ⟨?_, hbel.trans (Joins.below_draws _ _ _)⟩
            have hm : memB gs (p, q) = true := by
              unfold memB
              rw [num_hit gs (p, q) G0 k (by rw [HN.out]; exact hlt) (by rw [← HG.out, H1.out, H2.out]) hj.out]
              simp
            rw [hm]; rfl
          · have e2 : (g2 == q) = false := by simp [h2]
            have H2 : Hid (¬ (g1, g2) = (p, q)) := fun e => h2 (by simpa using congrArg Prod.snd e)
            clear h2
            go_wp2
            go_quiet (fail)
            go_wp2
            go_roundw
            case rel => exact ⟨k + 1, by omega, by go_num, signed_more HN.out hlt hj.out HG.out H2.out, by simpa using hp, by simpa using hq, hbel.trans (Joins.below_draws _ _ _)⟩
            case measure => simp [intOf]; omega
        · have e1 : (g1 == p) = false := by simp [h1]
          have H2 : Hid (¬ (g1, g2) = (p, q)) := fun e => h1 (by simpa using congrArg Prod.fst e)
          clear h1
          go_wp2
          go_quiet (fail)
          go_wp2
          go_roundw
          case rel => exact ⟨k + 1, by omega, by go_num, signed_more HN.out hlt hj.out HG.out H2.out, by simpa using hp, by simpa using hq, hbel.trans (Joins.below_draws _ _ _)⟩
          case measure => simp [intOf]; omega
      · go_wp2
        go_ret
        refine ⟨?_, hbel⟩
        have hm : memB gs (p, q) = false := by
          unfold memB
          rw [(num_zero gs (p, q)).2 (by have := hj.out; rwa [List.take_of_length_le (by rw [HN.out]; omega)] at this)]
          rfl
        rw [hm]; rfl

end Go.Proofs.Ytaopblgnmmhjfaa
