/- The laws' own copies and comparisons of signatures and of whole ledgers. -/
import Derived.Test.YtaopblgnmmhjfaaLw
namespace Go.Proofs.Ytaopblgnmmhjfaa
open Go.RowKit Go.Maps

/-- What a round of the signatures' copy leaves. -/
theorem toG_round {wr w2 : World} {B n k : Nat} {gs : List (Int × Int)} {g1 g2 : Int} (hg : (g1, g2) = gs.getD k G0) (hlt : k < n)
    (h : ∃ xs, wr.ownsRow B 115 2 (.slice (some ⟨B, 0, none⟩) n n) n xs ∧ ∀ j, j < k → xs[j * 2]? = some (.int .i64 (gs.getD j G0).1) ∧ xs[j * 2 + 1]? = some (.int .i64 (gs.getD j G0).2)) (hb : Below wr.heap.size wr w2) :
    ∃ u0 u1, w2.cell? ⟨B, k * 2, none⟩ = some u0 ∧ w2.cell? ⟨B, k * 2 + 1, none⟩ = some u1 ∧ w2.frozen? ⟨B, k * 2, none⟩ = false ∧ w2.frozen? ⟨B, k * 2 + 1, none⟩ = false ∧
      Hid (∃ xs, ((w2.setCell ⟨B, k * 2, none⟩ (.int .i64 g1)).setCell ⟨B, k * 2 + 1, none⟩ (.int .i64 g2)).ownsRow B 115 2 (.slice (some ⟨B, 0, none⟩) n n) n xs ∧ ∀ j, j < k + 1 → xs[j * 2]? = some (.int .i64 (gs.getD j G0).1) ∧ xs[j * 2 + 1]? = some (.int .i64 (gs.getD j G0).2)) := by
  obtain ⟨xs, hown0, hxs⟩ := h
  have hown := hown0.kept (w' := w2) (row := none) ⟨hb.os, hb.tape, hb.output, hb.size, fun k hk _ => hb.block k hk⟩ (by simp [Value.ownBlock])
  have hxl := hown.1
  have r1 := (hown.stored (k * 2) (.int .i64 g1)).1
  have r2 := (r1.stored (k * 2 + 1) (.int .i64 g2)).1
  refine ⟨_, _, (hown.cellAt (k * 2) (by omega)).trans (List.getElem?_eq_getElem (by omega)), (hown.cellAt (k * 2 + 1) (by omega)).trans (List.getElem?_eq_getElem (by omega)), hown.frozenAt _, hown.frozenAt _, _, r2, fun j hj => ?_⟩
  by_cases e : k = j
  · subst e
    rw [← hg]
    constructor
    · rw [List.getElem?_set_ne (by omega), List.getElem?_set_self (by omega)]
    · rw [List.getElem?_set_self (by simp; omega)]
  · have := hxs j (by omega)
    constructor
    · rw [List.getElem?_set_ne (by omega), List.getElem?_set_ne (by omega)]; exact this.1
    · rw [List.getElem?_set_ne (by omega), List.getElem?_set_ne (by omega)]; exact this.2

set_option maxHeartbeats 400000 in
theorem toG_any (a : Option Addr) (n cap : Nat) (gs : List (Int × Int)) (w : World) (hl : n ≤ 1048576) (hs : GAt w a n gs) :
    Calls Try.prog 95 #[.slice a n cap] w fun e w' => ∃ g c, e = .returned (.slice (some ⟨g, 0, none⟩) n c) ∧ w'.ownsRow w.heap.size 115 2 (.slice (some ⟨g, 0, none⟩) n c) n (gcells gs) ∧ Below w.heap.size w w' := by
  have HN : Hid (gs.length = n) := hs.1
  have HSS : Hid (GAt w a n gs) := hs
  clear hs
  obtain ⟨i0, hi, hz0, hz1, hz2⟩ := info_parts Try.infoSig
  have hml : n ≤ maxLen := by unfold maxLen; omega
  go_enter Try.func95, Try.ntmps95
  go_wp2_with (first | (at_make; refine wpList_make_full _ rfl _ _ 25 rfl w.heap.size 115 i0 (.agg #[.int .i64 0, .int .i64 0]) 2 Try.underlying25 hi hz0 hz1 _ _ _ _ n rfl rfl (by omega) (by omega) (by rw [hz2]; omega) hml (Nat.le_refl _) ?_; intro w1 ho1 hg1))
  have hb1 : Below w.heap.size w w1 := (Below.refl _ _).grown hg1 (Nat.le_refl _) (fun k h => by cases h)
  go_loopw [4] (fun i wr => ∃ k : Nat, k ≤ n ∧ i = .int .i64 k ∧ Below w.heap.size w wr ∧ Hid (∃ xs, wr.ownsRow w.heap.size 115 2 (.slice (some ⟨w.heap.size, 0, none⟩) n n) n xs ∧ ∀ j, j < k → xs[j * 2]? = some (.int .i64 (gs.getD j G0).1) ∧ xs[j * 2 + 1]? = some (.int .i64 (gs.getD j G0).2))) (fun i _ => n - (intOf i).toNat)
  case atStart => exact ⟨0, Nat.zero_le _, rfl, hb1, _, ho1, fun j hj => by omega⟩
  case round =>
    obtain ⟨k, hk, rfl, hbel, HX⟩ := hrel
    clear ho1 hg1 hb1
    by_cases hlt : k < n
    · rcases HSS.out.2 with h0 | ⟨b, off, ha, hb, hc⟩
      · omega
      subst ha
      obtain ⟨g, hg⟩ : ∃ g, g = gs.getD k G0 := ⟨_, rfl⟩
      have hcx := hc k hlt
      rw [← hg] at hcx
      obtain ⟨g1, g2⟩ := g
      have c0 := (hbel.cell (p := ⟨b, off + k * 2, none⟩) hb).trans hcx.1
      have c1 := (hbel.cell (p := ⟨b, off + k * 2 + 1, none⟩) hb).trans hcx.2
      have HG : Hid ((g1, g2) = gs.getD k G0) := hg
      clear hg hc hcx
      go_wp2_with (first | (go_at_call 141; refine (toSign_any _ _ _).mono ?_; rintro e w2 ⟨rfl, hb2⟩; obtain ⟨u0, u1, cg0, cg1, fg0, fg1, HX2⟩ := toG_round HG.out hlt HX.out hb2))
      go_roundw
      case rel => exact ⟨k + 1, by omega, by go_num, ((hbel.trans (hb2.mono hbel.size)).setCell (Nat.le_refl _) _).setCell (Nat.le_refl _) _, HX2⟩
      case measure => simp [intOf]; omega
    · go_wp2
      go_ret
      obtain ⟨xs, hown, hxs⟩ := HX.out
      refine ⟨_, _, rfl, ?_, hbel⟩
      rw [← all_signs HN.out hown.1 (fun j hj => hxs j (by omega))]
      exact hown

set_option maxHeartbeats 400000 in
theorem eqS_any (a b : Option Addr) (n c1 c2 : Nat) (ss : List ByteArray) (w : World) (hl : n ≤ 1048576) (ha : SAt w a n ss) (hb : SAt w b n ss) :
    Calls Try.prog 96 #[.slice a n c1, .slice b n c2] w fun e w' => e = .returned (.bool true) ∧ Below w.heap.size w w' := by
  have HA : Hid (SAt w a n ss) := ha
  have HB : Hid (SAt w b n ss) := hb
  clear ha hb
  go_enter Try.func96, Try.ntmps96
  go_wp2
  go_loopw [5] (fun i wr => ∃ k : Nat, k ≤ n ∧ i = .int .i64 k ∧ Below w.heap.size w wr) (fun i _ => n - (intOf i).toNat)
  case atStart => exact ⟨0, Nat.zero_le _, rfl, Below.refl _ _⟩
  case round =>
    obtain ⟨k, hk, rfl, hbel⟩ := hrel
    by_cases hlt : k < n
    · rcases HA.out.2 with h0 | ⟨b0, o0, e0, l0, d0⟩
      · omega
      subst e0
      rcases HB.out.2 with h0 | ⟨b1, o1, e1, l1, d1⟩
      · omega
      subst e1
      obtain ⟨s, hs⟩ : ∃ s, s = ss.getD k E0 := ⟨_, rfl⟩
      have x0 := (hbel.cell (p := ⟨b0, o0 + k, none⟩) l0).trans (d0 k hlt)
      have x1 := (hbel.cell (p := ⟨b1, o1 + k, none⟩) l1).trans (d1 k hlt)
      rw [← hs] at x0 x1
      clear hs d0 d1
      have hki : (k : Int) < (n : Int) := by omega
      go_wp2
      go_quiet (fail)
      go_wp2
      go_roundw
      case rel => exact ⟨k + 1, by omega, by go_num, hbel.trans (Joins.below_draws _ _ _)⟩
      case measure => simp [intOf]; omega
    · go_wp2
      go_ret
      exact ⟨rfl, hbel⟩

theorem eqSign_any (a b : Int) (w : World) : Calls Try.prog 142 #[.agg #[.int .i64 a, .int .i64 b], .agg #[.int .i64 a, .int .i64 b]] w fun e w' => e = .returned (.bool true) ∧ Below w.heap.size w w' := by
  go_enter Try.func142, Try.ntmps142
  go_wp2
  go_ret
  exact ⟨rfl, ((Below.refl _ _).alloc (Nat.le_refl _) _).alloc (by simp) _⟩

end Go.Proofs.Ytaopblgnmmhjfaa
