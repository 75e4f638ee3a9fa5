/- What the laws' own helpers do with a ledger that came in: its size is told, it is copied into new memory, two are compared. The laws' own copies and comparisons of ledgers. The laws' own copies and comparisons of signatures and of whole ledgers. The laws' own copies, sizes and comparisons of whole ledgers. -/
import Derived.Test.YtocgmgcjbmipnaaBase
import Derived.Deep.QuietTactic
import Derived.BigQuiet
import Derived.Lib.SmallJoins
import Derived.Deep.RegionHeld3
namespace Go.Proofs.Ytocgmgcjbmipnaa
open Go.RowKit Go.Maps

def SzS (n : Nat) (ss : List ByteArray) (left r : Int) : Prop := r = -1 ∨ 0 ≤ r ∧ r ≤ left ∧ (n : Int) ≤ left ∧ ∀ j, j < n → ((ss.getD j E0).size : Int) ≤ left
def SzG (n : Nat) (left r : Int) : Prop := r = -1 ∨ 0 ≤ r ∧ r ≤ left ∧ (n : Int) ≤ left

set_option maxHeartbeats 400000 in
theorem szS_any (a : Option Addr) (n cap : Nat) (ss : List ByteArray) (left : Int) (w : World) (h0 : 0 ≤ left) (h1 : left ≤ 1048576) (hl : n ≤ maxLen) (hz : ∀ j, (ss.getD j E0).size ≤ maxLen) (hs : SAt w a n ss) :
    Calls Try.prog 13 #[.slice a n cap, .int .i64 left] w fun e w' => ∃ r : Int, e = .returned (.int .i64 r) ∧ w' = w ∧ SzS n ss left r := by
  unfold maxLen at hl hz
  obtain ⟨hn, hs⟩ := hs
  clear hn
  rcases hs with rfl | ⟨b, off, rfl, hb, hc⟩
  · go_enter Try.func13, Try.ntmps13
    go_wp2
    refine wp_loop_rounds 1 ?_
    rw [rounds_succ]
    go_wp2
    go_ret
    exact ⟨_, rfl, rfl, Or.inr ⟨by omega, by omega, by omega, fun j hj => by omega⟩⟩
  · by_cases hn : left < n
    · go_enter Try.func13, Try.ntmps13
      go_wp2
      go_ret
      exact ⟨_, rfl, rfl, Or.inl rfl⟩
    · go_enter Try.func13, Try.ntmps13
      go_wp2
      go_loop [1, 5] (fun v i => ∃ k : Nat, k ≤ n ∧ i = .int .i64 k ∧ ∃ l : Int, v = .int .i64 l ∧ 0 ≤ l ∧ l ≤ left - n ∧ ∀ j, j < k → ((ss.getD j E0).size : Int) ≤ left) (fun _ i => n - (intOf i).toNat)
      case atStart => exact ⟨0, Nat.zero_le _, rfl, _, rfl, by omega, by omega, fun j hj => by omega⟩
      case round =>
        obtain ⟨k, hk, rfl, l, rfl, hl0, hl1, hj⟩ := hrel
        by_cases hlt : k < n
        · obtain ⟨s, hs⟩ : ∃ s, s = ss.getD k E0 := ⟨_, rfl⟩
          have hcx := hc k hlt
          have hsz := hz k
          rw [← hs] at hcx hsz
          have HS : Hid (s = ss.getD k E0) := hs
          have HJ : Hid (∀ j, j < k → ((ss.getD j E0).size : Int) ≤ left) := hj
          clear hs hj hc hz
          by_cases hneg : l < s.size
          · go_wp2
            go_ret
            exact ⟨_, rfl, rfl, Or.inl rfl⟩
          · go_wp2
            go_round
            case rel =>
              refine ⟨k + 1, by omega, by go_num, _, rfl, by omega, by omega, fun j hj => ?_⟩
              by_cases e : j = k
              · subst e; rw [← HS.out]; omega
              · exact HJ.out j (by omega)
            case measure => simp [intOf]; omega
        · go_wp2
          go_ret
          exact ⟨_, rfl, rfl, Or.inr ⟨hl0, by omega, by omega, fun j h => hj j (by omega)⟩⟩

theorem szG_any (a : Option Addr) (n cap : Nat) (left : Int) (w : World) (h0 : 0 ≤ left) (h1 : left ≤ 1048576) (hl : n ≤ maxLen) :
    Calls Try.prog 14 #[.slice a n cap, .int .i64 left] w fun e w' => ∃ r : Int, e = .returned (.int .i64 r) ∧ w' = w ∧ SzG n left r := by
  unfold maxLen at hl
  by_cases hn : left < n
  · go_enter Try.func14, Try.ntmps14
    go_wp2
    go_ret
    exact ⟨_, rfl, rfl, Or.inl rfl⟩
  · go_enter Try.func14, Try.ntmps14
    go_wp2
    go_ret
    exact ⟨_, rfl, rfl, Or.inr ⟨by omega, by omega, by omega⟩⟩

end Go.Proofs.Ytocgmgcjbmipnaa

namespace Go.Proofs.Ytocgmgcjbmipnaa
open Go.RowKit Go.Maps

theorem all_texts {xs : List Value} {ss : List ByteArray} {n : Nat} (hn : ss.length = n) (hl : xs.length = n * 1) (h : ∀ j, j < n → xs[j]? = some (.string (ss.getD j E0))) : xs = ss.map Value.string := by
  apply List.ext_getElem?
  intro j
  by_cases hj : j < n
  · rw [h j hj]; simp [List.getD, show j < ss.length by omega]
  · rw [List.getElem?_eq_none (by omega), List.getElem?_eq_none (by simp; omega)]

theorem all_signs {xs : List Value} {gs : List (Int × Int)} {n : Nat} (hn : gs.length = n) (hl : xs.length = n * 2) (h : ∀ j, j < n → xs[j * 2]? = some (.int .i64 (gs.getD j G0).1) ∧ xs[j * 2 + 1]? = some (.int .i64 (gs.getD j G0).2)) : xs = gcells gs := by
  apply List.ext_getElem?
  intro j
  by_cases hj : j < n * 2
  · have h1 := h (j / 2) (by omega)
    have h2 := gcells_at gs (j / 2) (by omega)
    rcases Nat.mod_two_eq_zero_or_one j with e | e
    · rw [show j = j / 2 * 2 by omega, h1.1, h2.1]
    · rw [show j = j / 2 * 2 + 1 by omega, h1.2, h2.2]
  · rw [List.getElem?_eq_none (by omega), List.getElem?_eq_none (by rw [gcells_length]; omega)]

set_option maxHeartbeats 400000 in
theorem toS_any (a : Option Addr) (n cap : Nat) (ss : List ByteArray) (w : World) (hl : n ≤ 1048576) (hs : SAt w a n ss) :
    Calls Try.prog 18 #[.slice a n cap] w fun e w' => ∃ g c, e = .returned (.slice (some ⟨g, 0, none⟩) n c) ∧ w'.ownsRow w.heap.size 9 1 (.slice (some ⟨g, 0, none⟩) n c) n (ss.map Value.string) ∧ Below w.heap.size w w' := by
  have HN : Hid (ss.length = n) := hs.1
  have HSS : Hid (SAt w a n ss) := hs
  clear hs
  obtain ⟨i0, hi, hz0, hz1, hz2⟩ := info_parts Try.infoStr
  have hml : n ≤ maxLen := by unfold maxLen; omega
  go_enter Try.func18, Try.ntmps18
  go_wp2_with (first | (at_make; refine wpList_make_full _ rfl _ _ 22 rfl w.heap.size 9 i0 (.string ByteArray.empty) 1 Try.underlying22 hi hz0 hz1 _ _ _ _ n rfl rfl (by omega) (by omega) (by rw [hz2]; omega) hml (Nat.le_refl _) ?_; intro w1 ho1 hg1))
  have hb1 : Below w.heap.size w w1 := (Below.refl _ _).grown hg1 (Nat.le_refl _) (fun k h => by cases h)
  go_loopw [4] (fun i wr => ∃ k : Nat, k ≤ n ∧ i = .int .i64 k ∧ Below w.heap.size w wr ∧ Hid (∃ xs, wr.ownsRow w.heap.size 9 1 (.slice (some ⟨w.heap.size, 0, none⟩) n n) n xs ∧ ∀ j, j < k → xs[j]? = some (.string (ss.getD j E0)))) (fun i _ => n - (intOf i).toNat)
  case atStart => exact ⟨0, Nat.zero_le _, rfl, hb1, _, ho1, fun j hj => by omega⟩
  case round =>
    obtain ⟨k, hk, rfl, hbel, HX⟩ := hrel
    clear ho1 hg1 hb1
    by_cases hlt : k < n
    · rcases HSS.out.2 with h0 | ⟨b, off, ha, hb, hc⟩
      · omega
      subst ha
      obtain ⟨s, hs⟩ : ∃ s, s = ss.getD k E0 := ⟨_, rfl⟩
      have hcx := (hbel.cell (p := ⟨b, off + k, none⟩) hb).trans (hc k hlt)
      rw [← hs] at hcx
      have HS : Hid (s = ss.getD k E0) := hs
      clear hs hc
      obtain ⟨xs, hown, hxs⟩ := HX.out
      have hxl : xs.length = n * 1 := hown.1
      obtain ⟨v, hv⟩ : ∃ v, xs[k]? = some v := ⟨_, List.getElem?_eq_getElem (by omega)⟩
      have cg : wr.cell? ⟨w.heap.size, k, none⟩ = some v := (hown.cellAt k (by omega)).trans hv
      have fg : wr.frozen? ⟨w.heap.size, k, none⟩ = false := hown.frozenAt k
      have HX2 : Hid (∃ xs, (wr.setCell ⟨w.heap.size, k, none⟩ (.string s)).ownsRow w.heap.size 9 1 (.slice (some ⟨w.heap.size, 0, none⟩) n n) n xs ∧ ∀ j, j < k + 1 → xs[j]? = some (.string (ss.getD j E0))) := by
        refine ⟨_, (hown.stored k (.string s)).1, fun j hj => ?_⟩
        by_cases e : k = j
        · subst e
          rw [List.getElem?_set_self (by omega), HS.out]
        · rw [List.getElem?_set_ne e, hxs j (by omega)]
      clear hown hxs hv hxl HX
      go_wp2
      go_roundw
      case rel => exact ⟨k + 1, by omega, by go_num, hbel.setCell (Nat.le_refl _) _, HX2⟩
      case measure => simp [intOf]; omega
    · go_wp2
      go_ret
      obtain ⟨xs, hown, hxs⟩ := HX.out
      refine ⟨_, _, rfl, ?_, hbel⟩
      rw [← all_texts HN.out hown.1 (fun j hj => hxs j (by omega))]
      exact hown

theorem toSign_any (a b : Int) (w : World) : Calls Try.prog 33 #[.agg #[.int .i64 a, .int .i64 b]] w fun e w' => e = .returned (.agg #[.int .i64 a, .int .i64 b]) ∧ Below w.heap.size w w' := by
  go_enter Try.func33, Try.ntmps33
  go_wp2
  refine bodyPost_ret (v := .agg #[.int .i64 a, .int .i64 b]) (by simp [results, Try.results33, go_sem]) rfl ⟨rfl, ?_⟩
  exact (((Below.refl _ _).alloc (Nat.le_refl _) _).alloc (by simp) _).alloc (by simp; omega) _

end Go.Proofs.Ytocgmgcjbmipnaa

namespace Go.Proofs.Ytocgmgcjbmipnaa
open Go.RowKit Go.Maps

/-- What a round of the signatures' copy leaves. -/
theorem toG_round {wr w2 : World} {B n k : Nat} {gs : List (Int × Int)} {g1 g2 : Int} (hg : (g1, g2) = gs.getD k G0) (hlt : k < n)
    (h : ∃ xs, wr.ownsRow B 71 2 (.slice (some ⟨B, 0, none⟩) n n) n xs ∧ ∀ j, j < k → xs[j * 2]? = some (.int .i64 (gs.getD j G0).1) ∧ xs[j * 2 + 1]? = some (.int .i64 (gs.getD j G0).2)) (hb : Below wr.heap.size wr w2) :
    ∃ u0 u1, w2.cell? ⟨B, k * 2, none⟩ = some u0 ∧ w2.cell? ⟨B, k * 2 + 1, none⟩ = some u1 ∧ w2.frozen? ⟨B, k * 2, none⟩ = false ∧ w2.frozen? ⟨B, k * 2 + 1, none⟩ = false ∧
      Hid (∃ xs, ((w2.setCell ⟨B, k * 2, none⟩ (.int .i64 g1)).setCell ⟨B, k * 2 + 1, none⟩ (.int .i64 g2)).ownsRow B 71 2 (.slice (some ⟨B, 0, none⟩) n n) n xs ∧ ∀ j, j < k + 1 → xs[j * 2]? = some (.int .i64 (gs.getD j G0).1) ∧ xs[j * 2 + 1]? = some (.int .i64 (gs.getD j G0).2)) := by
  obtain ⟨xs, hown0, hxs⟩ := h
  have hown := hown0.kept (w' := w2) (row := none) ⟨hb.os, hb.tape, hb.output, hb.size, fun k hk _ => hb.block k hk⟩ (by simp [Value.ownBlock])
  have hxl := hown.1
  have r1 := (hown.stored (k * 2) (.int .i64 g1)).1
  have r2 := (r1.stored (k * 2 + 1) (.int .i64 g2)).1
  refine ⟨_, _, (hown.cellAt (k * 2) (by omega)).trans (List.getElem?_eq_getElem (by omega)), (hown.cellAt (k * 2 + 1) (by omega)).trans (List.getElem?_eq_getElem (by omega)), hown.frozenAt _, hown.frozenAt _, _, r2, fun j hj => ?_⟩
  by_cases e : k = j
  · subst e
    rw [← hg]
    constructor
    · rw [List.getElem?_set_ne (by omega), List.getElem?_set_self (by omega)]
    · rw [List.getElem?_set_self (by simp; omega)]
  · have := hxs j (by omega)
    constructor
    · rw [List.getElem?_set_ne (by omega), List.getElem?_set_ne (by omega)]; exact this.1
    · rw [List.getElem?_set_ne (by omega), List.getElem?_set_ne (by omega)]; exact this.2

set_option maxHeartbeats 400000 in
theorem toG_any (a : Option Addr) (n cap : Nat) (gs : List (Int × Int)) (w : World) (hl : n ≤ 1048576) (hs : GAt w a n gs) :
    Calls Try.prog 19 #[.slice a n cap] w fun e w' => ∃ g c, e = .returned (.slice (some ⟨g, 0, none⟩) n c) ∧ w'.ownsRow w.heap.size 71 2 (.slice (some ⟨g, 0, none⟩) n c) n (gcells gs) ∧ Below w.heap.size w w' := by
  have HN : Hid (gs.length = n) := hs.1
  have HSS : Hid (GAt w a n gs) := hs
  clear hs
  obtain ⟨i0, hi, hz0, hz1, hz2⟩ := info_parts Try.infoSig
  have hml : n ≤ maxLen := by unfold maxLen; omega
  go_enter Try.func19, Try.ntmps19
  go_wp2_with (first | (at_make; refine wpList_make_full _ rfl _ _ 27 rfl w.heap.size 71 i0 (.agg #[.int .i64 0, .int .i64 0]) 2 Try.underlying27 hi hz0 hz1 _ _ _ _ n rfl rfl (by omega) (by omega) (by rw [hz2]; omega) hml (Nat.le_refl _) ?_; intro w1 ho1 hg1))
  have hb1 : Below w.heap.size w w1 := (Below.refl _ _).grown hg1 (Nat.le_refl _) (fun k h => by cases h)
  go_loopw [4] (fun i wr => ∃ k : Nat, k ≤ n ∧ i = .int .i64 k ∧ Below w.heap.size w wr ∧ Hid (∃ xs, wr.ownsRow w.heap.size 71 2 (.slice (some ⟨w.heap.size, 0, none⟩) n n) n xs ∧ ∀ j, j < k → xs[j * 2]? = some (.int .i64 (gs.getD j G0).1) ∧ xs[j * 2 + 1]? = some (.int .i64 (gs.getD j G0).2))) (fun i _ => n - (intOf i).toNat)
  case atStart => exact ⟨0, Nat.zero_le _, rfl, hb1, _, ho1, fun j hj => by omega⟩
  case round =>
    obtain ⟨k, hk, rfl, hbel, HX⟩ := hrel
    clear ho1 hg1 hb1
    by_cases hlt : k < n
    · rcases HSS.out.2 with h0 | ⟨b, off, ha, hb, hc⟩
      · omega
      subst ha
      obtain ⟨g, hg⟩ : ∃ g, g = gs.getD k G0 := ⟨_, rfl⟩
      have hcx := hc k hlt
      rw [← hg] at hcx
      obtain ⟨g1, g2⟩ := g
      have c0 := (hbel.cell (p := ⟨b, off + k * 2, none⟩) hb).trans hcx.1
      have c1 := (hbel.cell (p := ⟨b, off + k * 2 + 1, none⟩) hb).trans hcx.2
      have HG : Hid ((g1, g2) = gs.getD k G0) := hg
      clear hg hc hcx
      go_wp2_with (first | (go_at_call 33; refine (toSign_any _ _ _).mono ?_; rintro e w2 ⟨rfl, hb2⟩; obtain ⟨u0, u1, cg0, cg1, fg0, fg1, HX2⟩ := toG_round HG.out hlt HX.out hb2))
      go_roundw
      case rel => exact ⟨k + 1, by omega, by go_num, ((hbel.trans (hb2.mono hbel.size)).setCell (Nat.le_refl _) _).setCell (Nat.le_refl _) _, HX2⟩
      case measure => simp [intOf]; omega
    · go_wp2
      go_ret
      obtain ⟨xs, hown, hxs⟩ := HX.out
      refine ⟨_, _, rfl, ?_, hbel⟩
      rw [← all_signs HN.out hown.1 (fun j hj => hxs j (by omega))]
      exact hown

set_option maxHeartbeats 400000 in
theorem eqS_any (a b : Option Addr) (n c1 c2 : Nat) (ss : List ByteArray) (w : World) (hl : n ≤ 1048576) (ha : SAt w a n ss) (hb : SAt w b n ss) :
    Calls Try.prog 23 #[.slice a n c1, .slice b n c2] w fun e w' => e = .returned (.bool true) ∧ Below w.heap.size w w' := by
  have HA : Hid (SAt w a n ss) := ha
  have HB : Hid (SAt w b n ss) := hb
  clear ha hb
  go_enter Try.func23, Try.ntmps23
  go_wp2
  go_loopw [5] (fun i wr => ∃ k : Nat, k ≤ n ∧ i = .int .i64 k ∧ Below w.heap.size w wr) (fun i _ => n - (intOf i).toNat)
  case atStart => exact ⟨0, Nat.zero_le _, rfl, Below.refl _ _⟩
  case round =>
    obtain ⟨k, hk, rfl, hbel⟩ := hrel
    by_cases hlt : k < n
    · rcases HA.out.2 with h0 | ⟨b0, o0, e0, l0, d0⟩
      · omega
      subst e0
      rcases HB.out.2 with h0 | ⟨b1, o1, e1, l1, d1⟩
      · omega
      subst e1
      obtain ⟨s, hs⟩ : ∃ s, s = ss.getD k E0 := ⟨_, rfl⟩
      have x0 := (hbel.cell (p := ⟨b0, o0 + k, none⟩) l0).trans (d0 k hlt)
      have x1 := (hbel.cell (p := ⟨b1, o1 + k, none⟩) l1).trans (d1 k hlt)
      rw [← hs] at x0 x1
      clear hs d0 d1
      have hki : (k : Int) < (n : Int) := by omega
      go_wp2
      go_quiet (fail)
      go_wp2
      go_roundw
      case rel => exact ⟨k + 1, by omega, by go_num, hbel.trans (Joins.below_draws _ _ _)⟩
      case measure => simp [intOf]; omega
    · go_wp2
      go_ret
      exact ⟨rfl, hbel⟩

theorem eqSign_any (a b : Int) (w : World) : Calls Try.prog 41 #[.agg #[.int .i64 a, .int .i64 b], .agg #[.int .i64 a, .int .i64 b]] w fun e w' => e = .returned (.bool true) ∧ Below w.heap.size w w' := by
  go_enter Try.func41, Try.ntmps41
  go_wp2
  go_ret
  exact ⟨rfl, ((Below.refl _ _).alloc (Nat.le_refl _) _).alloc (by simp) _⟩

end Go.Proofs.Ytocgmgcjbmipnaa

namespace Go.Proofs.Ytocgmgcjbmipnaa
open Go.RowKit Go.Maps

set_option maxHeartbeats 400000 in
theorem eqG_any (a b : Option Addr) (n c1 c2 : Nat) (gs : List (Int × Int)) (w : World) (hl : n ≤ 1048576) (ha : GAt w a n gs) (hb : GAt w b n gs) :
    Calls Try.prog 24 #[.slice a n c1, .slice b n c2] w fun e w' => e = .returned (.bool true) ∧ Below w.heap.size w w' := by
  have HA : Hid (GAt w a n gs) := ha
  have HB : Hid (GAt w b n gs) := hb
  clear ha hb
  go_enter Try.func24, Try.ntmps24
  go_wp2
  go_loopw [5] (fun i wr => ∃ k : Nat, k ≤ n ∧ i = .int .i64 k ∧ Below w.heap.size w wr) (fun i _ => n - (intOf i).toNat)
  case atStart => exact ⟨0, Nat.zero_le _, rfl, Below.refl _ _⟩
  case round =>
    obtain ⟨k, hk, rfl, hbel⟩ := hrel
    by_cases hlt : k < n
    · rcases HA.out.2 with h0 | ⟨b0, o0, e0, l0, d0⟩
      · omega
      subst e0
      rcases HB.out.2 with h0 | ⟨b1, o1, e1, l1, d1⟩
      · omega
      subst e1
      obtain ⟨g, hg⟩ : ∃ g, g = gs.getD k G0 := ⟨_, rfl⟩
      have y0 := d0 k hlt
      have y1 := d1 k hlt
      rw [← hg] at y0 y1
      obtain ⟨g1, g2⟩ := g
      have x0 := (hbel.cell (p := ⟨b0, o0 + k * 2, none⟩) l0).trans y0.1
      have x1 := (hbel.cell (p := ⟨b0, o0 + k * 2 + 1, none⟩) l0).trans y0.2
      have x2 := (hbel.cell (p := ⟨b1, o1 + k * 2, none⟩) l1).trans y1.1
      have x3 := (hbel.cell (p := ⟨b1, o1 + k * 2 + 1, none⟩) l1).trans y1.2
      clear hg d0 d1 y0 y1
      have hki : (k : Int) < (n : Int) := by omega
      have hw0 : b0 < wr.heap.size := Nat.lt_of_lt_of_le l0 hbel.size
      have hw1 : b1 < wr.heap.size := Nat.lt_of_lt_of_le l1 hbel.size
      have hcall : ∀ j, Calls Try.prog 41 #[.agg #[.int .i64 g1, .int .i64 g2], .agg #[.int .i64 g1, .int .i64 g2]] (wr.drewN j) fun e w' => e = .returned (.bool true) ∧ Below wr.heap.size wr w' := fun j => (eqSign_any g1 g2 _).mono fun e w' h => ⟨h.1, (Joins.below_draws _ wr j).trans h.2⟩
      go_wp2
      go_region_held3 (fun w' => w'.cell? ⟨b0, o0 + k * 2, none⟩ = some (.int .i64 g1) ∧ w'.cell? ⟨b0, o0 + k * 2 + 1, none⟩ = some (.int .i64 g2) ∧ w'.cell? ⟨b1, o1 + k * 2, none⟩ = some (.int .i64 g1) ∧ w'.cell? ⟨b1, o1 + k * 2 + 1, none⟩ = some (.int .i64 g2)) (go_keep)
        (first | (go_at_call 41; refine (hcall 1).mono ?_; rintro e w3 ⟨rfl, hb3⟩; have z0 := (hb3.cell (p := ⟨b0, o0 + k * 2, none⟩) hw0).trans x0; have z1 := (hb3.cell (p := ⟨b0, o0 + k * 2 + 1, none⟩) hw0).trans x1; have z2 := (hb3.cell (p := ⟨b1, o1 + k * 2, none⟩) hw1).trans x2; have z3 := (hb3.cell (p := ⟨b1, o1 + k * 2 + 1, none⟩) hw1).trans x3))
      go_wp2
      go_roundw
      case rel => exact ⟨k + 1, by omega, by go_num, hbel.trans (hb3.mono hbel.size)⟩
      case measure => simp [intOf]; omega
    · go_wp2
      go_ret
      exact ⟨rfl, hbel⟩

/-- What is known of a ledger that came in: its texts and its signatures. -/
structure LedAt (w : World) (ta : Option Addr) (n : Nat) (ga : Option Addr) (m : Nat) (ss : List ByteArray) (gs : List (Int × Int)) : Prop where
  s : SAt w ta n ss
  g : GAt w ga m gs

theorem LedAt.below {w w' : World} {ta ga : Option Addr} {n m : Nat} {ss : List ByteArray} {gs : List (Int × Int)} (h : LedAt w ta n ga m ss gs) {B : Nat} (hb : Below B w w') (hB : w.heap.size ≤ B) : LedAt w' ta n ga m ss gs :=
  ⟨h.s.below hb hB, h.g.below hb hB⟩

theorem below_box {w : World} (o : Obj) : Below w.heap.size w (w.alloc o) := (Below.refl _ _).alloc (Nat.le_refl _) _
theorem below_box2 {w : World} (o o' : Obj) : Below w.heap.size w ((w.alloc o).alloc o') := (below_box o).alloc (by simp) _
theorem below_box3 {w : World} (o o' o2 : Obj) : Below w.heap.size w (((w.alloc o).alloc o').alloc o2) := (below_box2 o o').alloc (by simp; omega) _

theorem block_at2 {w : World} {o o' : Obj} : ((w.alloc o).alloc o').heap[w.heap.size]? = some o := (Below.heap_alloc _ _ _ (by simp)).trans (heap_alloc_new w o)

set_option maxHeartbeats 400000 in
theorem eqL_any (a0 g0 a1 g1 : Option Addr) (n m c0 c1 d0 d1 : Nat) (ss : List ByteArray) (gs : List (Int × Int)) (w : World) (hl : n ≤ 1048576) (hm : m ≤ 1048576) (h0 : LedAt w a0 n g0 m ss gs) (h1 : LedAt w a1 n g1 m ss gs) :
    Calls Try.prog 9 #[.agg #[.slice a0 n c0, .slice g0 m d0], .agg #[.slice a1 n c1, .slice g1 m d1]] w fun e w' => e = .returned (.bool true) ∧ Below w.heap.size w w' := by
  have hbx : Below w.heap.size w ((w.alloc (.cells #[.slice a0 n c0, .slice g0 m d0] 29)).alloc (.cells #[.slice a1 n c1, .slice g1 m d1] 29)) := below_box2 _ _
  have hS := eqS_any a0 a1 n c0 c1 ss _ hl (h0.s.below hbx (Nat.le_refl _)) (h1.s.below hbx (Nat.le_refl _))
  have HBX : Hid (Below w.heap.size w ((w.alloc (.cells #[.slice a0 n c0, .slice g0 m d0] 29)).alloc (.cells #[.slice a1 n c1, .slice g1 m d1] 29))) := hbx
  have H0 : Hid (LedAt w a0 n g0 m ss gs) := h0
  have H1 : Hid (LedAt w a1 n g1 m ss gs) := h1
  clear hbx h0 h1
  go_enter Try.func9, Try.ntmps9
  go_wp2_with (first
    | (go_at_call 23; refine hS.mono ?_; rintro e w2 ⟨rfl, hb2⟩; have q0 : w2.cell? ⟨w.heap.size, 1, none⟩ = some (.slice g0 m d0) := (hb2.cell (p := ⟨w.heap.size, 1, none⟩) (by simp; omega)).trans (by simp); have q1 : w2.cell? ⟨w.heap.size + 1, 1, none⟩ = some (.slice g1 m d1) := (hb2.cell (p := ⟨w.heap.size + 1, 1, none⟩) (by simp)).trans (by simp); have hbw : Below w.heap.size w w2 := HBX.out.trans (hb2.mono (by simp; omega)))
    | (go_at_call 24; refine (eqG_any g0 g1 m d0 d1 gs _ hm (H0.out.g.below hbw (Nat.le_refl _)) (H1.out.g.below hbw (Nat.le_refl _))).mono ?_; rintro e w3 ⟨rfl, hb3⟩))
  go_ret
  exact ⟨rfl, hbw.trans (hb3.mono hbw.size)⟩

/-- A ledger's copy: two slices of new memory. -/
def OwnL (w : World) (base n m : Nat) (ss : List ByteArray) (gs : List (Int × Int)) (g0 k0 g1 k1 : Nat) : Prop :=
  w.ownsRow base 9 1 (.slice (some ⟨g0, 0, none⟩) n k0) n (ss.map Value.string) ∧ w.ownsRow base 71 2 (.slice (some ⟨g1, 0, none⟩) m k1) m (gcells gs)

theorem OwnL.led {w : World} {base n m : Nat} {ss : List ByteArray} {gs : List (Int × Int)} {g0 k0 g1 k1 : Nat} (h : OwnL w base n m ss gs g0 k0 g1 k1) (hn : ss.length = n) (hm : gs.length = m) : LedAt w (some ⟨g0, 0, none⟩) n (some ⟨g1, 0, none⟩) m ss gs :=
  ⟨SAt.owned h.1 hn, GAt.owned h.2 hm⟩

theorem OwnL.below {w w' : World} {base n m : Nat} {ss : List ByteArray} {gs : List (Int × Int)} {g0 k0 g1 k1 : Nat} (h : OwnL w base n m ss gs g0 k0 g1 k1) (hb : Below w.heap.size w w') : OwnL w' base n m ss gs g0 k0 g1 k1 := by
  have hg : w.grownBy w' none := ⟨hb.os, hb.tape, hb.output, hb.size, fun k hk _ => hb.block k hk⟩
  exact ⟨h.1.kept hg (by simp [Value.ownBlock]), h.2.kept hg (by simp [Value.ownBlock])⟩

theorem OwnL.caps {w : World} {base n m : Nat} {ss : List ByteArray} {gs : List (Int × Int)} {g0 k0 g1 k1 : Nat} (h : OwnL w base n m ss gs g0 k0 g1 k1) : n ≤ k0 ∧ m ≤ k1 ∧ k0 ≤ maxLen ∧ k1 ≤ maxLen := by
  rcases h.1.2 with ⟨e, _⟩ | ⟨_, _, _, e, _, _, h1, h2, _⟩
  · cases e
  rcases h.2.2 with ⟨e', _⟩ | ⟨_, _, _, e', _, _, h3, h4, _⟩
  · cases e'
  simp at e e'
  omega

/-- The three blocks that a ledger's copy lays. -/
theorem three_blocks (w : World) (o o' o2 : Obj) : (((w.alloc o).alloc o').alloc o2).heap[w.heap.size]? = some o ∧ (((w.alloc o).alloc o').alloc o2).heap[w.heap.size + 1]? = some o' ∧ (((w.alloc o).alloc o').alloc o2).heap[w.heap.size + 1 + 1]? = some o2 ∧ (((w.alloc o).alloc o').alloc o2).heap.size = w.heap.size + 1 + 1 + 1 := by
  refine ⟨(Below.heap_alloc _ _ _ (by simp; omega)).trans block_at2, ?_, ?_, by simp⟩
  · have := Below.heap_alloc ((w.alloc o).alloc o') o2 (w.heap.size + 1) (by simp)
    rw [this, show w.heap.size + 1 = (w.alloc o).heap.size by simp]
    exact heap_alloc_new _ _
  · rw [show w.heap.size + 1 + 1 = ((w.alloc o).alloc o').heap.size by simp]
    exact heap_alloc_new _ _

/-- Behind the texts' copy. -/
def ToL1 (w w2 : World) (ga : Option Addr) (n m : Nat) (ss : List ByteArray) (gs : List (Int × Int)) (g0 k0 : Nat) : Prop :=
  GAt (w2.setCell ⟨w.heap.size + 1 + 1, 0, none⟩ (.slice (some ⟨g0, 0, none⟩) n k0)) ga m gs ∧
  (w2.setCell ⟨w.heap.size + 1 + 1, 0, none⟩ (.slice (some ⟨g0, 0, none⟩) n k0)).heap[w.heap.size + 1]? = some (.cells #[.slice none 0 0, .slice none 0 0] 29 (0, 0)) ∧
  (w2.setCell ⟨w.heap.size + 1 + 1, 0, none⟩ (.slice (some ⟨g0, 0, none⟩) n k0)).heap[w.heap.size + 1 + 1]? = some (.cells #[.slice (some ⟨g0, 0, none⟩) n k0, .slice none 0 0] 29 (0, 0)) ∧
  w.heap.size + 1 + 1 < w2.heap.size ∧ Below w.heap.size w (w2.setCell ⟨w.heap.size + 1 + 1, 0, none⟩ (.slice (some ⟨g0, 0, none⟩) n k0)) ∧
  (w2.setCell ⟨w.heap.size + 1 + 1, 0, none⟩ (.slice (some ⟨g0, 0, none⟩) n k0)).ownsRow (w.heap.size + 1 + 1 + 1) 9 1 (.slice (some ⟨g0, 0, none⟩) n k0) n (ss.map Value.string)

theorem toL_one {w w2 : World} {ta ga : Option Addr} {n m tc gc g0 k0 : Nat} {ss : List ByteArray} {gs : List (Int × Int)} (h : LedAt w ta n ga m ss gs)
    (ho : w2.ownsRow (((w.alloc (.cells #[.slice ta n tc, .slice ga m gc] 25)).alloc (.cells #[.slice none 0 0, .slice none 0 0] 29)).alloc (.cells #[.slice none 0 0, .slice none 0 0] 29)).heap.size 9 1 (.slice (some ⟨g0, 0, none⟩) n k0) n (ss.map Value.string))
    (hb : Below (((w.alloc (.cells #[.slice ta n tc, .slice ga m gc] 25)).alloc (.cells #[.slice none 0 0, .slice none 0 0] 29)).alloc (.cells #[.slice none 0 0, .slice none 0 0] 29)).heap.size (((w.alloc (.cells #[.slice ta n tc, .slice ga m gc] 25)).alloc (.cells #[.slice none 0 0, .slice none 0 0] 29)).alloc (.cells #[.slice none 0 0, .slice none 0 0] 29)) w2) :
    w2.cell? ⟨w.heap.size, 0, none⟩ = some (.slice ta n tc) ∧ w2.cell? ⟨w.heap.size, 1, none⟩ = some (.slice ga m gc) ∧
    w2.cell? ⟨w.heap.size + 1, 0, none⟩ = some (.slice none 0 0) ∧ w2.cell? ⟨w.heap.size + 1, 1, none⟩ = some (.slice none 0 0) ∧ w2.frozen? ⟨w.heap.size + 1, 0, none⟩ = false ∧ w2.frozen? ⟨w.heap.size + 1, 1, none⟩ = false ∧
    w2.cell? ⟨w.heap.size + 1 + 1, 0, none⟩ = some (.slice none 0 0) ∧ w2.cell? ⟨w.heap.size + 1 + 1, 1, none⟩ = some (.slice none 0 0) ∧ w2.frozen? ⟨w.heap.size + 1 + 1, 0, none⟩ = false ∧ w2.frozen? ⟨w.heap.size + 1 + 1, 1, none⟩ = false ∧
    Hid (ToL1 w w2 ga n m ss gs g0 k0) := by
  obtain ⟨t0, t1, t2, t3⟩ := three_blocks w (.cells #[.slice ta n tc, .slice ga m gc] 25) (.cells #[.slice none 0 0, .slice none 0 0] 29) (.cells #[.slice none 0 0, .slice none 0 0] 29)
  have hbw : Below w.heap.size w w2 := (below_box3 _ _ _).trans (hb.mono (by rw [t3]; omega))
  have hsz := hb.size
  rw [t3] at hb hsz ho
  obtain ⟨a0, a1, _, _, _⟩ := res_cells t0 hb (by omega)
  obtain ⟨b0, b1, b2, b3, HB⟩ := res_cells t1 hb (by omega)
  obtain ⟨c0, c1, c2, c3, HC⟩ := res_cells t2 hb (by omega)
  have hbs := hbw.setCell (p := ⟨w.heap.size + 1 + 1, 0, none⟩) (show w.heap.size ≤ w.heap.size + 1 + 1 by omega) (.slice (some ⟨g0, 0, none⟩) n k0)
  refine ⟨a0, a1, b0, b1, b2, b3, c0, c1, c2, c3, h.g.below hbs (Nat.le_refl _), (Below.heap_setCell _ ⟨w.heap.size + 1 + 1, 0, none⟩ _ (w.heap.size + 1) (show w.heap.size + 1 ≠ w.heap.size + 1 + 1 by omega)).trans HB.out, ?_, by omega, hbs, ownsRow_setCell_below ho (a := ⟨w.heap.size + 1 + 1, 0, none⟩) (show w.heap.size + 1 + 1 < _ by omega) _⟩
  have := Joins.block_setCell (i := 0) HC.out (.slice (some ⟨g0, 0, none⟩) n k0)
  simpa using this

theorem toL_two {w w2 w4 : World} {ga : Option Addr} {n m g0 k0 g1 k1 : Nat} {ss : List ByteArray} {gs : List (Int × Int)} (h : ToL1 w w2 ga n m ss gs g0 k0)
    (ho : w4.ownsRow (w2.setCell ⟨w.heap.size + 1 + 1, 0, none⟩ (.slice (some ⟨g0, 0, none⟩) n k0)).heap.size 71 2 (.slice (some ⟨g1, 0, none⟩) m k1) m (gcells gs))
    (hb : Below (w2.setCell ⟨w.heap.size + 1 + 1, 0, none⟩ (.slice (some ⟨g0, 0, none⟩) n k0)).heap.size (w2.setCell ⟨w.heap.size + 1 + 1, 0, none⟩ (.slice (some ⟨g0, 0, none⟩) n k0)) w4) :
    w4.cell? ⟨w.heap.size + 1, 0, none⟩ = some (.slice none 0 0) ∧ w4.cell? ⟨w.heap.size + 1, 1, none⟩ = some (.slice none 0 0) ∧ w4.frozen? ⟨w.heap.size + 1, 0, none⟩ = false ∧ w4.frozen? ⟨w.heap.size + 1, 1, none⟩ = false ∧
    w4.cell? ⟨w.heap.size + 1 + 1, 0, none⟩ = some (.slice (some ⟨g0, 0, none⟩) n k0) ∧ w4.cell? ⟨w.heap.size + 1 + 1, 1, none⟩ = some (.slice none 0 0) ∧ w4.frozen? ⟨w.heap.size + 1 + 1, 0, none⟩ = false ∧ w4.frozen? ⟨w.heap.size + 1 + 1, 1, none⟩ = false ∧
    Hid ((w4.setCell ⟨w.heap.size + 1 + 1, 1, none⟩ (.slice (some ⟨g1, 0, none⟩) m k1)).heap[w.heap.size + 1]? = some (.cells #[.slice none 0 0, .slice none 0 0] 29 (0, 0)) ∧
      OwnL (((w4.setCell ⟨w.heap.size + 1 + 1, 1, none⟩ (.slice (some ⟨g1, 0, none⟩) m k1)).setCell ⟨w.heap.size + 1, 0, none⟩ (.slice (some ⟨g0, 0, none⟩) n k0)).setCell ⟨w.heap.size + 1, 1, none⟩ (.slice (some ⟨g1, 0, none⟩) m k1)) w.heap.size n m ss gs g0 k0 g1 k1 ∧
      Below w.heap.size w (((w4.setCell ⟨w.heap.size + 1 + 1, 1, none⟩ (.slice (some ⟨g1, 0, none⟩) m k1)).setCell ⟨w.heap.size + 1, 0, none⟩ (.slice (some ⟨g0, 0, none⟩) n k0)).setCell ⟨w.heap.size + 1, 1, none⟩ (.slice (some ⟨g1, 0, none⟩) m k1))) := by
  obtain ⟨_, hB, hC, hsz, hbw, ho0⟩ := h
  have hss : (w2.setCell ⟨w.heap.size + 1 + 1, 0, none⟩ (.slice (some ⟨g0, 0, none⟩) n k0)).heap.size = w2.heap.size := by simp
  have hg : (w2.setCell ⟨w.heap.size + 1 + 1, 0, none⟩ (.slice (some ⟨g0, 0, none⟩) n k0)).grownBy w4 none := ⟨hb.os, hb.tape, hb.output, hb.size, fun k hk _ => hb.block k hk⟩
  have ho4 := ho0.kept hg (by simp [Value.ownBlock])
  have hbb := hbw.trans (hb.mono hbw.size)
  rw [hss] at hb ho
  obtain ⟨b0, b1, b2, b3, HB⟩ := res_cells hB hb (by omega)
  obtain ⟨c0, c1, c2, c3, HC⟩ := res_cells hC hb (by omega)
  refine ⟨b0, b1, b2, b3, c0, c1, c2, c3, (Below.heap_setCell _ ⟨w.heap.size + 1 + 1, 1, none⟩ _ (w.heap.size + 1) (show w.heap.size + 1 ≠ w.heap.size + 1 + 1 by omega)).trans HB.out, ⟨?_, ?_⟩, ?_⟩
  · refine Joins.ownsRow_le (base := w.heap.size + 1 + 1 + 1) ?_ (by omega)
    exact ownsRow_setCell_below (ownsRow_setCell_below (ownsRow_setCell_below ho4 (a := ⟨w.heap.size + 1 + 1, 1, none⟩) (show w.heap.size + 1 + 1 < _ by omega) _) (a := ⟨w.heap.size + 1, 0, none⟩) (show w.heap.size + 1 < _ by omega) _) (a := ⟨w.heap.size + 1, 1, none⟩) (show w.heap.size + 1 < _ by omega) _
  · refine Joins.ownsRow_le (base := w2.heap.size) ?_ (by omega)
    exact ownsRow_setCell_below (ownsRow_setCell_below (ownsRow_setCell_below ho (a := ⟨w.heap.size + 1 + 1, 1, none⟩) (show w.heap.size + 1 + 1 < _ by omega) _) (a := ⟨w.heap.size + 1, 0, none⟩) (show w.heap.size + 1 < _ by omega) _) (a := ⟨w.heap.size + 1, 1, none⟩) (show w.heap.size + 1 < _ by omega) _
  · exact ((hbb.setCell (p := ⟨w.heap.size + 1 + 1, 1, none⟩) (show w.heap.size ≤ w.heap.size + 1 + 1 by omega) _).setCell (p := ⟨w.heap.size + 1, 0, none⟩) (show w.heap.size ≤ w.heap.size + 1 by omega) _).setCell (p := ⟨w.heap.size + 1, 1, none⟩) (show w.heap.size ≤ w.heap.size + 1 by omega) _

set_option maxHeartbeats 400000 in
theorem toL_any (ta ga : Option Addr) (n m tc gc : Nat) (ss : List ByteArray) (gs : List (Int × Int)) (w : World) (hl : n ≤ 1048576) (hm : m ≤ 1048576) (h : LedAt w ta n ga m ss gs) :
    Calls Try.prog 6 #[.agg #[.slice ta n tc, .slice ga m gc]] w fun e w' => ∃ g0 k0 g1 k1, e = .returned (.agg #[.slice (some ⟨g0, 0, none⟩) n k0, .slice (some ⟨g1, 0, none⟩) m k1]) ∧ OwnL w' w.heap.size n m ss gs g0 k0 g1 k1 ∧ Below w.heap.size w w' := by
  have hbx : Below w.heap.size w (((w.alloc (.cells #[.slice ta n tc, .slice ga m gc] 25)).alloc (.cells #[.slice none 0 0, .slice none 0 0] 29)).alloc (.cells #[.slice none 0 0, .slice none 0 0] 29)) := below_box3 _ _ _
  have hS := toS_any ta n tc ss _ hl (h.s.below hbx (Nat.le_refl _))
  have HBX : Hid (Below w.heap.size w (((w.alloc (.cells #[.slice ta n tc, .slice ga m gc] 25)).alloc (.cells #[.slice none 0 0, .slice none 0 0] 29)).alloc (.cells #[.slice none 0 0, .slice none 0 0] 29))) := hbx
  have H0 : Hid (LedAt w ta n ga m ss gs) := h
  clear hbx h
  go_enter Try.func6, Try.ntmps6
  go_wp2_with (first
    | (go_at_call 18; refine hS.mono ?_; rintro e w2 ⟨g0, k0, rfl, ho0, hb2⟩; obtain ⟨p0, p1, q0, q1, q2, q3, r0, r1, r2, r3, HF⟩ := toL_one H0.out ho0 hb2)
    | (go_at_call 19; refine (toG_any ga m gc gs _ hm HF.out.1).mono ?_; rintro e w4 ⟨g1, k1, rfl, ho1, hb4⟩; obtain ⟨x0, x1, x2, x3, y0, y1, y2, y3, HZ⟩ := toL_two HF.out ho1 hb4))
  obtain ⟨s0, s1, s2⟩ := two_set HZ.out.1 (.slice (some ⟨g0, 0, none⟩) n k0) (.slice (some ⟨g1, 0, none⟩) m k1)
  refine bodyPost_ret (v := .agg #[.slice (some ⟨g0, 0, none⟩) n k0, .slice (some ⟨g1, 0, none⟩) m k1]) (by simp [results, Try.results6, go_sem, s0, s1]) rfl ⟨g0, k0, g1, k1, rfl, HZ.out.2⟩

end Go.Proofs.Ytocgmgcjbmipnaa
