/- What the laws' own helpers do with a ledger that came in: its size is told, it is copied into new memory, two are compared. -/
import Derived.Test.YtaopblgnmmhjfaaBase
namespace Go.Proofs.Ytaopblgnmmhjfaa
open Go.RowKit Go.Maps

def SzS (n : Nat) (ss : List ByteArray) (left r : Int) : Prop := r = -1 ∨ 0 ≤ r ∧ r ≤ left ∧ (n : Int) ≤ left ∧ ∀ j, j < n → ((ss.getD j E0).size : Int) ≤ left
def SzG (n : Nat) (left r : Int) : Prop := r = -1 ∨ 0 ≤ r ∧ r ≤ left ∧ (n : Int) ≤ left

set_option maxHeartbeats 400000 in
theorem szS_any (a : Option Addr) (n cap : Nat) (ss : List ByteArray) (left : Int) (w : World) (h0 : 0 ≤ left) (h1 : left ≤ 1048576) (hl : n ≤ maxLen) (hz : ∀ j, (ss.getD j E0).size ≤ maxLen) (hs : SAt w a n ss) :
    Calls Try.prog 92 #[.slice a n cap, .int .i64 left] w fun e w' => ∃ r : Int, e = .returned (.int .i64 r) ∧ w' = w ∧ SzS n ss left r := by
  unfold maxLen at hl hz
  obtain ⟨hn, hs⟩ := hs
  clear hn
  rcases hs with rfl | ⟨b, off, rfl, hb, hc⟩
  · go_enter Try.func92, Try.ntmps92
    go_wp2
    refine wp_loop_rounds 1 ?_
    rw [rounds_succ]
    go_wp2
    go_ret
    exact ⟨_, rfl, rfl, Or.inr ⟨by omega, by omega, by omega, fun j hj => by omega⟩⟩
  · by_cases hn : left < n
    · go_enter Try.func92, Try.ntmps92
      go_wp2
      go_ret
      exact ⟨_, rfl, rfl, Or.inl rfl⟩
    · go_enter Try.func92, Try.ntmps92
      go_wp2
      go_loop [1, 5] (fun v i => ∃ k : Nat, k ≤ n ∧ i = .int .i64 k ∧ ∃ l : Int, v = .int .i64 l ∧ 0 ≤ l ∧ l ≤ left - n ∧ ∀ j, j < k → ((ss.getD j E0).size : Int) ≤ left) (fun _ i => n - (intOf i).toNat)
      case atStart => exact ⟨0, Nat.zero_le _, rfl, _, rfl, by omega, by omega, fun j hj => by omega⟩
      case round =>
        obtain ⟨k, hk, rfl, l, rfl, hl0, hl1, hj⟩ := hrel
        by_cases hlt : k < n
        · obtain ⟨s, hs⟩ : ∃ s, s = ss.getD k E0 := ⟨_, rfl⟩
          have hcx := hc k hlt
          have hsz := hz k
          rw [← hs] at hcx hsz
          have HS : Hid (s = ss.getD k E0) := hs
          have HJ : Hid (∀ j, j < k → ((ss.getD j E0).size : Int) ≤ left) := hj
          clear hs hj hc hz
          by_cases hneg : l < s.size
          · go_wp2
            go_ret
            exact ⟨_, rfl, rfl, Or.inl rfl⟩
          · go_wp2
            go_round
            case rel =>
              refine ⟨k + 1, by omega, by go_num, _, rfl, by omega, by omega, fun j hj => ?_⟩
              by_cases e : j = k
              · subst e; rw [← HS.out]; omega
              · exact HJ.out j (by omega)
            case measure => simp [intOf]; omega
        · go_wp2
          go_ret
          exact ⟨_, rfl, rfl, Or.inr ⟨hl0, by omega, by omega, fun j h => hj j (by omega)⟩⟩

theorem szG_any (a : Option Addr) (n cap : Nat) (left : Int) (w : World) (h0 : 0 ≤ left) (h1 : left ≤ 1048576) (hl : n ≤ maxLen) :
    Calls Try.prog 93 #[.slice a n cap, .int .i64 left] w fun e w' => ∃ r : Int, e = .returned (.int .i64 r) ∧ w' = w ∧ SzG n left r := by
  unfold maxLen at hl
  by_cases hn : left < n
  · go_enter Try.func93, Try.ntmps93
    go_wp2
    go_ret
    exact ⟨_, rfl, rfl, Or.inl rfl⟩
  · go_enter Try.func93, Try.ntmps93
    go_wp2
    go_ret
    exact ⟨_, rfl, rfl, Or.inr ⟨by omega, by omega, by omega⟩⟩

end Go.Proofs.Ytaopblgnmmhjfaa
