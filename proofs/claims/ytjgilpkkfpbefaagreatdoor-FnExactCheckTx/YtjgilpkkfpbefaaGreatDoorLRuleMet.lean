/- The law on RuleMet answers true, whatever ledger, rule and numbers come in, and writes nothing that was there. -/
import Derived.Test.YtjgilpkkfpbefaaGreatDoorIMet
namespace Go.Proofs.YtjgilpkkfpbefaaGreatDoor
open Go.RowKit Go.Shelf Go.Maps Go.WideMaps

def SzL2 (n m : Nat) (ss : List ByteArray) (left r : Int) : Prop := r = -1 ∨ 0 ≤ r ∧ r ≤ left ∧ (n : Int) ≤ left ∧ (m : Int) ≤ left ∧ ∀ j, j < n → ((ss.getD j E0).size : Int) ≤ left

set_option maxHeartbeats 400000 in
theorem szL2_any (n m tc gc : Nat) (ta ga : Option Addr) (ss : List ByteArray) (gs : List (Int × Int)) (left : Int) (w : World) (h0 : 0 ≤ left) (h1 : left ≤ 1048576) (hn : n ≤ maxLen) (hm : m ≤ maxLen) (hf : Fine ss gs) (h : LedAt w ta n ga m ss gs) :
    Calls Tryz.prog 4 #[.agg #[.slice ta n tc, .slice ga m gc], .int .i64 left] w fun e w' => ∃ r, e = .returned (.int .i64 r) ∧ SzL2 n m ss left r ∧ Below w.heap.size w w' := by
  have hbx : Below w.heap.size w (w.alloc (.cells #[.slice ta n tc, .slice ga m gc] 25)) := below_box _
  have hS := szS_any ta n tc ss left _ h0 h1 hn hf.s (h.s.below hbx (Nat.le_refl _))
  have hb0 : w.heap.size < (w.alloc (.cells #[.slice ta n tc, .slice ga m gc] 25)).heap.size := by simp
  go_enter Tryz.func4, Tryz.ntmps4
  go_wp2_with (first
    | (go_at_call 16; refine hS.mono ?_; rintro e w2 ⟨r, rfl, hw, hr⟩; have hw2 := hw.symm; subst hw2)
    | (go_at_call 17; rcases hr with hr | hr; (omega); refine (szG_any ga m gc r _ hr.1 (by omega) hm).mono ?_; rintro e w2 ⟨r2, rfl, hw, hr2⟩; have hw2 := hw.symm; subst hw2))
  · go_ret
    exact ⟨_, rfl, Or.inl rfl, hbx⟩
  · go_ret
    exact ⟨_, rfl, Or.inl rfl, hbx⟩
  · have h2 : 0 ≤ r2 := by assumption
    go_ret
    refine ⟨_, rfl, Or.inr ⟨h2, ?_⟩, hbx⟩
    rcases hr2 with e | e
    · omega
    · exact ⟨by omega, by omega, by omega, hr.2.2.2⟩

end Go.Proofs.YtjgilpkkfpbefaaGreatDoor
