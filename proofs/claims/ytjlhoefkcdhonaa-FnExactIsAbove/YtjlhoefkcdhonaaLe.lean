/- IsAbove and Related: the specification's. -/
import Derived.Test.YtjlhoefkcdhonaaLd
namespace Go.Proofs.Ytjlhoefkcdhonaa
open Go.RowKit Go.Maps Go.WideMaps

def isAboveR (ms : List Mb) (a b : Int) : Bool := if treeR ms = 0 then aboveB ms a b else false
set_option maxHeartbeats 1000000 in
theorem sIsAbove_any (n c : Nat) (ad : Option Addr) (ms : List Mb) (a b : Int) (w : World) (hn : n ≤ 1048576) (hcap : n ≤ c) (hC : MAt w ad n ms) :
    Calls Try.prog 22 #[.slice ad n c, .int .i64 a, .int .i64 b] w fun e w' => e = .returned (.bool (isAboveR ms a b)) ∧ Below w.heap.size w w' := by
  have hF := l9Fault_any n c ad ms w hcap hC
  have HC : Hid (MAt w ad n ms) := hC
  obtain ⟨cd, hcd⟩ : ∃ x, x = treeR ms := ⟨_, rfl⟩
  rw [← hcd] at hF
  by_cases h0 : cd = 0
  · have HR : Hid (isAboveR ms a b = aboveB ms a b) := by show _ = _; unfold isAboveR; rw [if_pos (by rw [← hcd]; exact h0)]
    have HZ : Hid (treeR ms = 0) := by show _ = _; rw [← hcd]; exact h0
    rw [HR.out]
    obtain ⟨rr, hrr⟩ : ∃ x, x = aboveB ms a b := ⟨_, rfl⟩
    rw [← hrr]
    have HRR : Hid (aboveB ms a b = rr) := hrr.symm
    subst h0
    clear hcd hrr hC
    go_enter Try.func22, Try.ntmps22
    go_wp2_with (first
      | (go_at_call 38; (with_reducible refine hF.mono ?_); clear hF; rintro e w2 ⟨rfl, hb2⟩; have hA := l9Above_any n c ad ms a b w2 hn HZ.out (HC.out.below hb2 (Nat.le_refl _)); rw [HRR.out] at hA)
      | (go_at_call 45; (with_reducible refine hA.mono ?_); clear hA; rintro e w' ⟨rfl, hw⟩; have hw2 := hw.symm; subst hw2))
    go_ret
    exact ⟨rfl, hb2⟩
  · have e1 : isAboveR ms a b = false := by unfold isAboveR; rw [if_neg (by rw [← hcd]; exact h0)]
    rw [e1]
    have hne : (cd == 0) = false := by simpa using h0
    clear hcd e1 hC
    go_enter Try.func22, Try.ntmps22
    go_wp2_with (go_at_call 38; (with_reducible refine hF.mono ?_); clear hF; rintro e w2 ⟨rfl, hb2⟩)
    go_ret
    exact ⟨rfl, hb2⟩

end Go.Proofs.Ytjlhoefkcdhonaa
