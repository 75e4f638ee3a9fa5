/- IsAbove and Related: the specification's. -/
import Derived.Test.YtinlhghlmfcbfaaLd
namespace Go.Proofs.Ytinlhghlmfcbfaa
open Go.RowKit Go.Maps Go.WideMaps

def isAboveR (ms : List Mb) (a b : Int) : Bool := if treeR ms = 0 then aboveB ms a b else false
def relB (ms : List Mb) (a b : Int) : Bool := aboveB ms a b || aboveB ms b a
set_option maxHeartbeats 1000000 in
theorem l9Related_any (n c : Nat) (ad : Option Addr) (ms : List Mb) (a b : Int) (w : World) (hn : n ≤ 1048576) (hz : treeR ms = 0) (hC : MAt w ad n ms) :
    Calls Try.prog 50 #[.slice ad n c, .int .i64 a, .int .i64 b] w fun e w' => e = .returned (.bool (relB ms a b)) ∧ w' = w := by
  have h1 := l9Above_any n c ad ms a b w hn hz hC
  have h2 := l9Above_any n c ad ms b a w hn hz hC
  unfold relB
  obtain ⟨r1, hr1⟩ : ∃ r, r = aboveB ms a b := ⟨_, rfl⟩
  obtain ⟨r2, hr2⟩ : ∃ r, r = aboveB ms b a := ⟨_, rfl⟩
  rw [← hr1] at h1 ⊢
  rw [← hr2] at h2 ⊢
  clear hr1 hr2 hC hz
  cases r1
  · go_enter Try.func50, Try.ntmps50
    go_wp2_with (go_at_call 27; first | ((have hq := h1); clear h1; (with_reducible refine hq.mono ?_); clear hq; rintro e w' ⟨rfl, hw⟩; have hw2 := hw.symm; subst hw2) | ((with_reducible refine h2.mono ?_); clear h2; rintro e w' ⟨rfl, hw⟩; have hw2 := hw.symm; subst hw2))
    go_ret
    exact ⟨by simp, rfl⟩
  · go_enter Try.func50, Try.ntmps50
    go_wp2_with (go_at_call 27; (with_reducible refine h1.mono ?_); clear h1; rintro e w' ⟨rfl, hw⟩; have hw2 := hw.symm; subst hw2)
    go_ret
    exact ⟨by simp, rfl⟩

end Go.Proofs.Ytinlhghlmfcbfaa
