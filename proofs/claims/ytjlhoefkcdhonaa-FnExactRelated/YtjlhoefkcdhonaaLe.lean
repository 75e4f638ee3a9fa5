/- IsAbove and Related: the specification's. -/
import Derived.Test.YtjlhoefkcdhonaaLd
namespace Go.Proofs.Ytjlhoefkcdhonaa
open Go.RowKit Go.Maps Go.WideMaps

def relB (ms : List Mb) (a b : Int) : Bool := aboveB ms a b || aboveB ms b a
def relatedR (ms : List Mb) (a b : Int) : Bool := if treeR ms = 0 then relB ms a b else false

set_option maxHeartbeats 1000000 in
theorem l9Related_any (n c : Nat) (ad : Option Addr) (ms : List Mb) (a b : Int) (w : World) (hn : n ≤ 1048576) (hz : treeR ms = 0) (hC : MAt w ad n ms) :
    Calls Try.prog 55 #[.slice ad n c, .int .i64 a, .int .i64 b] w fun e w' => e = .returned (.bool (relB ms a b)) ∧ w' = w := by
  have h1 := l9Above_any n c ad ms a b w hn hz hC
  have h2 := l9Above_any n c ad ms b a w hn hz hC
  unfold relB
  obtain ⟨r1, hr1⟩ : ∃ r, r = aboveB ms a b := ⟨_, rfl⟩
  obtain ⟨r2, hr2⟩ : ∃ r, r = aboveB ms b a := ⟨_, rfl⟩
  rw [← hr1] at h1 ⊢
  rw [← hr2] at h2 ⊢
  clear hr1 hr2 hC hz
  cases r1
  · go_enter Try.func55, Try.ntmps55
    go_wp2_with (go_at_call 45; first | ((have hq := h1); clear h1; (with_reducible refine hq.mono ?_); clear hq; rintro e w' ⟨rfl, hw⟩; have hw2 := hw.symm; subst hw2) | ((with_reducible refine h2.mono ?_); clear h2; rintro e w' ⟨rfl, hw⟩; have hw2 := hw.symm; subst hw2))
    go_ret
    exact ⟨by simp, rfl⟩
  · go_enter Try.func55, Try.ntmps55
    go_wp2_with (go_at_call 45; (with_reducible refine h1.mono ?_); clear h1; rintro e w' ⟨rfl, hw⟩; have hw2 := hw.symm; subst hw2)
    go_ret
    exact ⟨by simp, rfl⟩

set_option maxHeartbeats 1000000 in
theorem sRelated_any (n c : Nat) (ad : Option Addr) (ms : List Mb) (a b : Int) (w : World) (hn : n ≤ 1048576) (hcap : n ≤ c) (hC : MAt w ad n ms) :
    Calls Try.prog 34 #[.slice ad n c, .int .i64 a, .int .i64 b] w fun e w' => e = .returned (.bool (relatedR ms a b)) ∧ Below w.heap.size w w' := by
  have hF := l9Fault_any n c ad ms w hcap hC
  have HC : Hid (MAt w ad n ms) := hC
  obtain ⟨cd, hcd⟩ : ∃ x, x = treeR ms := ⟨_, rfl⟩
  rw [← hcd] at hF
  by_cases h0 : cd = 0
  · have HR : Hid (relatedR ms a b = relB ms a b) := by show _ = _; unfold relatedR; rw [if_pos (by rw [← hcd]; exact h0)]
    have HZ : Hid (treeR ms = 0) := by show _ = _; rw [← hcd]; exact h0
    rw [HR.out]
    obtain ⟨rr, hrr⟩ : ∃ x, x = relB ms a b := ⟨_, rfl⟩
    rw [← hrr]
    have HRR : Hid (relB ms a b = rr) := hrr.symm
    subst h0
    clear hcd hrr hC
    go_enter Try.func34, Try.ntmps34
    go_wp2_with (first
      | (go_at_call 38; (with_reducible refine hF.mono ?_); clear hF; rintro e w2 ⟨rfl, hb2⟩; have hA := l9Related_any n c ad ms a b w2 hn HZ.out (HC.out.below hb2 (Nat.le_refl _)); rw [HRR.out] at hA)
      | (go_at_call 55; (with_reducible refine hA.mono ?_); clear hA; rintro e w' ⟨rfl, hw⟩; have hw2 := hw.symm; subst hw2))
    go_ret
    exact ⟨rfl, hb2⟩
  · have e1 : relatedR ms a b = false := by unfold relatedR; rw [if_neg (by rw [← hcd]; exact h0)]
    rw [e1]
    have hne : (cd == 0) = false := by simpa using h0
    clear hcd e1 hC
    go_enter Try.func34, Try.ntmps34
    go_wp2_with (go_at_call 38; (with_reducible refine hF.mono ?_); clear hF; rintro e w2 ⟨rfl, hb2⟩)
    go_ret
    exact ⟨rfl, hb2⟩

end Go.Proofs.Ytjlhoefkcdhonaa
