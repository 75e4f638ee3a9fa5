/- The law on PutCoins answers true, whatever comes in, and writes nothing that was there. -/
import Derived.Test.YtdfijlcjmllplaaDw
import Derived.Test.YtdfijlcjmllplaaDx
import Derived.Test.YtdfijlcjmllplaaJn3
namespace Go.Proofs.Ytdfijlcjmllplaa
open Go.RowKit Go.Maps Go.WideMaps

theorem puts_outs {n : Nat} {ti : Bool} {t h : Int} {os : List Ou} (e : putsR n ti t os h = 0) : outsR os = 0 := by
  unfold putsR at e
  by_cases h1 : putFR t os h ≠ 0
  · rw [if_pos h1] at e; exact absurd e h1
  · have h2 : putFR t os h = 0 := Classical.not_not.1 h1
    unfold putFR at h2
    by_cases h3 : inB t 1 60 = false ∨ inB h 0 999 = false
    · rw [if_pos h3] at h2; cases h2
    · rw [if_neg h3] at h2
      by_cases h4 : 4 < os.length
      · rw [if_pos h4] at h2; cases h2
      · rw [if_neg h4] at h2; exact h2
theorem putR_few (cs : List Co) (t : Int) (os : List Ou) (h : Int) (m : Bool) : (putR cs t os h m).2.length ≤ 40 ∧ ∀ j, j < (putR cs t os h m).2.length → ((putR cs t os h m).2.getD j C0).l.length ≤ 1048576 := by
  unfold putR
  by_cases h0 : coinsR cs ≠ 0
  · rw [if_pos h0]; exact ⟨by simp, fun j hj => by simp at hj⟩
  · rw [if_neg h0]
    have h0' : coinsR cs = 0 := Classical.not_not.1 h0
    by_cases h1 : putsR cs.length (hasT cs t) t os h ≠ 0
    · rw [if_pos h1]; exact ⟨by simp, fun j hj => by simp at hj⟩
    · rw [if_neg h1]
      have h1' : putsR cs.length (hasT cs t) t os h = 0 := Classical.not_not.1 h1
      have hl := addCs_len cs t h m os os.length
      refine ⟨by have := (puts_taken h1').2; show (addCs cs (newCs t h m os os.length)).length ≤ 40; omega, fun j hj => ?_⟩
      have hj' : j < (addCs cs (newCs t h m os os.length)).length := hj
      have := addCs_lens (t := t) (h := h) (m := m) (Nat.le_refl _) (coins_rise h0').2.1 (outs_more (puts_outs h1')) j (by omega)
      show ((addCs cs (newCs t h m os os.length)).getD j C0).l.length ≤ 1048576
      omega

end Go.Proofs.Ytdfijlcjmllplaa
