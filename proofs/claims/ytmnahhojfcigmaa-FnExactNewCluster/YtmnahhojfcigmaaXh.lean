/- Lists of numbers in memory of one's own, marked; small helps for the laws on lists of numbers. -/
import Derived.Test.YtmnahhojfcigmaaRu
namespace Go.Proofs.Ytmnahhojfcigmaa
open Go.RowKit Go.Maps Go.WideMaps

theorem mkq_one {w : World} {f : Nat} {v : Value} {K K1 : Nat} {Q : World → Prop} (hK : K = K1) (h : Calls Try.prog f #[v, .int .i64 ((1 : Nat) : Int)] w fun e w' => e = .returned (.int .i64 (K : Nat)) ∧ Q w') : Calls Try.prog f #[v, .int .i64 1] w fun e w' => e = .returned (.int .i64 (K1 : Nat)) ∧ Q w' := by subst hK; exact h
theorem mkq_eq {w : World} {f : Nat} {v : Value} {k K K1 : Nat} {Q : World → Prop} (hK : K = K1) (h : Calls Try.prog f #[v, .int .i64 (k : Nat)] w fun e w' => e = .returned (.int .i64 (K : Nat)) ∧ Q w') : Calls Try.prog f #[v, .int .i64 (k : Nat)] w fun e w' => e = .returned (.int .i64 (K1 : Nat)) ∧ Q w' := by subst hK; exact h
theorem row_caps1 {w : World} {base n c g : Nat} {xs : List Value} {e : TypeId} (h : w.ownsRow base e 1 (.slice (some ⟨g, 0, none⟩) n c) n xs) : n ≤ c ∧ c ≤ maxLen := by
  rcases id h.2 with ⟨e, _⟩ | ⟨g', c', cur, e, _, _, k1, k2, _⟩
  · cases e
  · simp at e
    obtain ⟨rfl, rfl⟩ := e
    exact ⟨k1, k2⟩
end Go.Proofs.Ytmnahhojfcigmaa
