/- Lists of numbers in memory of one's own, marked; small helps for the laws on lists of numbers. -/
import Derived.Test.YtobcjpoejlcloaaRu
namespace Go.Proofs.Ytobcjpoejlcloaa
open Go.RowKit Go.Maps Go.WideMaps

theorem mkq_one {w : World} {f : Nat} {v : Value} {K K1 : Nat} {Q : World → Prop} (hK : K = K1) (h : Calls Try.prog f #[v, .int .i64 ((1 : Nat) : Int)] w fun e w' => e = .returned (.int .i64 (K : Nat)) ∧ Q w') : Calls Try.prog f #[v, .int .i64 1] w fun e w' => e = .returned (.int .i64 (K1 : Nat)) ∧ Q w' := by subst hK; exact h
theorem own1_new {w : World} {base n c : Nat} {a : Option Addr} {xs : List Value} (h : w.ownsRow base 2 1 (.slice a n c) n xs) : Own1 w base w.heap.size a n c xs := ⟨h, fun b hb => (h.lt b hb).2⟩
theorem row_caps1 {w : World} {base n c g : Nat} {xs : List Value} {e : TypeId} (h : w.ownsRow base e 1 (.slice (some ⟨g, 0, none⟩) n c) n xs) : n ≤ c ∧ c ≤ maxLen := by
  rcases id h.2 with ⟨e, _⟩ | ⟨g', c', cur, e, _, _, k1, k2, _⟩
  · cases e
  · simp at e
    obtain ⟨rfl, rfl⟩ := e
    exact ⟨k1, k2⟩
theorem markO_any (a : Option Addr) (n c lo hi k : Nat) (xs : List Value) (w : World) (hkn : k + n ≤ 4000000) (h : Own1 w lo hi a n c xs) :
    Calls Try.prog 9 #[.slice a n c, .int .i64 k] w fun e w' => e = .returned (.int .i64 (k + n : Nat)) ∧ Own1 w' lo hi a n c (mkI k n) ∧ Chg w w' lo hi :=
  (markI_any (.slice a n c) n lo k xs w hkn h.t).mono fun _ _ ⟨h1, h2, h3⟩ => ⟨h1, ⟨h2, h.tb⟩, Chg.of_grown h3 (fun k hk => ⟨(h.t.lt k hk).1, h.tb k hk⟩)⟩

end Go.Proofs.Ytobcjpoejlcloaa
