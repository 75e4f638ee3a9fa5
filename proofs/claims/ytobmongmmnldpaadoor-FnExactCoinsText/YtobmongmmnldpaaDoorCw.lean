/- The program's CoinAt. -/
import Derived.Test.YtobmongmmnldpaaDoorCnB
import Derived.Test.YtobmongmmnldpaaDoorIdOf
import Derived.OneCell
import Derived.Test.YtobmongmmnldpaaDoorCnC
import Derived.Maps.OwnSet
import Derived.Maps.Range
namespace Go.Proofs.YtobmongmmnldpaaDoor
open Go.RowKit Go.Maps Go.WideMaps

theorem rises {pr : Int × Int} {cs : List Co} (h : csR pr cs = 0) : (∀ c ∈ cs, coinR c = 0) ∧ (∀ c ∈ cs, 0 < cmpR (c.p, c.q) pr) ∧ cs.Pairwise (fun a b => 0 < cmpR (b.p, b.q) (a.p, a.q)) := by
  induction cs generalizing pr with
  | nil => exact ⟨fun c hc => (by cases hc), fun c hc => (by cases hc), List.Pairwise.nil⟩
  | cons c t ih =>
    have h0 : coinR c = 0 := by
      by_cases e : coinR c = 0
      · exact e
      · rw [csR_bad rfl e] at h; exact absurd h e
    have h1 : ¬ cmpR (c.p, c.q) pr ≤ 0 := fun e => by rw [csR_form h0 e] at h; cases h
    rw [csR_go h0 h1] at h
    obtain ⟨i1, i2, i3⟩ := ih h
    refine ⟨fun d hd => ?_, fun d hd => ?_, List.Pairwise.cons (fun d hd => i2 d hd) i3⟩
    · rcases List.mem_cons.1 hd with rfl | hd
      · exact h0
      · exact i1 d hd
    · rcases List.mem_cons.1 hd with rfl | hd
      · omega
      · obtain ⟨p1, p2⟩ := pr
        have a := cmpR_pos.1 (i2 d hd)
        have b := cmpR_pos.1 (show 0 < cmpR (c.p, c.q) (p1, p2) by omega)
        exact cmpR_pos.2 (by omega)
theorem coins_rise {cs : List Co} (h : coinsR cs = 0) : cs.length ≤ 40 ∧ (∀ c ∈ cs, coinR c = 0) ∧ cs.Pairwise (fun a b => 0 < cmpR (b.p, b.q) (a.p, a.q)) := by
  unfold coinsR at h
  by_cases e : 40 < cs.length
  · rw [if_pos e] at h; cases h
  · rw [if_neg e] at h; exact ⟨by omega, (rises h).1, (rises h).2.2⟩
end Go.Proofs.YtobmongmmnldpaaDoor
