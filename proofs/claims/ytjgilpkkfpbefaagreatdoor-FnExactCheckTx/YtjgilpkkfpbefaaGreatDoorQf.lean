/- A transaction is taken back in the program's purse. -/
import Derived.Test.YtjgilpkkfpbefaaGreatDoorQe
namespace Go.Proofs.YtjgilpkkfpbefaaGreatDoor
open Go.RowKit Go.Maps Go.WideMaps

def IsMap (w : World) (B : Nat) : Prop := ∃ es cl, w.heap[B]? = some (.map es cl)
theorem Pu.isMap {w : World} {lo B : Nat} {ps : List (Co × Value)} (h : Pu w lo B ps) : IsMap w B := by
  obtain ⟨D, ⟨es, cl, hb, _⟩, _⟩ := h.map
  exact ⟨es, cl, hb⟩
theorem rise_inj {cs : List Co} (h : RiseC cs) {a b : Co} (ha : a ∈ cs) (hb : b ∈ cs) (e : (a.p, a.q) = (b.p, b.q)) : a = b :=
  Classical.byContradiction fun hne => pair_of (R := fun x y : Co => (x.p, x.q) ≠ (y.p, y.q)) (fun _ _ h => h.symm) (rise_ne h) a ha b hb hne e
end Go.Proofs.YtjgilpkkfpbefaaGreatDoor
