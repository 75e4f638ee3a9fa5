/- The specification lets a member join. -/
import Derived.Test.YtglpbkicmpmepaaEh
namespace Go.Proofs.Ytglpbkicmpmepaa
open Go.RowKit Go.Maps Go.WideMaps

theorem mcells_one {ms : List Mb} : ∀ u ∈ mcells ms, u.oneCell' = true := by
  intro u hu
  obtain ⟨m, _, h⟩ := List.mem_flatMap.1 hu
  simp only [List.mem_cons, List.not_mem_nil, or_false] at h
  rcases h with rfl | rfl | rfl <;> rfl

end Go.Proofs.Ytglpbkicmpmepaa
