/- The specification lets a member join. -/
import Derived.Test.YtpcgkgjmcnncdaaEe
import Derived.Test.YtpcgkgjmcnncdaaRu
import Derived.Test.YtpcgkgjmcnncdaaMk
import Derived.Test.YtpcgkgjmcnncdaaIdOf
import Derived.Deep.RegionLaw
import Derived.Test.YtpcgkgjmcnncdaaTxS
import Derived.Test.YtpcgkgjmcnncdaaITx
namespace Go.Proofs.Ytpcgkgjmcnncdaa
open Go.RowKit Go.Maps Go.WideMaps

theorem mcells_one {ms : List Mb} : ∀ u ∈ mcells ms, u.oneCell' = true := by
  intro u hu
  obtain ⟨m, _, h⟩ := List.mem_flatMap.1 hu
  simp only [List.mem_cons, List.not_mem_nil, or_false] at h
  rcases h with rfl | rfl | rfl <;> rfl

end Go.Proofs.Ytpcgkgjmcnncdaa
