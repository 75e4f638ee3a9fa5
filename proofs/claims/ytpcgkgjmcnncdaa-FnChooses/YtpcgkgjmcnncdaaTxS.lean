/- The specification's faults of refs and outs. The specification's fault of a transaction. -/
import Derived.Test.YtpcgkgjmcnncdaaRu
import Derived.Test.YtpcgkgjmcnncdaaMk
import Derived.Test.YtpcgkgjmcnncdaaIdOf
import Derived.Deep.RegionLaw
namespace Go.Proofs.Ytpcgkgjmcnncdaa
open Go.RowKit Go.Maps Go.WideMaps

def refB (r : Int × Int) : Bool := inB r.1 1 60 && inB r.2 0 3

theorem l3Ref_any (a b : Int) (w : World) : Calls Try.prog 17 #[.agg #[.int .i64 a, .int .i64 b]] w fun e w' => e = .returned (.bool (refB (a, b))) ∧ Below w.heap.size w w' := by
  obtain ⟨ka, hka⟩ : ∃ k, k = inB a 1 60 := ⟨_, rfl⟩
  obtain ⟨kb, hkb⟩ : ∃ k, k = inB b 0 3 := ⟨_, rfl⟩
  have hr : refB (a, b) = (ka && kb) := by rw [hka, hkb]; rfl
  have h1 : ∀ v, Calls Try.prog 31 #[.int .i64 a, .int .i64 1, .int .i64 60] v fun e w' => e = .returned (.bool ka) ∧ w' = v := fun v => by rw [hka]; exact l1In_any _ _ _ v
  have h2 : ∀ v, Calls Try.prog 31 #[.int .i64 b, .int .i64 0, .int .i64 3] v fun e w' => e = .returned (.bool kb) ∧ w' = v := fun v => by rw [hkb]; exact l1In_any _ _ _ v
  rw [hr]
  clear hka hkb hr
  have hbx : Below w.heap.size w (w.alloc (.cells #[.int .i64 a, .int .i64 b] 28)) := below_box _
  cases ka <;> cases kb
  all_goals
    go_enter Try.func17, Try.ntmps17
    go_wp2_with (go_at_call 31; (first | (refine (h1 _).mono ?_; clear h1) | (refine (h2 _).mono ?_; clear h2)); rintro e w' ⟨rfl, hw⟩; have hw2 := hw.symm; subst hw2)
    go_ret
    exact ⟨rfl, hbx⟩

end Go.Proofs.Ytpcgkgjmcnncdaa

namespace Go.Proofs.Ytpcgkgjmcnncdaa
open Go.RowKit Go.Maps Go.WideMaps


end Go.Proofs.Ytpcgkgjmcnncdaa
