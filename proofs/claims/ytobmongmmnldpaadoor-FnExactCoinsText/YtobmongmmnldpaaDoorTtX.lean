/- The program's refs written. -/
import Derived.Test.YtobmongmmnldpaaDoorTtW
import Derived.Test.YtobmongmmnldpaaDoorTtT
import Derived.Lib.Join
import Derived.Deep.RegionLaw
namespace Go.Proofs.YtobmongmmnldpaaDoor
open Go.RowKit Go.Shelf Go.Maps Go.WideMaps

def texts (ls : List (List UInt8)) : List Value := ls.map fun t => .string (str t)
/-- Words joined. -/
theorem join_any (c : UInt8) (v : Value) (W : World) {ls : List (List UInt8)} {n base : Nat} (hrow : W.ownsRow base 9 1 v n (texts ls)) (hn : n = ls.length) (h3 : ls.length ≤ 100) (htot : (Lib.join ls [c]).length ≤ 100000) :
    Calls Tryd.prog 46 #[v, .string ⟨#[c]⟩] W fun e w' => e = .returned (.string (str (Lib.join ls [c]))) ∧ Below W.heap.size W w' := by
  subst hn
  have hmap : (ls.map str).map (·.data.toList) = ls := by
    rw [List.map_map]
    conv => rhs; rw [← List.map_id ls]
    apply List.map_congr_left
    intro k _
    simp [str]
  rcases id hrow.2 with ⟨rfl, h0⟩ | ⟨g, cp, cur, rfl, _, _, h1, _⟩
  · obtain rfl : ls = [] := List.length_eq_zero_iff.1 h0
    exact (Tryd.strings_Join_none none 0 ⟨#[c]⟩ W).mono fun e w' ⟨he, hw⟩ => ⟨he, hw ▸ Below.refl _ _⟩
  · have hJ := Tryd.strings_Join g 0 cp (ls.map str) ⟨#[c]⟩ W (fun j x hj => by
      have hjl : j < ls.length := by
        have := (List.getElem?_eq_some_iff.1 hj).1
        simpa using this
      rw [Nat.zero_add, hrow.cellAt j (by omega)]
      simp [texts]
      simp at hj
      obtain ⟨a, ha, rfl⟩ := hj
      exact ⟨a, ha, rfl⟩) (hrow.lt g rfl).2 (by simp; omega) (by simpa using h1) (by
        show (Lib.join _ [c]).length ≤ _
        rw [hmap]
        omega)
    rw [List.length_map] at hJ
    refine hJ.mono fun e w' ⟨he, hb⟩ => ⟨?_, hb⟩
    rw [he]
    show Ending.returned (.string ⟨(Lib.join _ [c]).toArray⟩) = _
    rw [hmap]
    rfl

end Go.Proofs.YtobmongmmnldpaaDoor
