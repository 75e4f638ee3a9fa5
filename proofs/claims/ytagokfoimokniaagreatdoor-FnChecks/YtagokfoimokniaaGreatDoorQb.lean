/- Does the purse lack a ref; has it just the refs of a transaction? -/
import Derived.Test.YtagokfoimokniaaGreatDoorQa
namespace Go.Proofs.YtagokfoimokniaaGreatDoor
open Go.RowKit Go.Maps Go.WideMaps

theorem ref_mem {rs : List (Int × Int)} {n j : Nat} {o : Int × Int} (hn : rs.length = n) (hlt : j < n) (ho : o = rs.getD j G0) : o ∈ rs := by
  rw [ho, List.getD, List.getElem?_eq_getElem (by omega)]
  exact List.getElem_mem _
theorem all_get {rs : List (Int × Int)} {n : Nat} {f : Int × Int → Bool} (hn : rs.length = n) (h : ∀ t, t < n → f (rs.getD t G0) = true) : rs.all f = true := by
  rw [List.all_eq_true]
  intro x hx
  obtain ⟨t, ht, rfl⟩ := List.getElem_of_mem hx
  have := h t (by omega)
  rw [List.getD, List.getElem?_eq_getElem ht] at this
  exact this
theorem all_not {rs : List (Int × Int)} {n t : Nat} {f : Int × Int → Bool} (hn : rs.length = n) (ht : t < n) (h : f (rs.getD t G0) = false) : rs.all f = false := by
  rw [List.all_eq_false]
  exact ⟨rs.getD t G0, ref_mem hn ht rfl, by rw [h]; exact Bool.false_ne_true⟩
end Go.Proofs.YtagokfoimokniaaGreatDoor
