/- A rule that comes in as a law's argument, read as data, gives its keys and its two numbers. -/
import Derived.Test.YtoahopeegmhlnaaGreatDoorOp
import Derived.Test.YtoahopeegmhlnaaGreatDoorRu
namespace Go.Proofs.YtoahopeegmhlnaaGreatDoor
open Go.ChangeShapes Go.WideShapes Go.ChangeAt Go.RowKit Go.Joins Go.Deep
open Go.ChangeMaps (open_string shut_string)

theorem Tryz.cellsLRule : Tryz.prog.cellsOf 54 = 3 := by kernel_rfl

theorem open_keys {H : Type} {enc : TypeId × Value → H} {W : World} {base : Nat} {spare : Nat → Bool} {held : Bool} {fuel : Nat} {c : Value} {x : DataW H × List MemPlace} (h : DataW.trod enc Tryz.prog W base spare held fuel 52 [c] = some x) :
    ∃ a n cap l, c = .slice a n cap ∧ n ≤ maxLen ∧ IAt W a n l ∧ ∀ k ∈ l, (Lit.int .i64 k).wf = true := by
  rcases open_ints Tryz.underlying52 Tryz.underlying2 Tryz.cellsI64 h with ⟨hcs, _⟩ | ⟨a, len, cap, zs, hcs, _, hl, hm, hlen, _, hcell, hwf⟩
  · exact ⟨none, 0, 0, [], by simpa using hcs, by unfold maxLen; omega, ⟨rfl, .inl rfl⟩, fun k hk => by cases hk⟩
  · have hls : len ≤ zs.length := by rw [hlen]; split <;> omega
    refine ⟨some a, len, cap, zs.take len, by simpa using hcs, by omega, ⟨by simp; omega, ?_⟩, fun k hk => hwf k (List.mem_of_mem_take hk)⟩
    by_cases h0 : len = 0
    · exact .inl h0
    · obtain ⟨b, off, spot⟩ := a
      have h1 := hcell 0 (by omega)
      have hspot : spot = none := by simpa [Addr.add] using World.cell?_spot h1
      subst hspot
      refine .inr ⟨b, off, rfl, World.block_lt_of_cell? _ _ h1, fun j hj => ?_⟩
      have h2 := hcell j (by omega)
      rw [add_none] at h2
      rw [h2]
      simp [List.getD, hj]

end Go.Proofs.YtoahopeegmhlnaaGreatDoor
