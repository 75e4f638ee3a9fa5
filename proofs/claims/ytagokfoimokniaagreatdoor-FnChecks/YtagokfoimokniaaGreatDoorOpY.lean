/- Bytes that come in as a law's argument, read as data. -/
import Derived.Test.YtagokfoimokniaaGreatDoorJn3
import Derived.Test.YtagokfoimokniaaGreatDoorJn2
import Derived.Test.YtagokfoimokniaaGreatDoorJn1
namespace Go.Proofs.YtagokfoimokniaaGreatDoor
open Go.ChangeShapes Go.WideShapes Go.ChangeAt Go.RowKit Go.Joins Go.Deep

theorem Tryz.cellsU8 : Tryz.prog.cellsOf 5 = 1 := by kernel_rfl
theorem wf_u8 {k : Int} (h : (Lit.int .u8 k).wf = true) : 0 ≤ k ∧ k ≤ 255 := by
  have e1 : IntKind.u8.min = 0 := by decide
  have e2 : IntKind.u8.max = 255 := by decide
  simp [Lit.wf, e1, e2] at h
  exact h

section
variable {H : Type} {enc : TypeId × Value → H} {W : World} {base : Nat} {spare : Nat → Bool} {held : Bool}
theorem open_bytes {fuel : Nat} {c : Value} {x : DataW H × List MemPlace} (h : DataW.trod enc Tryz.prog W base spare held fuel 22 [c] = some x) :
    ∃ a n cap l, c = .slice a n cap ∧ n ≤ maxLen ∧ BAt W a n l := by
  rcases open_ints Tryz.underlying22 Tryz.underlying5 Tryz.cellsU8 h with ⟨hcs, _⟩ | ⟨a, len, cap, zs, hcs, _, hl, hm, hlen, _, hcell, hwf⟩
  · exact ⟨none, 0, 0, [], by simpa using hcs, by unfold maxLen; omega, fun j => by simp, .inl rfl⟩
  · have hls : len ≤ zs.length := by rw [hlen]; split <;> omega
    refine ⟨some a, len, cap, zs, by simpa using hcs, by omega, fun j => ?_, ?_⟩
    · by_cases hj : j < zs.length
      · rw [List.getD, List.getElem?_eq_getElem hj]
        exact wf_u8 (hwf _ (List.getElem_mem _))
      · rw [List.getD, List.getElem?_eq_none (by omega)]
        simp
    · by_cases h0 : len = 0
      · exact .inl h0
      · obtain ⟨b, off, spot⟩ := a
        have h1 := hcell 0 (by omega)
        have hspot : spot = none := by simpa [Addr.add] using World.cell?_spot h1
        subst hspot
        refine .inr ⟨b, off, rfl, World.block_lt_of_cell? _ _ h1, fun j hj => ?_⟩
        have h2 := hcell j (by omega)
        rw [add_none] at h2
        rw [h2]
set_option maxRecDepth 100000 in
theorem open_byteS {b0 : Nat} {r : Reach} {v : Value} {d : DataW H} {p : List MemPlace} (hv : Value.okWide Tryz.prog W r b0 22 v) (h : DataW.Trod enc Tryz.prog W base spare held 22 v d p) :
    ∃ a n cap l, v = .slice a n cap ∧ n ≤ maxLen ∧ BAt W a n l := by
  obtain ⟨a, len, cap, rfl⟩ := okWide_slice Tryz.underlying22 hv
  obtain ⟨fuel, hf⟩ := h
  exact open_bytes (c := .slice a len cap) hf
end

end Go.Proofs.YtagokfoimokniaaGreatDoor
