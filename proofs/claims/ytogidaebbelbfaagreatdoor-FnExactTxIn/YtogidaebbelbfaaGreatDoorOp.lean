/- A ledger that comes in as a law's argument, read as data, gives its texts and its signatures. -/
import Derived.Test.YtogidaebbelbfaaGreatDoorRows
import Derived.Test.YtogidaebbelbfaaGreatDoorX1
import Derived.ProofKit
import Derived.OpenShut
import Derived.ShutString
import Derived.ChangeOld
import Derived.SliceStrings
import Derived.Deep.SlicePairs
namespace Go.Proofs.YtogidaebbelbfaaGreatDoor
open Go.ChangeShapes Go.WideShapes Go.ChangeAt Go.RowKit Go.Joins Go.Deep
open Go.ChangeMaps (open_string shut_string)

theorem Tryz.own : ownKnob Tryz.prog.godebug = none := by kernel_rfl
theorem Tryz.cellsLL : Tryz.prog.cellsOf 25 = 2 := by kernel_rfl
theorem Tryz.cellsStr : Tryz.prog.cellsOf 9 = 1 := by kernel_rfl
theorem Tryz.cellsLSig : Tryz.prog.cellsOf 71 = 2 := by kernel_rfl

section
variable {H : Type} {enc : TypeId × Value → H} {W : World} {base : Nat} {spare : Nat → Bool} {held : Bool}

theorem add_none (b off j : Nat) : (⟨b, off, none⟩ : Addr).add j = ⟨b, off + j, none⟩ := by
  simp only [Addr.add]
  split
  · simp_all
  · rfl
theorem wf_zero : (Lit.int .i64 0).wf = true := by decide

theorem open_texts {fuel : Nat} {c : Value} {x : DataW H × List MemPlace} (h : DataW.trod enc Tryz.prog W base spare held fuel 22 [c] = some x) :
    ∃ a n cap ss, c = .slice a n cap ∧ n ≤ maxLen ∧ SAt W a n ss ∧ ∀ j, (ss.getD j E0).size ≤ maxLen := by
  rcases open_strings Tryz.underlying22 Tryz.underlying9 Tryz.cellsStr h with ⟨hcs, _⟩ | ⟨a, len, cap, ss, hcs, _, hl, hm, hlen, _, hcell, hsz⟩
  · refine ⟨none, 0, 0, [], by simpa using hcs, by unfold maxLen; omega, ⟨rfl, .inl rfl⟩, fun j => ?_⟩
    simp [E0, maxLen]
  · have hls : len ≤ ss.length := by rw [hlen]; split <;> omega
    refine ⟨some a, len, cap, ss.take len, by simpa using hcs, by omega, ⟨by simp; omega, ?_⟩, fun j => ?_⟩
    · by_cases h0 : len = 0
      · exact .inl h0
      · obtain ⟨b, off, spot⟩ := a
        have h1 := hcell 0 (by omega)
        have hspot : spot = none := by simpa [Addr.add] using World.cell?_spot h1
        subst hspot
        refine .inr ⟨b, off, rfl, World.block_lt_of_cell? _ _ h1, fun j hj => ?_⟩
        have h2 := hcell j (by omega)
        rw [add_none] at h2
        rw [h2]
        simp [List.getD, hj, show j < ss.length by omega]
    · by_cases hj : j < (ss.take len).length
      · have : (ss.take len).getD j E0 = (ss.take len)[j] := by rw [List.getD, List.getElem?_eq_getElem hj]; rfl
        rw [this]
        exact hsz _ (List.mem_of_mem_take (List.getElem_mem hj))
      · have : (ss.take len).getD j E0 = E0 := by rw [List.getD, List.getElem?_eq_none (by omega)]; rfl
        rw [this]; simp [E0, maxLen]

theorem open_signs {fuel : Nat} {c : Value} {x : DataW H × List MemPlace} (h : DataW.trod enc Tryz.prog W base spare held fuel 23 [c] = some x) :
    ∃ a m cap gs, c = .slice a m cap ∧ m ≤ maxLen ∧ GAt W a m gs ∧ ∀ j, (Lit.int .i64 (gs.getD j G0).1).wf = true ∧ (Lit.int .i64 (gs.getD j G0).2).wf = true := by
  rcases open_slice_pairs Tryz.underlying23 Tryz.underlying71 Tryz.cellsLSig rfl rfl Tryz.cellsI64 Tryz.cellsI64 h with ⟨hcs, _⟩ | ⟨a, len, cap, m, n, V0, V1, D0, D1, P0, P1, hcs, _, hl, hm, hmm, _, hx⟩
  · refine ⟨none, 0, 0, [], by simpa using hcs, by unfold maxLen; omega, ⟨rfl, .inl rfl⟩, fun j => ?_⟩
    simp [G0, wf_zero]
  · have hlm : len ≤ m := by rw [hmm]; split <;> omega
    have hint : ∀ i, i < m → V0 i = .int .i64 (intOf (V0 i)) ∧ V1 i = .int .i64 (intOf (V1 i)) ∧ (Lit.int .i64 (intOf (V0 i))).wf = true ∧ (Lit.int .i64 (intOf (V1 i))).wf = true := by
      intro i hi
      obtain ⟨_, _, h0, h1⟩ := hx i hi
      obtain ⟨p, e0, _, w0⟩ := DataW.trod_int Tryz.underlying2 h0
      obtain ⟨q, e1, _, w1⟩ := DataW.trod_int Tryz.underlying2 h1
      simp at e0 e1
      rw [e0, e1]
      exact ⟨rfl, rfl, w0, w1⟩
    have hget : ∀ j, j < len → (((List.range len).map fun i => (intOf (V0 i), intOf (V1 i))).getD j G0) = (intOf (V0 j), intOf (V1 j)) := by
      intro j hj
      simp [List.getD, hj]
    refine ⟨some a, len, cap, (List.range len).map fun i => (intOf (V0 i), intOf (V1 i)), by simpa using hcs, by omega, ⟨by simp, ?_⟩, fun j => ?_⟩
    · by_cases h0 : len = 0
      · exact .inl h0
      · obtain ⟨b, off, spot⟩ := a
        have h1 := (hx 0 (by omega)).1
        have hspot : spot = none := by simpa [Addr.add] using World.cell?_spot h1
        subst hspot
        refine .inr ⟨b, off, rfl, World.block_lt_of_cell? _ _ h1, fun j hj => ?_⟩
        obtain ⟨x0, x1, _, _⟩ := hx j (by omega)
        obtain ⟨i0, i1, _, _⟩ := hint j (by omega)
        rw [hget j hj]
        rw [add_none] at x0 x1
        rw [i0] at x0
        rw [i1] at x1
        exact ⟨x0, x1⟩
    · by_cases hj : j < len
      · rw [hget j hj]
        obtain ⟨_, _, w0, w1⟩ := hint j (by omega)
        exact ⟨w0, w1⟩
      · have : (((List.range len).map fun i => (intOf (V0 i), intOf (V1 i))).getD j G0) = G0 := by rw [List.getD, List.getElem?_eq_none (by simp; omega)]; rfl
        rw [this]
        exact ⟨wf_zero, wf_zero⟩
end

set_option maxRecDepth 100000 in
/-- All that a law is told of a ledger that came in. -/
theorem open_ledger {H : Type} {enc : TypeId × Value → H} {W : World} {base b0 : Nat} {spare : Nat → Bool} {held : Bool} {r : Reach} {v : Value} {d : DataW H} {p : List MemPlace} (hv : Value.okWide Tryz.prog W r b0 25 v) (h : DataW.Trod enc Tryz.prog W base spare held 25 v d p) :
    ∃ ta n tc ga m gc ss gs, v = .agg #[.slice ta n tc, .slice ga m gc] ∧ n ≤ maxLen ∧ m ≤ maxLen ∧ Fine ss gs ∧ LedAt W ta n ga m ss gs := by
  obtain ⟨c0, c1, y0, y1, k, rfl, _, _, hy0, hy1⟩ := open_agg2 Tryz.underlying25 (by kernel_rfl) Tryz.cellsLL hv h
  obtain ⟨ta, n, tc, ss, rfl, hn, hs, hz⟩ := open_texts hy0
  obtain ⟨ga, m, gc, gs, rfl, hm, hg, hw⟩ := open_signs hy1
  exact ⟨ta, n, tc, ga, m, gc, ss, gs, rfl, hn, hm, ⟨hz, hw⟩, ⟨hs, hg⟩⟩

end Go.Proofs.YtogidaebbelbfaaGreatDoor
