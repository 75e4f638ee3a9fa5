/- The specification's ParseBlock keeps its contract. -/
import Derived.Test.YtciefdphjkjikaaGreatDoorGc
import Derived.Test.YtciefdphjkjikaaGreatDoorJn1
import Derived.Test.YtciefdphjkjikaaGreatDoorJn2
namespace Go.Proofs.YtciefdphjkjikaaGreatDoor
open Go.RowKit Go.Shelf Go.Maps Go.WideMaps

theorem int_addedG {W : World} {lo j : Nat} {v : Value} {xs : List Value} {k : Int} (h : W.ownsRow lo 2 1 v j xs) (hj : j ≤ 4000000) (hlo : lo ≤ W.heap.size) :
    ∃ g cap w5, (Builtin.append_ #[40, 40] 40 #[v, .slice (some ⟨W.heap.size, 0, none⟩) 1 1]).run Tryz.prog (W.alloc (.cells #[.int .i64 k] 2)) = .ok (.slice (some ⟨g, 0, none⟩) (j + 1) cap) w5 ∧
      Hid (w5.ownsRow lo 2 1 (.slice (some ⟨g, 0, none⟩) (j + 1) cap) (j + 1) (xs ++ [.int .i64 k]) ∧ Below lo W w5) := by
  obtain ⟨i0, hi, hz0, hz1, hz2⟩ := info_parts Tryz.infoI64
  obtain ⟨v', w5, hrun, hown', hgrow, hsome⟩ := run_append_own (P := Tryz.prog) (W.alloc (.cells #[.int .i64 k] 2)) lo 40 40 2 i0 (.int .i64 0) 1 8 Tryz.underlying40 hi hz0 hz1 hz2 rfl (by decide) v j xs (h.alloc _) ⟨W.heap.size, 0, none⟩ 1 1 [.int .i64 k] rfl (World.news_of_block (heap_alloc_new _ _)) (by
    intro z hz
    simp only [List.mem_cons, List.not_mem_nil, or_false] at hz
    rw [hz]; rfl) (by unfold maxLen; omega) (by omega) (by simp; omega)
  obtain ⟨g, cap, rfl⟩ := ownsRow_succ hown'
  exact ⟨g, cap, w5, hrun, hown', ((below_box _).mono hlo).grown hgrow (by simp; omega) (fun k hk => (h.lt k hk).1)⟩
theorem ints_more (l : List Int) (k : Int) : ints (l ++ [k]) = ints l ++ [.int .i64 k] := by simp [ints]
theorem row_cells5 {w : World} {base g vc : Nat} {w0 w1 w2 w3 w4 : List UInt8} (h : w.ownsRow base 9 1 (.slice (some ⟨g, 0, none⟩) 5 vc) 5 (texts [w0, w1, w2, w3, w4])) :
    w.cell? ⟨g, 0, none⟩ = some (.string (str w0)) ∧ w.cell? ⟨g, 1, none⟩ = some (.string (str w1)) ∧ w.cell? ⟨g, 2, none⟩ = some (.string (str w2)) ∧ w.cell? ⟨g, 3, none⟩ = some (.string (str w3)) ∧ w.cell? ⟨g, 4, none⟩ = some (.string (str w4)) :=
  ⟨h.cellAt 0 (by omega), h.cellAt 1 (by omega), h.cellAt 2 (by omega), h.cellAt 3 (by omega), h.cellAt 4 (by omega)⟩
theorem row_some {w : World} {base n vc : Nat} {va : Option Addr} {e : TypeId} {size : Nat} {xs : List Value} (h : w.ownsRow base e size (.slice va n vc) n xs) (hn : n ≠ 0) : ∃ g, va = some ⟨g, 0, none⟩ := by
  rcases h.2 with ⟨q, q0⟩ | ⟨g, cap, cur, q, _⟩
  · exact absurd q0 hn
  · cases q; exact ⟨g, rfl⟩
theorem str_is (a b : List UInt8) : ((str a).toList == b) = decide (a = b) := by
  have e : (str a).toList = a := by simp [str]
  rw [e]
  by_cases h : a = b
  · rw [h]; simp
  · rw [decide_eq_false h]; exact beq_false_of_ne h
theorem take_nextL {l : List (List UInt8)} {k : Nat} {x : List UInt8} (hk : k < l.length) (hx : x = l.getD k []) : l.take (k + 1) = l.take k ++ [x] := by
  rw [List.take_add_one, hx]
  simp [List.getD, hk]
theorem row_capsI {w : World} {base n vc : Nat} {va : Option Addr} {xs : List Value} (h : w.ownsRow base 2 1 (.slice va n vc) n xs) : n ≤ vc ∧ vc ≤ maxLen := by
  rcases h.2 with ⟨q, q0⟩ | ⟨g, cap, cur, q, _, _, k1, k2, _⟩
  · cases q; exact ⟨Nat.le_refl _, by unfold maxLen; omega⟩
  · cases q; exact ⟨k1, k2⟩
theorem iat_row {w : World} {base n vc : Nat} {va : Option Addr} {l : List Int} (h : w.ownsRow base 2 1 (.slice va n vc) n (ints l)) (hn : l.length = n) : IAt w va n l := IAt.owned h hn
theorem Chg.cell {w w' : World} {lo hi b i : Nat} (h : Chg w w' lo hi) (hb : b < w.heap.size) (hd : b < lo ∨ hi ≤ b) : w'.cell? ⟨b, i, none⟩ = w.cell? ⟨b, i, none⟩ := World.cell?_of_block (h.block b hb hd)
end Go.Proofs.YtciefdphjkjikaaGreatDoor
