/- The program's fault of members. -/
import Derived.Test.YtciefdphjkjikaaGreatDoorJn4
namespace Go.Proofs.YtciefdphjkjikaaGreatDoor
open Go.RowKit Go.Maps Go.WideMaps

theorem gat_ref {w : World} {base n c : Nat} {a : Option Addr} {gs : List (Int × Int)} (h : w.ownsRow base 65 2 (.slice a n c) n (gcells gs)) (hn : gs.length = n) : GAt w a n gs := by
  rcases h.2 with ⟨e, e0⟩ | ⟨g, cap, cur, e, _⟩
  · cases e; exact ⟨hn, .inl e0⟩
  · cases e; exact GAt.owned h hn
theorem gcells_snoc (gs : List (Int × Int)) (p q : Int) : gcells (gs ++ [(p, q)]) = gcells gs ++ [.int .i64 p, .int .i64 q] := by
  unfold gcells
  rw [List.flatMap_append]
  rfl
/-- A ref more: what the append leaves. -/
theorem ref_added {W : World} {lo X j : Nat} {v : Value} {gs : List (Int × Int)} {p q : Int} (h : W.ownsRow lo 65 2 v j (gcells gs)) (hX : W.heap[X]? = some (.cells #[.int .i64 p, .int .i64 q] 65 (0, 0))) (hj : j ≤ 1000) (hlo : lo ≤ W.heap.size) :
    ∃ g cap w5, (Builtin.append_ #[25, 25] 25 #[v, .slice (some ⟨X, 0, none⟩) 1 1]).run Tryz.prog W = .ok (.slice (some ⟨g, 0, none⟩) (j + 1) cap) w5 ∧
      Hid (w5.ownsRow lo 65 2 (.slice (some ⟨g, 0, none⟩) (j + 1) cap) (j + 1) (gcells (gs ++ [(p, q)])) ∧ W.grownBy w5 v.ownBlock) := by
  obtain ⟨i0, hi, hz0, hz1, hz2⟩ := info_parts Tryz.infoRef
  obtain ⟨v', w5, hrun, hown', hgrow, hsome⟩ := run_append_own (P := Tryz.prog) W lo 25 25 65 i0 (.agg #[.int .i64 0, .int .i64 0]) 2 16 Tryz.underlying25 hi hz0 hz1 hz2 rfl (by decide) v j (gcells gs) h ⟨X, 0, none⟩ 1 1 [.int .i64 p, .int .i64 q] rfl (World.news_of_block hX) (by
    intro z hz
    simp only [List.mem_cons, List.not_mem_nil, or_false] at hz
    rcases hz with rfl | rfl <;> rfl) (by unfold maxLen; omega) (by omega) hlo
  obtain ⟨g, cap, rfl⟩ := ownsRow_succ hown'
  refine ⟨g, cap, w5, hrun, ?_, hgrow⟩
  rw [gcells_snoc]
  exact hown'
end Go.Proofs.YtciefdphjkjikaaGreatDoor
