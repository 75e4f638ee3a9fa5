/- Members of the call's own: rows of them, marks in them; the program's bench. -/
import Derived.Test.YtinlhghlmfcbfaaEa
import Derived.Test.YtinlhghlmfcbfaaRu
import Derived.Test.YtinlhghlmfcbfaaCp
import Derived.Test.YtinlhghlmfcbfaaOp
import Derived.Deep.Slices
import Derived.Test.YtinlhghlmfcbfaaCv
import Derived.Test.YtinlhghlmfcbfaaCm
import Derived.Test.YtinlhghlmfcbfaaSignsOf
import Derived.Test.YtinlhghlmfcbfaaMk
namespace Go.Proofs.Ytinlhghlmfcbfaa
open Go.RowKit Go.Maps Go.WideMaps

theorem mcells_snoc (ms : List Mb) (o : Mb) : mcells (ms ++ [o]) = mcells ms ++ [.int .i64 o.1, .int .i64 o.2.1, .int .i64 o.2.2] := by
  unfold mcells
  rw [List.flatMap_append]
  rfl
theorem ints_snoc (ks : List Int) (k : Int) : ints (ks ++ [k]) = ints ks ++ [.int .i64 k] := by simp [ints]

/-- One more: what the append leaves. -/
theorem int_added {W : World} {lo X j : Nat} {v : Value} {ks : List Int} {k : Int} (h : W.ownsRow lo 2 1 v j (ints ks)) (hX : W.heap[X]? = some (.cells #[.int .i64 k] 2 (0, 0))) (hj : j ≤ 1000) (hlo : lo ≤ W.heap.size) :
    ∃ g cap w5, (Builtin.append_ #[30, 30] 30 #[v, .slice (some ⟨X, 0, none⟩) 1 1]).run Try.prog W = .ok (.slice (some ⟨g, 0, none⟩) (j + 1) cap) w5 ∧
      Hid (w5.ownsRow lo 2 1 (.slice (some ⟨g, 0, none⟩) (j + 1) cap) (j + 1) (ints (ks ++ [k])) ∧ W.grownBy w5 v.ownBlock) := by
  obtain ⟨i0, hi, hz0, hz1, hz2⟩ := info_parts Try.infoI64
  obtain ⟨v', w5, hrun, hown', hgrow, hsome⟩ := run_append_own (P := Try.prog) W lo 30 30 2 i0 (.int .i64 0) 1 8 Try.underlying30 hi hz0 hz1 hz2 rfl (by decide) v j (ints ks) h ⟨X, 0, none⟩ 1 1 [.int .i64 k] rfl (World.news_of_block hX) (by
    intro z hz
    simp only [List.mem_cons, List.not_mem_nil, or_false] at hz
    subst hz; rfl) (by unfold maxLen; omega) (by omega) hlo
  obtain ⟨g, cap, rfl⟩ := ownsRow_succ hown'
  refine ⟨g, cap, w5, hrun, ?_, hgrow⟩
  rw [ints_snoc]
  exact hown'

theorem mat_row {w : World} {base n c : Nat} {a : Option Addr} {ms : List Mb} {t : TypeId} (h : w.ownsRow base t 3 (.slice a n c) n (mcells ms)) (hn : ms.length = n) : MAt w a n ms := by
  rcases h.2 with ⟨e, e0⟩ | ⟨g, cap, cur, e, _⟩
  · exact ⟨hn, .inl e0⟩
  · cases e; exact MAt.owned h hn
end Go.Proofs.Ytinlhghlmfcbfaa
