/- AddNode: the program's. -/
import Derived.Test.YtinlhghlmfcbfaaNe
import Derived.Test.YtinlhghlmfcbfaaLa
import Derived.Test.YtinlhghlmfcbfaaEe
import Derived.Test.YtinlhghlmfcbfaaEh
namespace Go.Proofs.Ytinlhghlmfcbfaa
open Go.RowKit Go.Maps Go.WideMaps

/-- One more: what the append leaves. -/
theorem node_added {W : World} {lo X j : Nat} {v : Value} {ms : List Mb} {o : Mb} (h : W.ownsRow lo 40 3 v j (mcells ms)) (hX : W.heap[X]? = some (.cells #[.int .i64 o.1, .int .i64 o.2.1, .int .i64 o.2.2] 40 (0, 0))) (hj : j ≤ 1000) (hlo : lo ≤ W.heap.size) :
    ∃ g cap w5, (Builtin.append_ #[24, 24] 24 #[v, .slice (some ⟨X, 0, none⟩) 1 1]).run Try.prog W = .ok (.slice (some ⟨g, 0, none⟩) (j + 1) cap) w5 ∧
      Hid (w5.ownsRow lo 40 3 (.slice (some ⟨g, 0, none⟩) (j + 1) cap) (j + 1) (mcells (ms ++ [o])) ∧ W.grownBy w5 v.ownBlock) := by
  obtain ⟨i0, hi, hz0, hz1, hz2⟩ := info_parts Try.infoNd
  obtain ⟨v', w5, hrun, hown', hgrow, hsome⟩ := run_append_own (P := Try.prog) W lo 24 24 40 i0 (.agg #[.int .i64 0, .int .i64 0, .int .i64 0]) 3 24 Try.underlying24 hi hz0 hz1 hz2 rfl (by decide) v j (mcells ms) h ⟨X, 0, none⟩ 1 1 [.int .i64 o.1, .int .i64 o.2.1, .int .i64 o.2.2] rfl (World.news_of_block hX) (by
    intro z hz
    simp only [List.mem_cons, List.not_mem_nil, or_false] at hz
    rcases hz with rfl | rfl | rfl <;> rfl) (by unfold maxLen; omega) (by omega) hlo
  obtain ⟨g, cap, rfl⟩ := ownsRow_succ hown'
  refine ⟨g, cap, w5, hrun, ?_, hgrow⟩
  rw [mcells_snoc]
  exact hown'

def addNR (ms : List Mb) (o : Mb) : Int × List Mb := if treeR ms ≠ 0 then (treeR ms, []) else if addR ms o.1 o.2.1 o.2.2 ≠ 0 then (addR ms o.1 o.2.1 o.2.2, []) else (0, ms ++ [o])
def OutNs (w w' : World) (e : Ending) (cd : Int) (ns : List Mb) : Prop :=
  ∃ va vc, e = .returned (.agg #[.int .i64 cd, .slice va ns.length vc]) ∧ w'.ownsRow w.heap.size 40 3 (.slice va ns.length vc) ns.length (mcells ns) ∧ Below w.heap.size w w'
theorem outn_code {w W : World} {R : Nat} {cd : Int} (hR : w.heap.size ≤ R) (hb : Below w.heap.size w W) : OutNs w ((W.setCell ⟨R, 0, none⟩ (.int .i64 cd)).setCell ⟨R, 1, none⟩ (.slice none 0 0)) (.returned (.agg #[.int .i64 cd, .slice none 0 0])) cd [] :=
  ⟨none, 0, rfl, ⟨rfl, .inl ⟨rfl, rfl⟩⟩, (hb.setCell (p := ⟨R, 0, none⟩) hR _).setCell (p := ⟨R, 1, none⟩) hR _⟩
theorem outn_nodes {w W : World} {R lo n : Nat} {ns : List Mb} {va : Option Addr} {vc : Nat} (hn : ns.length = n) (hR : w.heap.size ≤ R) (hlo : R < lo) (hb : Below w.heap.size w W) (hO : W.ownsRow lo 40 3 (.slice va n vc) n (mcells ns)) :
    OutNs w ((W.setCell ⟨R, 0, none⟩ (.int .i64 0)).setCell ⟨R, 1, none⟩ (.slice va n vc)) (.returned (.agg #[.int .i64 0, .slice va n vc])) 0 ns := by
  subst hn
  exact ⟨va, vc, rfl, Joins.ownsRow_le (ownsRow_setCell_below (ownsRow_setCell_below hO (a := ⟨R, 0, none⟩) hlo _) (a := ⟨R, 1, none⟩) hlo _) (by omega), (hb.setCell (p := ⟨R, 0, none⟩) hR _).setCell (p := ⟨R, 1, none⟩) hR _⟩

theorem tree_len {ms : List Mb} (h : treeR ms = 0) : ms.length ≤ 60 := by
  unfold treeR at h
  by_cases e : 60 < ms.length
  · rw [if_pos e] at h; cases h
  · omega

end Go.Proofs.Ytinlhghlmfcbfaa
