/- Members of the call's own: rows of them, marks in them; the program's bench. -/
import Derived.Test.YtmnahhojfcigmaaEa
import Derived.Test.YtmnahhojfcigmaaTxA
import Derived.Test.YtmnahhojfcigmaaRu
import Derived.Test.YtmnahhojfcigmaaOpR
import Derived.Deep.Slices
import Derived.Test.YtmnahhojfcigmaaCv
import Derived.Test.YtmnahhojfcigmaaCm
import Derived.Test.YtmnahhojfcigmaaSignsOf
import Derived.Test.YtmnahhojfcigmaaMk
namespace Go.Proofs.Ytmnahhojfcigmaa
open Go.RowKit Go.Maps Go.WideMaps

theorem ints_snoc (ks : List Int) (k : Int) : ints (ks ++ [k]) = ints ks ++ [.int .i64 k] := by simp [ints]

/-- One more: what the append leaves. -/
theorem int_added {W : World} {lo X j : Nat} {v : Value} {ks : List Int} {k : Int} (h : W.ownsRow lo 2 1 v j (ints ks)) (hX : W.heap[X]? = some (.cells #[.int .i64 k] 2 (0, 0))) (hj : j ≤ 1000) (hlo : lo ≤ W.heap.size) :
    ∃ g cap w5, (Builtin.append_ #[22, 22] 22 #[v, .slice (some ⟨X, 0, none⟩) 1 1]).run Try.prog W = .ok (.slice (some ⟨g, 0, none⟩) (j + 1) cap) w5 ∧
      Hid (w5.ownsRow lo 2 1 (.slice (some ⟨g, 0, none⟩) (j + 1) cap) (j + 1) (ints (ks ++ [k])) ∧ W.grownBy w5 v.ownBlock) := by
  obtain ⟨i0, hi, hz0, hz1, hz2⟩ := info_parts Try.infoI64
  obtain ⟨v', w5, hrun, hown', hgrow, hsome⟩ := run_append_own (P := Try.prog) W lo 22 22 2 i0 (.int .i64 0) 1 8 Try.underlying22 hi hz0 hz1 hz2 rfl (by decide) v j (ints ks) h ⟨X, 0, none⟩ 1 1 [.int .i64 k] rfl (World.news_of_block hX) (by
    intro z hz
    simp only [List.mem_cons, List.not_mem_nil, or_false] at hz
    subst hz; rfl) (by unfold maxLen; omega) (by omega) hlo
  obtain ⟨g, cap, rfl⟩ := ownsRow_succ hown'
  refine ⟨g, cap, w5, hrun, ?_, hgrow⟩
  rw [ints_snoc]
  exact hown'

/-- A row of the call's own, blocks from 'lo' to 'hi'. -/
structure OwnR (w : World) (lo hi : Nat) (t : TypeId) (z : Nat) (v : Value) (n : Nat) (xs : List Value) : Prop where
  r : w.ownsRow lo t z v n xs
  tb : ∀ b, v.ownBlock = some b → b < hi
theorem OwnR.chg {w w' : World} {lo hi n z : Nat} {t : TypeId} {v : Value} {xs : List Value} (h : OwnR w lo hi t z v n xs) {lo' hi' : Nat} (hc : Chg w w' lo' hi') (hd : hi ≤ lo' ∨ hi' ≤ lo) : OwnR w' lo hi t z v n xs :=
  ⟨hc.row h.r (fun k hk => by have := h.tb k hk; have := (h.r.lt k hk).1; omega), h.tb⟩
theorem OwnR.below {w w' : World} {lo hi n z : Nat} {t : TypeId} {v : Value} {xs : List Value} (h : OwnR w lo hi t z v n xs) (hb : Below w.heap.size w w') : OwnR w' lo hi t z v n xs :=
  h.chg (Chg.of_below hb hi hi) (.inl (Nat.le_refl _))
theorem OwnR.of {w : World} {lo n z : Nat} {t : TypeId} {v : Value} {xs : List Value} (h : w.ownsRow lo t z v n xs) : OwnR w lo w.heap.size t z v n xs := ⟨h, fun b hb => (h.lt b hb).2⟩
end Go.Proofs.Ytmnahhojfcigmaa
