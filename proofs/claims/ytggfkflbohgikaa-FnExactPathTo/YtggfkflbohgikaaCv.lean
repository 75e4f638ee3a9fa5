/- The program fills its purse with coins. -/
import Derived.Test.YtggfkflbohgikaaCm
import Derived.Test.YtggfkflbohgikaaRu
import Derived.Test.YtggfkflbohgikaaCp
import Derived.Test.YtggfkflbohgikaaOp
import Derived.Deep.Slices
import Derived.Maps.OwnSet
import Derived.Maps.Range
namespace Go.Proofs.Ytggfkflbohgikaa
open Go.RowKit Go.Maps Go.WideMaps

theorem news_ints {w : World} {b off n : Nat} {l : List Int} (h : IAt w (some ⟨b, off, none⟩) n l) : ∀ j u, (ints l)[j]? = some u → w.cell? ((⟨b, off, none⟩ : Addr).add j) = some u := by
  intro j u hj
  have hjl : j < l.length := by
    have := (List.getElem?_eq_some_iff.1 hj).1
    simpa [ints] using this
  rcases h.2 with h0 | ⟨b', off', e, _, hc⟩
  · have := h.1; omega
  · cases e
    have := hc j (by rw [← h.1]; exact hjl)
    have ea : (⟨b, off, none⟩ : Addr).add j = ⟨b, off + j, none⟩ := by simp [Addr.add]
    rw [ea, this]
    simp [ints] at hj
    obtain ⟨a, ha, rfl⟩ := hj
    rw [List.getD, ha]; rfl
theorem one_ints (l : List Int) : ∀ u ∈ ints l, u.oneCell' = true := by
  intro u hu
  simp [ints] at hu
  obtain ⟨a, _, rfl⟩ := hu
  rfl

/-- An append in a plain region, out of its own run. -/
theorem wpList_append_runC {P : Program} {w : World} {ops : Array Oper} {rest : List Oper} {o : Oper} {a : Act} {Q : Exit → Act → World → Prop} (hgd : o.guard = none) (s x : Operand) (t : TypeId)
    (hop : o.op = .call { callee := .builtin .append, args := #[s, x], argTypes := #[t, t] }) {v u v' : Value} {w' : World} (hs : a.eval s = v) (hx : a.eval x = u) (hrun : (Builtin.append_ #[t, t] o.type #[v, u]).run P w = .ok v' w') (h : wpList P ops Q rest (a.put o.dst v') w') :
    wpList P ops Q (o :: rest) a w :=
  wpList_plain hgd fun _ hK => by
    unfold Oper.wp
    simp [execOp, hop, resolve, invoke, builtin, hs, hx, hrun, Result.andThen]
    exact hK _ _ h

end Go.Proofs.Ytggfkflbohgikaa
