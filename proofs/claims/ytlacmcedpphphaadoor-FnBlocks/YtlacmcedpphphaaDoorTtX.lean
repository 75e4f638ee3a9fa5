/- The program's refs written. -/
import Derived.Test.YtlacmcedpphphaaDoorTtS
import Derived.Test.YtlacmcedpphphaaDoorRu
import Derived.Test.YtlacmcedpphphaaDoorCp
import Derived.Test.YtlacmcedpphphaaDoorRtI
import Derived.Test.YtlacmcedpphphaaDoorIdOf
import Derived.Test.YtlacmcedpphphaaDoorOp
import Derived.Deep.Slices
import Derived.Lib.Replace
import Derived.Lib.Join
import Derived.Deep.RegionLaw
namespace Go.Proofs.YtlacmcedpphphaaDoor
open Go.RowKit Go.Shelf Go.Maps Go.WideMaps

def texts (ls : List (List UInt8)) : List Value := ls.map fun t => .string (str t)
theorem texts_more (ls : List (List UInt8)) (t : List UInt8) : texts (ls ++ [t]) = texts ls ++ [.string (str t)] := by simp [texts]

/-- An append as one step of a region that draws, out of its own run. -/
theorem step_append_run {P : Program} {w : World} {ops : Array Oper} {o : Oper} {a : Act} {K : Act → World → Prop} {Q : Exit → Act → World → Prop} {E : Prop} (hgd : o.guard = none) (s x : Operand) (t : TypeId)
    (hop : o.op = .call { callee := .builtin .append, args := #[s, x], argTypes := #[t, t] }) {v u v' : Value} {w' : World} (hs : a.eval s = v) (hx : a.eval x = u) (hrun : (Builtin.append_ #[t, t] o.type #[v, u]).run P w = .ok v' w') (h : K (a.put o.dst v') w') :
    if Region.wanted o (yielded ops a.tmps) = true then Oper.wp P o a w K Q else E := by
  rw [if_pos (by simp [Region.wanted, hgd])]
  unfold Oper.wp
  simp [execOp, hop, resolve, invoke, builtin, hs, hx, hrun, Result.andThen]
  exact h

/-- Words joined. -/
theorem join_any (c : UInt8) (v : Value) (W : World) {ls : List (List UInt8)} {n base : Nat} (hrow : W.ownsRow base 9 1 v n (texts ls)) (hn : n = ls.length) (h3 : ls.length ≤ 100) (htot : (Lib.join ls [c]).length ≤ 100000) :
    Calls Tryd.prog 24 #[v, .string ⟨#[c]⟩] W fun e w' => e = .returned (.string (str (Lib.join ls [c]))) ∧ Below W.heap.size W w' := by
  subst hn
  have hmap : (ls.map str).map (·.data.toList) = ls := by
    rw [List.map_map]
    conv => rhs; rw [← List.map_id ls]
    apply List.map_congr_left
    intro k _
    simp [str]
  rcases id hrow.2 with ⟨rfl, h0⟩ | ⟨g, cp, cur, rfl, _, _, h1, _⟩
  · obtain rfl : ls = [] := List.length_eq_zero_iff.1 h0
    exact (Tryd.strings_Join_none none 0 ⟨#[c]⟩ W).mono fun e w' ⟨he, hw⟩ => ⟨he, hw ▸ Below.refl _ _⟩
  · have hJ := Tryd.strings_Join g 0 cp (ls.map str) ⟨#[c]⟩ W (fun j x hj => by
      have hjl : j < ls.length := by
        have := (List.getElem?_eq_some_iff.1 hj).1
        simpa using this
      rw [Nat.zero_add, hrow.cellAt j (by omega)]
      simp [texts]
      simp at hj
      obtain ⟨a, ha, rfl⟩ := hj
      exact ⟨a, ha, rfl⟩) (hrow.lt g rfl).2 (by simp; omega) (by simpa using h1) (by
        show (Lib.join _ [c]).length ≤ _
        rw [hmap]
        omega)
    rw [List.length_map] at hJ
    refine hJ.mono fun e w' ⟨he, hb⟩ => ⟨?_, hb⟩
    rw [he]
    show Ending.returned (.string ⟨(Lib.join _ [c]).toArray⟩) = _
    rw [hmap]
    rfl

end Go.Proofs.YtlacmcedpphphaaDoor
