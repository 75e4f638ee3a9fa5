/- The specification takes coins out of a list: pieces of rows appended. -/
import Derived.Test.YtdfijlcjmllplaaJn5
import Derived.Test.YtdfijlcjmllplaaDa
namespace Go.Proofs.Ytdfijlcjmllplaa
open Go.RowKit Go.Maps Go.WideMaps

/-- An append in a region, out of its own run. -/
theorem step_append_runD {P : Program} {w : World} {ops : Array Oper} {o : Oper} {a : Act} {K : Act → World → Prop} {Q : Exit → Act → World → Prop} {E : Prop} (hgd : o.guard = none) (s x : Operand) (t : TypeId)
    (hop : o.op = .call { callee := .builtin .append, args := #[s, x], argTypes := #[t, t] }) {v u v' : Value} {w' : World} (hs : a.eval s = v) (hx : a.eval x = u) (hrun : (Builtin.append_ #[t, t] o.type #[v, u]).run P w = .ok v' w') (h : K (a.put o.dst v') w') :
    if Region.wanted o (yielded ops a.tmps) = true then Oper.wp P o a w K Q else E := by
  rw [if_pos (by simp [Region.wanted, hgd])]
  unfold Oper.wp
  simp [execOp, hop, resolve, invoke, builtin, hs, hx, hrun, Result.andThen]
  exact h

theorem one_row {w : World} {lo hi n : Nat} {v : Value} {f : Nat → Co} {kv : Nat → Value} {xs : List Value} (h : COwn w lo hi v n f kv) (hl : xs.length = n * 8) (hc : ∀ j, j < n → CellsC xs j (f j) (kv j)) : ∀ u ∈ xs, u.oneCell' = true := by
  intro u hu
  obtain ⟨t, ht, e⟩ := List.getElem_of_mem hu
  have e2 : xs[t]? = some u := by rw [List.getElem?_eq_getElem ht, e]
  obtain ⟨a0, a1, a2, a3, a4, a5, a6, a7⟩ := hc (t / 8) (by omega)
  have hk : (kv (t / 8)).oneCell' = true := by
    rcases (h.keys (t / 8) (by omega)).1.2 with ⟨e1, _⟩ | ⟨g, c, cur, e1, _⟩ <;> rw [e1] <;> rfl
  have hd : t = t / 8 * 8 + t % 8 := by omega
  have h8 : t % 8 = 0 ∨ t % 8 = 1 ∨ t % 8 = 2 ∨ t % 8 = 3 ∨ t % 8 = 4 ∨ t % 8 = 5 ∨ t % 8 = 6 ∨ t % 8 = 7 := by omega
  rw [hd] at e2
  rcases h8 with h8 | h8 | h8 | h8 | h8 | h8 | h8 | h8 <;> rw [h8] at e2
  · rw [Nat.add_zero, a0] at e2; cases e2; rfl
  · rw [a1] at e2; cases e2; rfl
  · rw [a2] at e2; cases e2; rfl
  · rw [a3] at e2; cases e2; exact hk
  · rw [a4] at e2; cases e2; rfl
  · rw [a5] at e2; cases e2; rfl
  · rw [a6] at e2; cases e2; rfl
  · rw [a7] at e2; cases e2; rfl

/-- A part of a row of coins is appended to another. -/
theorem part_added {W : World} {lo lo' k g n cap off m o8 : Nat} {v : Value} {ys xs : List Value} (hv : W.ownsRow lo 41 8 v k ys) (hx : W.ownsRow lo' 41 8 (.slice (some ⟨g, 0, none⟩) n cap) n xs) (h1 : ∀ u ∈ xs, u.oneCell' = true) (hom : off + m ≤ n) (hb : k + m ≤ 1000) (hlo : lo ≤ W.heap.size) (ho8 : o8 = off * 8 ∨ m = 0) :
    ∃ v' w', (∀ c, (Builtin.append_ #[24, 24] 24 #[v, .slice (some ⟨g, o8, none⟩) m c]).run Try.prog W = .ok v' w') ∧ w'.ownsRow lo 41 8 v' (k + m) (ys ++ (xs.drop (off * 8)).take (m * 8)) ∧ W.grownBy w' v.ownBlock ∧ (v' = .slice none 0 0 ↔ v = .slice none 0 0 ∧ m = 0) := by
  obtain ⟨i0, hi, hz0, hz1, hz2⟩ := info_parts Try.infoCoin
  have hl := hx.1
  have hnl : ((xs.drop (off * 8)).take (m * 8)).length = m * 8 := by rw [List.length_take, List.length_drop, hl]; omega
  have hnew : ∀ j u, ((xs.drop (off * 8)).take (m * 8))[j]? = some u → W.cell? ((⟨g, o8, none⟩ : Addr).add j) = some u := fun j u hj => by
    have hjm : j < m * 8 := by
      have := (List.getElem?_eq_some_iff.1 hj).1
      rw [hnl] at this
      exact this
    rw [List.getElem?_take_of_lt hjm, List.getElem?_drop] at hj
    have ho : o8 = off * 8 := by rcases ho8 with h | h <;> omega
    have ea : (⟨g, o8, none⟩ : Addr).add j = ⟨g, off * 8 + j, none⟩ := by simp [Addr.add, ho]
    rw [ea, hx.cellAt (off * 8 + j) (by omega)]
    exact hj
  have hone : ∀ u ∈ (xs.drop (off * 8)).take (m * 8), u.oneCell' = true := fun u hu => h1 u (List.mem_of_mem_drop (List.mem_of_mem_take hu))
  obtain ⟨v', w', hrun, hown', hgrow, hnil⟩ := run_append_own (P := Try.prog) W lo 24 24 41 i0 (.agg #[.int .i64 0, .int .i64 0, .int .i64 0, .slice none 0 0, .int .i64 0, .int .i64 0, .int .i64 0, .bool false]) 8 80 Try.underlying24 hi hz0 hz1 hz2 rfl (by decide) v k ys hv ⟨g, o8, none⟩ m 0 _ hnl hnew hone (by unfold maxLen; omega) (by omega) hlo
  exact ⟨v', w', fun c => hrun, hown', hgrow, hnil⟩

theorem rows_keep {W w' : World} {lo k d : Nat} {v z : Value} {ys zs : List Value} (hg : W.grownBy w' v.ownBlock) (hv : W.ownsRow lo 41 8 v k ys) (hz : W.ownsRow lo 2 1 z d zs) : w'.ownsRow lo 2 1 z d zs :=
  hz.kept hg (by
    cases e : z.ownBlock with
    | none => exact .inl rfl
    | some b => exact .inr fun e2 => rows_apart (by decide) hv hz b e2.symm e)

end Go.Proofs.Ytdfijlcjmllplaa
