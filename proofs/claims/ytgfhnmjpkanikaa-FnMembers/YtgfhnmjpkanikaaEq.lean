/- The program's bench: who is inserted. -/
import Derived.Test.YtgfhnmjpkanikaaEp
import Derived.Lib.AppendZerosOnto
import Derived.Lib.Overlaps
import Derived.Laws.Externs
namespace Go.Proofs.Ytgfhnmjpkanikaa
open Go.RowKit Go.Maps Go.WideMaps

theorem setCells_full {lo g n cap : Nat} {e : TypeId} : ∀ (vs : List Value) (o : Nat) (w : World) (xs : List Value), w.ownsRow lo e 3 (.slice (some ⟨g, 0, none⟩) n cap) n xs → o + vs.length ≤ n * 3 →
    ∃ ys, (w.setCells g o vs).ownsRow lo e 3 (.slice (some ⟨g, 0, none⟩) n cap) n ys ∧ (∀ t, ys[t]? = if t < o then xs[t]? else if t < o + vs.length then vs[t - o]? else xs[t]?) ∧ w.grownBy (w.setCells g o vs) (some g)
  | [], o, w, xs, h, _ => ⟨xs, h, fun t => by by_cases h1 : t < o <;> simp [h1], World.grownBy.refl _ _⟩
  | v :: vs, o, w, xs, h, hl => by
    have h1 := h.stored o v
    have hxl := h.1
    have hl' : o + 1 + vs.length ≤ n * 3 := by rw [List.length_cons] at hl; omega
    obtain ⟨ys, r1, r2, r3⟩ := setCells_full vs (o + 1) (w.setCell ⟨g, o, none⟩ v) _ h1.1 hl'
    refine ⟨ys, r1, fun t => ?_, grown_trans h1.2 r3⟩
    rw [r2 t, List.length_cons]
    by_cases a : t < o
    · rw [if_pos (by omega), if_pos a, List.getElem?_set_ne (by omega)]
    · rw [if_neg a]
      by_cases b : t = o
      · subst b
        rw [if_pos (by omega), if_pos (by omega), List.getElem?_set_self (by omega), Nat.sub_self]
        rfl
      · rw [if_neg (by omega)]
        by_cases c : t < o + 1 + vs.length
        · rw [if_pos c, if_pos (by omega)]
          obtain ⟨d, hd⟩ : ∃ d, t - o = d + 1 := ⟨t - o - 1, by omega⟩
          rw [hd, List.getElem?_cons_succ, show t - (o + 1) = d by omega]
        · rw [if_neg c, if_neg (by omega), List.getElem?_set_ne (by omega)]
theorem run_copy3 {w : World} (dT sT ty : TypeId) (hu : Try.prog.underlying dT = some (.slice 68)) (b o dLen dCap : Nat) (a : Addr) (sLen sCap k : Nat) (cs : List Value) (hn : Nat.min sLen dLen = k) (hl : cs.length = k * 3)
    (hsrc : ∀ j v, cs[j]? = some v → w.cell? (a.add j) = some v) (hc : ∀ j, j < cs.length → (w.cell? ⟨b, o + j, none⟩).isSome = true) (hf : ∀ j, j < cs.length → w.frozen? ⟨b, o + j, none⟩ = false) (h1 : ∀ v ∈ cs, v.oneCell' = true) :
    (Builtin.copy_ #[dT, sT] ty #[.slice (some ⟨b, o, none⟩) dLen dCap, .slice (some a) sLen sCap]).run Try.prog w = .ok (goInt k) (w.setCells b o cs) := by
  obtain ⟨i0, hi, hz0, hz1, hz2⟩ := info_parts Try.infoSeat
  have hld := run_loadCells_list (P := Try.prog) w a cs hsrc
  have hst := run_storeCells_cells (P := Try.prog) b o cs 0 w (by simpa using hc) (by simpa using hf) h1
  rw [hl] at hld
  simp [Builtin.copy_, run_underlying hu, Builtin.lenOf, Builtin.firstCells, sizeOf, typeInfo, hi, hz1, hn, hld, hst]
theorem wpList_copy_run {P : Program} {w : World} {ops : Array Oper} {rest : List Oper} {o : Oper} {a : Act} {Q : Exit → Act → World → Prop} (hgd : o.guard = none) (s x : Operand) (t t' : TypeId)
    (hop : o.op = .call { callee := .builtin .copy, args := #[s, x], argTypes := #[t, t'] }) {v u v' : Value} {w' : World} (hs : a.eval s = v) (hx : a.eval x = u) (hrun : (Builtin.copy_ #[t, t'] o.type #[v, u]).run P w = .ok v' w') (h : wpList P ops Q rest (a.put o.dst v') w') :
    wpList P ops Q (o :: rest) a w :=
  wpList_plain hgd fun _ hK => by
    unfold Oper.wp
    simp [execOp, hop, resolve, invoke, builtin, hs, hx, hrun, Result.andThen]
    exact hK _ _ h
theorem wpList_append_run2 {P : Program} {w : World} {ops : Array Oper} {rest : List Oper} {o : Oper} {a : Act} {Q : Exit → Act → World → Prop} (hgd : o.guard = none) (s x : Operand) (t t' : TypeId)
    (hop : o.op = .call { callee := .builtin .append, args := #[s, x], argTypes := #[t, t'] }) {v u v' : Value} {w' : World} (hs : a.eval s = v) (hx : a.eval x = u) (hrun : (Builtin.append_ #[t, t'] o.type #[v, u]).run P w = .ok v' w') (h : wpList P ops Q rest (a.put o.dst v') w') :
    wpList P ops Q (o :: rest) a w :=
  wpList_plain hgd fun _ hK => by
    unfold Oper.wp
    simp [execOp, hop, resolve, invoke, builtin, hs, hx, hrun, Result.andThen]
    exact hK _ _ h
theorem app_types (ty : TypeId) (va : Option Addr) (n vc : Nat) (x : Value) (w : World) : (Builtin.append_ #[53, 52] ty #[.slice va n vc, x]).run Try.prog w = (Builtin.append_ #[53, 53] ty #[.slice va n vc, x]).run Try.prog w := by
  obtain ⟨i0, hi, hz0, hz1, hz2⟩ := info_parts Try.infoSeat
  simp [Builtin.append_, run_underlying Try.underlying53, run_underlying Try.underlying52, sizeOf, typeInfo, hi]

/-- What inserting leaves. -/
def InsO (w w' : World) (e : Ending) (lo : Nat) (v : Value) (rs : List Mb) : Prop :=
  ∃ g c, e = .returned (.slice (some ⟨g, 0, none⟩) rs.length c) ∧ w'.ownsRow lo 68 3 (.slice (some ⟨g, 0, none⟩) rs.length c) rs.length (mcells rs) ∧ w.grownBy w' v.ownBlock

set_option maxRecDepth 20000 in
set_option maxHeartbeats 2000000 in
theorem insertEnd_any (n vc lo X : Nat) (va : Option Addr) (ms : List Mb) (x : Mb) (w : World) (hn : n ≤ 500) (hlo : lo ≤ w.heap.size) (h : w.ownsRow lo 68 3 (.slice va n vc) n (mcells ms)) (hX : w.heap[X]? = some (.cells #[.int .i64 x.1, .int .i64 x.2.1, .int .i64 x.2.2] 68 (0, 0))) :
    Calls Try.prog 63 #[.slice va n vc, .int .i64 n, .slice (some ⟨X, 0, none⟩) 1 1] w fun e w' => InsO w w' e lo (.slice va n vc) (ms ++ [x]) := by
  have hl : ms.length = n := by have := h.1; rw [mcells_length] at this; omega
  obtain ⟨g, c, w5, hrun, HC5⟩ := seat_added (o := x) h hX (by omega) hlo
  have HFI : Hid (InsO w w5 (.returned (.slice (some ⟨g, 0, none⟩) (n + 1) c)) lo (.slice va n vc) (ms ++ [x])) := by
    have e : (ms ++ [x]).length = n + 1 := by rw [List.length_append, hl]; rfl
    refine ⟨g, c, by rw [e], ?_, HC5.out.2⟩
    rw [e]
    exact HC5.out.1
  have hrun2 : (Builtin.append_ #[53, 52] 53 #[.slice va n vc, .slice (some ⟨X, 0, none⟩) 1 1]).run Try.prog w = .ok (.slice (some ⟨g, 0, none⟩) (n + 1) c) w5 := (app_types _ _ _ _ _ _).trans hrun
  have hvc : n ≤ vc := by
    rcases h.2 with ⟨_, e⟩ | ⟨g', c', cur, e, _, _, q, _⟩
    · omega
    · cases e; exact q
  have k1 : (n : Int) ≤ (vc : Int) := by omega
  have k2 : (0 : Int) ≤ (n : Int) := by omega
  clear h hX hrun HC5
  cases va with
  | none =>
    go_enter Try.func63, Try.ntmps63
    go_wp2_with (first | (at_builtin; go_must (refine wpList_append_run2 (by rfl) _ _ _ _ (by rfl) (by rfl) (by rfl) hrun2 ?_); clear hrun2))
    go_ret
    exact HFI.out
  | some ad =>
    by_cases hv : vc = n
    · subst hv
      go_enter Try.func63, Try.ntmps63
      go_wp2_with (first | (at_builtin; go_must (refine wpList_append_run2 (by rfl) _ _ _ _ (by rfl) (by rfl) (by rfl) hrun2 ?_); clear hrun2))
      go_ret
      exact HFI.out
    · go_enter Try.func63, Try.ntmps63
      go_wp2_with (first | (at_builtin; go_must (refine wpList_append_run2 (by rfl) _ _ _ _ (by rfl) (by rfl) (by rfl) hrun2 ?_); clear hrun2))
      go_ret
      exact HFI.out

end Go.Proofs.Ytgfhnmjpkanikaa
