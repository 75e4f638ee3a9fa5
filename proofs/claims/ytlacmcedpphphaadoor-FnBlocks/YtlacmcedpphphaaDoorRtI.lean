/- The program's numbers written and joined. -/
import Derived.Test.YtlacmcedpphphaaDoorRtT
import Derived.Test.YtlacmcedpphphaaDoorSh
import Derived.Stop.RegionWithIn
import Derived.Maps.AppendAt
import Derived.RangeFuncWrites
import Derived.Lib.AppendIntMem
import Derived.Lib.Join
namespace Go.Proofs.YtlacmcedpphphaaDoor
open Go.RowKit Go.Shelf Go.Maps Go.WideMaps
attribute [local go_sem] Oper.semAt_some

/-- The library's table of powers, as the row lays it. -/
def Tb (w : World) : Prop := Lib.TabIs Tryd.prog w "internal/strconv.uint64pow10" .u64 Lib.pow10Tab
theorem Tryd.pow10At : (Tryd.prog.globalNamed "internal/strconv.uint64pow10").isSome = true := by kernel_rfl
theorem Tb.below {w w' : World} (h : Tb w) {B : Nat} (hb : Below B w w') (hB : w.heap.size ≤ B) : Tb w' := by
  obtain ⟨g, hg⟩ := Option.isSome_iff_exists.1 Tryd.pow10At
  exact Joins.tab_stays hg h hb hB

theorem writeNumber_any {k : Int} (h0 : 0 ≤ k) (h1 : k ≤ 999) (w : World) (hT : Tb w) : Calls Tryd.prog 22 #[.int .i64 k] w fun e w' => e = .returned (.string (str (dec k))) ∧ Below w.heap.size w w' := by
  have hf := Tryd.strconv_FormatInt_10 k (by omega) (by omega) w hT
  have e1 : (⟨(Lib.itoa k).toArray⟩ : ByteArray) = str (dec k) := by
    obtain ⟨n, rfl⟩ := Int.eq_ofNat_of_zero_le h0
    rw [Lib.itoa_nonneg]; rfl
  rw [e1] at hf
  obtain ⟨s, hs⟩ : ∃ s, s = str (dec k) := ⟨_, rfl⟩
  rw [← hs] at hf ⊢
  clear hT e1 hs
  go_enter Tryd.func22, Tryd.ntmps22
  go_wp2_with (go_at_call 37; refine hf.mono ?_; rintro e w' ⟨rfl, q, os, rfl⟩)
  go_ret
  exact ⟨rfl, Lib.below_grow _ _ (Nat.le_refl _) _ _⟩

abbrev Kx : Type := { k : Int // 0 ≤ k ∧ k ≤ 999 }

def pieces (l : List Int) : List Value := l.map fun k => .string (str (dec k))

/-- A step that appends, inside a fence, out of the append's own run. -/
theorem stepIn_append {F : Fence} {n : Nat} {P : Program} {w : World} {ops : Array Oper} {o : Oper} {a : Act} {K : Act → World → Prop} {Q : Exit → Act → World → Prop} {E : Prop} (hgd : o.guard = none) (s x : Operand) (t : TypeId)
    (hop : o.op = .call { callee := .builtin .append, args := #[s, x], argTypes := #[t, t] }) {v u v' : Value} {w' : World} (hs : a.eval s = v) (hx : a.eval x = u) (hrun : (Builtin.append_ #[t, t] o.type #[v, u]).run P w = .ok v' w') (h : K (a.put o.dst v') w') :
    if Region.wanted o (yielded ops a.tmps) = true then Oper.wpIn F n P o a w K Q else E := by
  rw [if_pos (by simp [Region.wanted, hgd])]
  unfold Oper.wpIn
  refine ⟨?_, ?_⟩
  · simp [Oper.about, hop, resolve, Target.leads, Sem.run_pure]
  · rw [Oper.semAt_plain F _ _ (by rw [hop]; intro c hc'; cases hc')]
    simp [execOp, hop, resolve, invoke, builtin, hs, hx, hrun, Result.andThen]
    exact h

theorem piece_more (pre : List Kx) (x : Kx) : pieces ((pre ++ [x]).map Subtype.val) = pieces (pre.map Subtype.val) ++ [.string (str (dec x.1))] := by simp [pieces]

/-- A piece more: what the append and the store leave. -/
theorem piece_added {W w2 : World} {B k : Nat} {v : Value} {xs : List Value} (s : ByteArray) (hv : Boxed W B 52 v) (hrow : W.ownsRow B 9 1 v k xs) (hb : Below W.heap.size W w2) (hB : B ≤ W.heap.size) (hk : k ≤ 100) :
    ∃ g cap w3, (Builtin.append_ #[52, 52] 52 #[v, .slice (some ⟨w2.heap.size, 0, none⟩) 1 1]).run Tryd.prog (w2.alloc (.cells #[.string s] 9)) = .ok (.slice (some ⟨g, 0, none⟩) (k + 1) cap) w3 ∧
      (w2.cell? ⟨B, 0, none⟩ = some v ∧ w3.cell? ⟨B, 0, none⟩ = some v ∧ w3.frozen? ⟨B, 0, none⟩ = false) ∧
      Hid (Boxed (w3.setCell ⟨B, 0, none⟩ (.slice (some ⟨g, 0, none⟩) (k + 1) cap)) B 52 (.slice (some ⟨g, 0, none⟩) (k + 1) cap) ∧ (w3.setCell ⟨B, 0, none⟩ (.slice (some ⟨g, 0, none⟩) (k + 1) cap)).ownsRow B 9 1 (.slice (some ⟨g, 0, none⟩) (k + 1) cap) (k + 1) (xs ++ [.string s]) ∧
        KeepsOthers W (w3.setCell ⟨B, 0, none⟩ (.slice (some ⟨g, 0, none⟩) (k + 1) cap)) ∧ Below B W (w3.setCell ⟨B, 0, none⟩ (.slice (some ⟨g, 0, none⟩) (k + 1) cap))) := by
  obtain ⟨i0, hi, hz0, hz1, hz2⟩ := info_parts Tryd.infoStr
  have hg2 := grown_of_below hb
  have hv2 : Boxed w2 B 52 v := hv.kept hg2 (fun e' => by cases e')
  have hrow2 : w2.ownsRow B 9 1 v k xs := hrow.kept hg2 (by cases Value.ownBlock v <;> simp)
  have hs2 := hb.size
  obtain ⟨v', w3, hrun, hown', hgrow, _⟩ := run_append_own (P := Tryd.prog) (w2.alloc (.cells #[.string s] 9)) B 52 52 9 i0 (.string ByteArray.empty) 1 16 Tryd.underlying52 hi hz0 hz1 hz2 rfl (by decide) v k _ (hrow2.alloc _) ⟨w2.heap.size, 0, none⟩ 1 1 [.string s] rfl (cell_one_new _ _ _) (by simp [Value.oneCell']) (by unfold maxLen; omega) (by omega) (by simp; omega)
  obtain ⟨g, cap, rfl⟩ := ownsRow_succ hown'
  obtain ⟨hv3, hv4, hr4, hk4, hb4⟩ := hv2.appended (by decide) hrow2 (by omega) (Nat.le_refl _) hown' hgrow
  have hk2 : KeepsOthers W w2 := ⟨hs2, fun j o hj _ => (hb.block j (Array.getElem?_eq_some_iff.1 hj).1).trans hj⟩
  exact ⟨g, cap, w3, hrun, ⟨hv2.cell, hv3.cell, hv3.frozen⟩, hv4, hr4, hk2.trans hk4, (hb.mono hB).trans hb4⟩

end Go.Proofs.YtlacmcedpphphaaDoor
