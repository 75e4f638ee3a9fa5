/- The program takes coins out of its purse. -/
import Derived.Test.YtngpegmfhhgkgaaGreatDoorDg
namespace Go.Proofs.YtngpegmfhhgkgaaGreatDoor
open Go.RowKit Go.Maps Go.WideMaps

theorem Pu.found {w : World} {lo B : Nat} {ps : List (Co × Value)} {p q : Int} {x : Co × Value} (h : Pu w lo B ps) (hf : findP ps (p, q) = some x) (hp : (Lit.int .i64 p).wf = true) (hq : (Lit.int .i64 q).wf = true) :
    ∃ ua uc, x.2 = .slice ua x.1.l.length uc ∧ (Instr.lookup 73 (.map (some B)) (.agg #[.int .i64 p, .int .i64 q]) true).run Tryz.prog w = .ok (.tuple #[.agg #[.int .i64 x.1.p, .int .i64 x.1.q, .int .i64 x.1.v, .slice ua x.1.l.length uc, .int .i64 x.1.x, .int .i64 x.1.y, .int .i64 x.1.h, .bool x.1.m], .bool true]) w := by
  have h1 := h.look (r := (p, q)) hp hq
  rw [hf] at h1
  obtain ⟨ua, uc, hu⟩ : ∃ ua uc, x.2 = .slice ua x.1.l.length uc := by
    have hrow := h.rows x (find_get hf).1
    rcases hrow.2 with ⟨e1, e2⟩ | ⟨g, cp, cur, e1, _⟩
    · exact ⟨none, 0, by rw [show x.2 = .slice none 0 0 from e1, show x.1.l.length = 0 from e2]⟩
    · exact ⟨some ⟨g, 0, none⟩, cp, e1⟩
  refine ⟨ua, uc, hu, ?_⟩
  rw [← hu]
  exact h1
theorem Pu.lacks {w : World} {lo B : Nat} {ps : List (Co × Value)} {p q : Int} (h : Pu w lo B ps) (hf : findP ps (p, q) = none) (hp : (Lit.int .i64 p).wf = true) (hq : (Lit.int .i64 q).wf = true) :
    (Instr.lookup 73 (.map (some B)) (.agg #[.int .i64 p, .int .i64 q]) true).run Tryz.prog w = .ok (.tuple #[.agg #[.int .i64 0, .int .i64 0, .int .i64 0, .slice none 0 0, .int .i64 0, .int .i64 0, .int .i64 0, .bool false], .bool false]) w := by
  have h1 := h.look (r := (p, q)) hp hq
  rw [hf] at h1
  exact h1

/-- A delete in a plain region, out of its own run. -/
theorem wpList_delete_run {P : Program} {w : World} {ops : Array Oper} {rest : List Oper} {o : Oper} {a : Act} {Q : Exit → Act → World → Prop} (hgd : o.guard = none) (s x : Operand) (t k : TypeId)
    (hop : o.op = .call { callee := .builtin .delete, args := #[s, x], argTypes := #[t, k] }) {v u v' : Value} {w' : World} (hs : a.eval s = v) (hx : a.eval x = u) (hrun : (Builtin.delete_ #[t, k] o.type #[v, u]).run P w = .ok v' w') (h : wpList P ops Q rest (a.put o.dst v') w') :
    wpList P ops Q (o :: rest) a w :=
  wpList_plain hgd fun _ hK => by
    unfold Oper.wp
    simp [execOp, hop, resolve, invoke, builtin, hs, hx, hrun, Result.andThen]
    exact hK _ _ h

set_option maxRecDepth 20000 in
set_option maxHeartbeats 2000000 in
theorem take_any (B lo : Nat) (p q : Int) (ps : List (Co × Value)) (x : Co × Value) (w : World) (hP : Pu w lo B ps) (hf : findP ps (p, q) = some x) (hp : (Lit.int .i64 p).wf = true) (hq : (Lit.int .i64 q).wf = true) :
    Calls Tryz.prog 55 #[.map (some B), .agg #[.int .i64 p, .int .i64 q]] w fun e w' => e = .returned (.bool true) ∧ Hid (Pu w' lo B (dropP ps (p, q))) ∧ Hid (Chg w w' B (B + 1)) := by
  have hbx : Below w.heap.size w (w.alloc (.cells #[.int .i64 p, .int .i64 q] 63)) := below_box _
  have hX := heap_alloc_new w (.cells #[.int .i64 p, .int .i64 q] 63)
  obtain ⟨s0, s1⟩ := cells2 hX
  have h1 := hP.below hbx
  obtain ⟨ua, uc, hu, hl⟩ := h1.found hf hp hq
  obtain ⟨u0, u1⟩ : ((w.alloc (.cells #[.int .i64 p, .int .i64 q] 63)).alloc (.cells #[.int .i64 x.1.p, .int .i64 x.1.q, .int .i64 x.1.v, .slice ua x.1.l.length uc, .int .i64 x.1.x, .int .i64 x.1.y, .int .i64 x.1.h, .bool x.1.m] 68)).cell? ⟨w.heap.size, 0, none⟩ = some (.int .i64 p) ∧ ((w.alloc (.cells #[.int .i64 p, .int .i64 q] 63)).alloc (.cells #[.int .i64 x.1.p, .int .i64 x.1.q, .int .i64 x.1.v, .slice ua x.1.l.length uc, .int .i64 x.1.x, .int .i64 x.1.y, .int .i64 x.1.h, .bool x.1.m] 68)).cell? ⟨w.heap.size, 1, none⟩ = some (.int .i64 q) := cells2 ((keepb hX (below_box _)).out)
  have hbx2 : Below w.heap.size w ((w.alloc (.cells #[.int .i64 p, .int .i64 q] 63)).alloc (.cells #[.int .i64 x.1.p, .int .i64 x.1.q, .int .i64 x.1.v, .slice ua x.1.l.length uc, .int .i64 x.1.x, .int .i64 x.1.y, .int .i64 x.1.h, .bool x.1.m] 68)) := below_box2 _ _
  have h2 := hP.below hbx2
  obtain ⟨w', hrun, hPu, hg⟩ := h2.drop hf hp hq 0
  have hrun' : ∀ ty, (Builtin.delete_ #[73, 63] ty #[.map (some B), .agg #[.int .i64 p, .int .i64 q]]).run Tryz.prog ((w.alloc (.cells #[.int .i64 p, .int .i64 q] 63)).alloc (.cells #[.int .i64 x.1.p, .int .i64 x.1.q, .int .i64 x.1.v, .slice ua x.1.l.length uc, .int .i64 x.1.x, .int .i64 x.1.y, .int .i64 x.1.h, .bool x.1.m] 68)) = .ok (.tuple #[]) w' := fun ty => hrun
  have HPU : Hid (Pu w' lo B (dropP ps (p, q))) := hPu
  have HCH : Hid (Chg w w' B (B + 1)) := (Chg.of_below hbx2 _ _).trans (Chg.of_grown hg.grown fun k e => by cases e; omega)
  clear hP h1 h2 hf hp hq hu hrun hPu hg hbx hbx2 hX
  go_enter Tryz.func55, Tryz.ntmps55
  go_wp2_with (first | (at_builtin; go_must (refine wpList_delete_run (by rfl) _ _ _ _ (by rfl) (by rfl) (by rfl) (hrun' _) ?_); clear hrun'))
  go_ret
  exact ⟨rfl, HPU.out, HCH.out⟩

/-- Coins without that of a ref; coins without those of some refs. -/
def dropC (cs : List Co) (r : Int × Int) : List Co := cs.filter fun c => decide ((c.p, c.q) ≠ r)
def hasC (cs : List Co) (r : Int × Int) : Bool := cs.any fun c => decide ((c.p, c.q) = r)
def goT : List Co → List (Int × Int) → Int × List Co
  | cs, [] => (0, cs)
  | cs, r :: rs => if hasC cs r = true then goT (dropC cs r) rs else (4, [])
theorem drop_map (ps : List (Co × Value)) (r : Int × Int) : (dropP ps r).map (·.1) = dropC (ps.map (·.1)) r := by
  unfold dropP dropC
  rw [List.filter_map]
  rfl
theorem has_map {ps : List (Co × Value)} {r : Int × Int} : hasC (ps.map (·.1)) r = (findP ps r).isSome := by
  unfold hasC findP
  induction ps with
  | nil => rfl
  | cons x t ih =>
    rw [List.map_cons, List.any_cons]
    by_cases e : refOf x = r
    · rw [List.find?_cons_of_pos (by simp [e]), decide_eq_true (show (x.1.p, x.1.q) = r from e)]; rfl
    · rw [List.find?_cons_of_neg (by simp [e]), decide_eq_false (show ¬ (x.1.p, x.1.q) = r from e), Bool.false_or]; exact ih
theorem rise_drop {cs : List Co} (r : Int × Int) (h : cs.Pairwise (fun x y => 0 < cmpR (y.p, y.q) (x.p, x.q))) : (dropC cs r).Pairwise (fun x y => 0 < cmpR (y.p, y.q) (x.p, x.q)) := h.filter _
theorem next_ref {rs : List (Int × Int)} {n j : Nat} {o : Int × Int} (hn : rs.length = n) (hlt : j < n) (ho : o = rs.getD j G0) : rs.drop j = o :: rs.drop (j + 1) := by
  rw [List.drop_eq_getElem_cons (by omega), ho]
  simp [List.getD, List.getElem?_eq_getElem (show j < rs.length by omega)]

end Go.Proofs.YtngpegmfhhgkgaaGreatDoor
