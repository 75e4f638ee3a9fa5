/- The program takes coins out of its purse. -/
import Derived.Test.YtbpcabdbnolceaaGreatDoorDg
namespace Go.Proofs.YtbpcabdbnolceaaGreatDoor
open Go.RowKit Go.Maps Go.WideMaps

theorem Pu.found {w : World} {lo B : Nat} {ps : List (Co × Value)} {p q : Int} {x : Co × Value} (h : Pu w lo B ps) (hf : findP ps (p, q) = some x) (hp : (Lit.int .i64 p).wf = true) (hq : (Lit.int .i64 q).wf = true) :
    ∃ ua uc, x.2 = .slice ua x.1.l.length uc ∧ (Instr.lookup 73 (.map (some B)) (.agg #[.int .i64 p, .int .i64 q]) true).run Tryz.prog w = .ok (.tuple #[.agg #[.int .i64 x.1.p, .int .i64 x.1.q, .int .i64 x.1.v, .slice ua x.1.l.length uc, .int .i64 x.1.x, .int .i64 x.1.y, .int .i64 x.1.h, .bool x.1.m], .bool true]) w := by
  have h1 := h.look (r := (p, q)) hp hq
  rw [hf] at h1
  obtain ⟨ua, uc, hu⟩ : ∃ ua uc, x.2 = .slice ua x.1.l.length uc := by
    have hrow := h.rows x (find_get hf).1
    rcases hrow.2 with ⟨e1, e2⟩ | ⟨g, cp, cur, e1, _⟩
    · exact ⟨none, 0, by rw [show x.2 = .slice none 0 0 from e1, show x.1.l.length = 0 from e2]⟩
    · exact ⟨some ⟨g, 0, none⟩, cp, e1⟩
  refine ⟨ua, uc, hu, ?_⟩
  rw [← hu]
  exact h1
theorem Pu.lacks {w : World} {lo B : Nat} {ps : List (Co × Value)} {p q : Int} (h : Pu w lo B ps) (hf : findP ps (p, q) = none) (hp : (Lit.int .i64 p).wf = true) (hq : (Lit.int .i64 q).wf = true) :
    (Instr.lookup 73 (.map (some B)) (.agg #[.int .i64 p, .int .i64 q]) true).run Tryz.prog w = .ok (.tuple #[.agg #[.int .i64 0, .int .i64 0, .int .i64 0, .slice none 0 0, .int .i64 0, .int .i64 0, .int .i64 0, .bool false], .bool false]) w := by
  have h1 := h.look (r := (p, q)) hp hq
  rw [hf] at h1
  exact h1

def hasC (cs : List Co) (r : Int × Int) : Bool := cs.any fun c => decide ((c.p, c.q) = r)
theorem has_map {ps : List (Co × Value)} {r : Int × Int} : hasC (ps.map (·.1)) r = (findP ps r).isSome := by
  unfold hasC findP
  induction ps with
  | nil => rfl
  | cons x t ih =>
    rw [List.map_cons, List.any_cons]
    by_cases e : refOf x = r
    · rw [List.find?_cons_of_pos (by simp [e]), decide_eq_true (show (x.1.p, x.1.q) = r from e)]; rfl
    · rw [List.find?_cons_of_neg (by simp [e]), decide_eq_false (show ¬ (x.1.p, x.1.q) = r from e), Bool.false_or]; exact ih
end Go.Proofs.YtbpcabdbnolceaaGreatDoor
