/- A cluster under way, in a block of its own; the program's copy of one that is just begun. -/
import Derived.Test.YtmnahhojfcigmaaUd
import Derived.Test.YtmnahhojfcigmaaZe
import Derived.Test.YtmnahhojfcigmaaZh
import Derived.Test.YtmnahhojfcigmaaZj
import Derived.Test.YtmnahhojfcigmaaZq
import Derived.Deep.DeepCutAuto
import Derived.Deep.RegionHeld3
import Derived.Deep.RegionLaw
import Derived.Laws.OwnMore
namespace Go.Proofs.Ytmnahhojfcigmaa
open Go.RowKit Go.Maps Go.WideMaps

section
variable {w w2 W v : World} {b B : Nat} {c0 c1 c2 c3 c4 c5 c6 : Value} {t : TypeId}
theorem cells7V (h : v.heap[b]? = some (.cells #[c0, c1, c2, c3, c4, c5, c6] t (0, 0))) :
    v.cell? ⟨b, 0, none⟩ = some c0 ∧ v.cell? ⟨b, 1, none⟩ = some c1 ∧ v.cell? ⟨b, 2, none⟩ = some c2 ∧ v.cell? ⟨b, 3, none⟩ = some c3 ∧ v.cell? ⟨b, 4, none⟩ = some c4 ∧ v.cell? ⟨b, 5, none⟩ = some c5 ∧ v.cell? ⟨b, 6, none⟩ = some c6 :=
  ⟨by unfold World.cell?; rw [h]; rfl, by unfold World.cell?; rw [h]; rfl, by unfold World.cell?; rw [h]; rfl, by unfold World.cell?; rw [h]; rfl, by unfold World.cell?; rw [h]; rfl, by unfold World.cell?; rw [h]; rfl, by unfold World.cell?; rw [h]; rfl⟩
theorem set7V1 (h : W.heap[b]? = some (.cells #[c0, c1, c2, c3, c4, c5, c6] t (0, 0))) (v0 : Value) : (W.setCell ⟨b, 0, none⟩ v0).heap[b]? = some (.cells #[v0, c1, c2, c3, c4, c5, c6] t (0, 0)) := by
  have := Joins.block_setCell (i := 0) h v0
  simpa using this
theorem set7V2 (h : W.heap[b]? = some (.cells #[c0, c1, c2, c3, c4, c5, c6] t (0, 0))) (v0 v1 : Value) : ((W.setCell ⟨b, 0, none⟩ v0).setCell ⟨b, 1, none⟩ v1).heap[b]? = some (.cells #[v0, v1, c2, c3, c4, c5, c6] t (0, 0)) := by
  have := Joins.block_setCell (i := 1) (set7V1 h v0) v1
  simpa using this
theorem set7V3 (h : W.heap[b]? = some (.cells #[c0, c1, c2, c3, c4, c5, c6] t (0, 0))) (v0 v1 v2 : Value) : (((W.setCell ⟨b, 0, none⟩ v0).setCell ⟨b, 1, none⟩ v1).setCell ⟨b, 2, none⟩ v2).heap[b]? = some (.cells #[v0, v1, v2, c3, c4, c5, c6] t (0, 0)) := by
  have := Joins.block_setCell (i := 2) (set7V2 h v0 v1) v2
  simpa using this
theorem set7V4 (h : W.heap[b]? = some (.cells #[c0, c1, c2, c3, c4, c5, c6] t (0, 0))) (v0 v1 v2 v3 : Value) : ((((W.setCell ⟨b, 0, none⟩ v0).setCell ⟨b, 1, none⟩ v1).setCell ⟨b, 2, none⟩ v2).setCell ⟨b, 3, none⟩ v3).heap[b]? = some (.cells #[v0, v1, v2, v3, c4, c5, c6] t (0, 0)) := by
  have := Joins.block_setCell (i := 3) (set7V3 h v0 v1 v2) v3
  simpa using this
theorem set7V5 (h : W.heap[b]? = some (.cells #[c0, c1, c2, c3, c4, c5, c6] t (0, 0))) (v0 v1 v2 v3 v4 : Value) : (((((W.setCell ⟨b, 0, none⟩ v0).setCell ⟨b, 1, none⟩ v1).setCell ⟨b, 2, none⟩ v2).setCell ⟨b, 3, none⟩ v3).setCell ⟨b, 4, none⟩ v4).heap[b]? = some (.cells #[v0, v1, v2, v3, v4, c5, c6] t (0, 0)) := by
  have := Joins.block_setCell (i := 4) (set7V4 h v0 v1 v2 v3) v4
  simpa using this
theorem set7V6 (h : W.heap[b]? = some (.cells #[c0, c1, c2, c3, c4, c5, c6] t (0, 0))) (v0 v1 v2 v3 v4 v5 : Value) : ((((((W.setCell ⟨b, 0, none⟩ v0).setCell ⟨b, 1, none⟩ v1).setCell ⟨b, 2, none⟩ v2).setCell ⟨b, 3, none⟩ v3).setCell ⟨b, 4, none⟩ v4).setCell ⟨b, 5, none⟩ v5).heap[b]? = some (.cells #[v0, v1, v2, v3, v4, v5, c6] t (0, 0)) := by
  have := Joins.block_setCell (i := 5) (set7V5 h v0 v1 v2 v3 v4) v5
  simpa using this
theorem set7V7 (h : W.heap[b]? = some (.cells #[c0, c1, c2, c3, c4, c5, c6] t (0, 0))) (v0 v1 v2 v3 v4 v5 v6 : Value) : (((((((W.setCell ⟨b, 0, none⟩ v0).setCell ⟨b, 1, none⟩ v1).setCell ⟨b, 2, none⟩ v2).setCell ⟨b, 3, none⟩ v3).setCell ⟨b, 4, none⟩ v4).setCell ⟨b, 5, none⟩ v5).setCell ⟨b, 6, none⟩ v6).heap[b]? = some (.cells #[v0, v1, v2, v3, v4, v5, v6] t (0, 0)) := by
  have := Joins.block_setCell (i := 6) (set7V6 h v0 v1 v2 v3 v4 v5) v6
  simpa using this
theorem below_set7V (h : Below B w W) (hb : B ≤ b) (v0 v1 v2 v3 v4 v5 v6 : Value) : Below B w (((((((W.setCell ⟨b, 0, none⟩ v0).setCell ⟨b, 1, none⟩ v1).setCell ⟨b, 2, none⟩ v2).setCell ⟨b, 3, none⟩ v3).setCell ⟨b, 4, none⟩ v4).setCell ⟨b, 5, none⟩ v5).setCell ⟨b, 6, none⟩ v6) :=
  (((((((h.setCell (p := ⟨b, 0, none⟩) hb _).setCell (p := ⟨b, 1, none⟩) hb _).setCell (p := ⟨b, 2, none⟩) hb _).setCell (p := ⟨b, 3, none⟩) hb _).setCell (p := ⟨b, 4, none⟩) hb _).setCell (p := ⟨b, 5, none⟩) hb _).setCell (p := ⟨b, 6, none⟩) hb _)
end

section
variable {w w2 W v : World} {b B : Nat} {c0 c1 c2 c3 c4 c5 c6 c7 : Value} {t : TypeId}
theorem cells8V (h : v.heap[b]? = some (.cells #[c0, c1, c2, c3, c4, c5, c6, c7] t (0, 0))) :
    v.cell? ⟨b, 0, none⟩ = some c0 ∧ v.cell? ⟨b, 1, none⟩ = some c1 ∧ v.cell? ⟨b, 2, none⟩ = some c2 ∧ v.cell? ⟨b, 3, none⟩ = some c3 ∧ v.cell? ⟨b, 4, none⟩ = some c4 ∧ v.cell? ⟨b, 5, none⟩ = some c5 ∧ v.cell? ⟨b, 6, none⟩ = some c6 ∧ v.cell? ⟨b, 7, none⟩ = some c7 :=
  ⟨by unfold World.cell?; rw [h]; rfl, by unfold World.cell?; rw [h]; rfl, by unfold World.cell?; rw [h]; rfl, by unfold World.cell?; rw [h]; rfl, by unfold World.cell?; rw [h]; rfl, by unfold World.cell?; rw [h]; rfl, by unfold World.cell?; rw [h]; rfl, by unfold World.cell?; rw [h]; rfl⟩
theorem set8V1 (h : W.heap[b]? = some (.cells #[c0, c1, c2, c3, c4, c5, c6, c7] t (0, 0))) (v0 : Value) : (W.setCell ⟨b, 0, none⟩ v0).heap[b]? = some (.cells #[v0, c1, c2, c3, c4, c5, c6, c7] t (0, 0)) := by
  have := Joins.block_setCell (i := 0) h v0
  simpa using this
theorem set8V2 (h : W.heap[b]? = some (.cells #[c0, c1, c2, c3, c4, c5, c6, c7] t (0, 0))) (v0 v1 : Value) : ((W.setCell ⟨b, 0, none⟩ v0).setCell ⟨b, 1, none⟩ v1).heap[b]? = some (.cells #[v0, v1, c2, c3, c4, c5, c6, c7] t (0, 0)) := by
  have := Joins.block_setCell (i := 1) (set8V1 h v0) v1
  simpa using this
theorem set8V3 (h : W.heap[b]? = some (.cells #[c0, c1, c2, c3, c4, c5, c6, c7] t (0, 0))) (v0 v1 v2 : Value) : (((W.setCell ⟨b, 0, none⟩ v0).setCell ⟨b, 1, none⟩ v1).setCell ⟨b, 2, none⟩ v2).heap[b]? = some (.cells #[v0, v1, v2, c3, c4, c5, c6, c7] t (0, 0)) := by
  have := Joins.block_setCell (i := 2) (set8V2 h v0 v1) v2
  simpa using this
theorem set8V4 (h : W.heap[b]? = some (.cells #[c0, c1, c2, c3, c4, c5, c6, c7] t (0, 0))) (v0 v1 v2 v3 : Value) : ((((W.setCell ⟨b, 0, none⟩ v0).setCell ⟨b, 1, none⟩ v1).setCell ⟨b, 2, none⟩ v2).setCell ⟨b, 3, none⟩ v3).heap[b]? = some (.cells #[v0, v1, v2, v3, c4, c5, c6, c7] t (0, 0)) := by
  have := Joins.block_setCell (i := 3) (set8V3 h v0 v1 v2) v3
  simpa using this
theorem set8V5 (h : W.heap[b]? = some (.cells #[c0, c1, c2, c3, c4, c5, c6, c7] t (0, 0))) (v0 v1 v2 v3 v4 : Value) : (((((W.setCell ⟨b, 0, none⟩ v0).setCell ⟨b, 1, none⟩ v1).setCell ⟨b, 2, none⟩ v2).setCell ⟨b, 3, none⟩ v3).setCell ⟨b, 4, none⟩ v4).heap[b]? = some (.cells #[v0, v1, v2, v3, v4, c5, c6, c7] t (0, 0)) := by
  have := Joins.block_setCell (i := 4) (set8V4 h v0 v1 v2 v3) v4
  simpa using this
theorem set8V6 (h : W.heap[b]? = some (.cells #[c0, c1, c2, c3, c4, c5, c6, c7] t (0, 0))) (v0 v1 v2 v3 v4 v5 : Value) : ((((((W.setCell ⟨b, 0, none⟩ v0).setCell ⟨b, 1, none⟩ v1).setCell ⟨b, 2, none⟩ v2).setCell ⟨b, 3, none⟩ v3).setCell ⟨b, 4, none⟩ v4).setCell ⟨b, 5, none⟩ v5).heap[b]? = some (.cells #[v0, v1, v2, v3, v4, v5, c6, c7] t (0, 0)) := by
  have := Joins.block_setCell (i := 5) (set8V5 h v0 v1 v2 v3 v4) v5
  simpa using this
theorem set8V7 (h : W.heap[b]? = some (.cells #[c0, c1, c2, c3, c4, c5, c6, c7] t (0, 0))) (v0 v1 v2 v3 v4 v5 v6 : Value) : (((((((W.setCell ⟨b, 0, none⟩ v0).setCell ⟨b, 1, none⟩ v1).setCell ⟨b, 2, none⟩ v2).setCell ⟨b, 3, none⟩ v3).setCell ⟨b, 4, none⟩ v4).setCell ⟨b, 5, none⟩ v5).setCell ⟨b, 6, none⟩ v6).heap[b]? = some (.cells #[v0, v1, v2, v3, v4, v5, v6, c7] t (0, 0)) := by
  have := Joins.block_setCell (i := 6) (set8V6 h v0 v1 v2 v3 v4 v5) v6
  simpa using this
theorem set8V8 (h : W.heap[b]? = some (.cells #[c0, c1, c2, c3, c4, c5, c6, c7] t (0, 0))) (v0 v1 v2 v3 v4 v5 v6 v7 : Value) : ((((((((W.setCell ⟨b, 0, none⟩ v0).setCell ⟨b, 1, none⟩ v1).setCell ⟨b, 2, none⟩ v2).setCell ⟨b, 3, none⟩ v3).setCell ⟨b, 4, none⟩ v4).setCell ⟨b, 5, none⟩ v5).setCell ⟨b, 6, none⟩ v6).setCell ⟨b, 7, none⟩ v7).heap[b]? = some (.cells #[v0, v1, v2, v3, v4, v5, v6, v7] t (0, 0)) := by
  have := Joins.block_setCell (i := 7) (set8V7 h v0 v1 v2 v3 v4 v5 v6) v7
  simpa using this
theorem below_set8V (h : Below B w W) (hb : B ≤ b) (v0 v1 v2 v3 v4 v5 v6 v7 : Value) : Below B w ((((((((W.setCell ⟨b, 0, none⟩ v0).setCell ⟨b, 1, none⟩ v1).setCell ⟨b, 2, none⟩ v2).setCell ⟨b, 3, none⟩ v3).setCell ⟨b, 4, none⟩ v4).setCell ⟨b, 5, none⟩ v5).setCell ⟨b, 6, none⟩ v6).setCell ⟨b, 7, none⟩ v7) :=
  ((((((((h.setCell (p := ⟨b, 0, none⟩) hb _).setCell (p := ⟨b, 1, none⟩) hb _).setCell (p := ⟨b, 2, none⟩) hb _).setCell (p := ⟨b, 3, none⟩) hb _).setCell (p := ⟨b, 4, none⟩) hb _).setCell (p := ⟨b, 5, none⟩) hb _).setCell (p := ⟨b, 6, none⟩) hb _).setCell (p := ⟨b, 7, none⟩) hb _)
end

/-- New voters' cells. -/
def ucells (gs : List Int) : List Value := gs.flatMap fun k => [.int .i64 k, .int .i64 0, .slice none 0 0]
theorem ucells_snoc (gs : List Int) (k : Int) : ucells (gs ++ [k]) = ucells gs ++ [.int .i64 k, .int .i64 0, .slice none 0 0] := by
  unfold ucells
  rw [List.flatMap_append]
  rfl
/-- Lists in which nothing is. -/
def nils (h : Nat) : List Value := List.replicate h (.slice none 0 0)
theorem nils_snoc (h : Nat) : nils (h + 1) = nils h ++ [.slice none 0 0] := List.replicate_succ'
theorem Try.infoVtr : (Try.prog.info? 53).map (fun i => (i.zero, i.size, i.bytes)) = some (some (.agg #[.int .i64 0, .int .i64 0, .slice none 0 0]), 3, 40) := by kernel_rfl
theorem Try.infoIs : (Try.prog.info? 22).map (fun i => (i.zero, i.size, i.bytes)) = some (some (.slice none 0 0), 1, 24) := by kernel_rfl
theorem voter_added {W : World} {lo X j : Nat} {v : Value} {gs : List Int} {k : Int} (h : W.ownsRow lo 53 3 v j (ucells gs)) (hX : W.heap[X]? = some (.cells #[.int .i64 k, .int .i64 0, .slice none 0 0] 53 (0, 0))) (hj : j ≤ 1000) (hlo : lo ≤ W.heap.size) :
    ∃ g cap w5, (Builtin.append_ #[28, 28] 28 #[v, .slice (some ⟨X, 0, none⟩) 1 1]).run Try.prog W = .ok (.slice (some ⟨g, 0, none⟩) (j + 1) cap) w5 ∧
      Hid (w5.ownsRow lo 53 3 (.slice (some ⟨g, 0, none⟩) (j + 1) cap) (j + 1) (ucells (gs ++ [k])) ∧ W.grownBy w5 v.ownBlock) := by
  obtain ⟨i0, hi, hz0, hz1, hz2⟩ := info_parts Try.infoVtr
  obtain ⟨v', w5, hrun, hown', hgrow, hsome⟩ := run_append_own (P := Try.prog) W lo 28 28 53 i0 (.agg #[.int .i64 0, .int .i64 0, .slice none 0 0]) 3 40 Try.underlying28 hi hz0 hz1 hz2 rfl (by decide) v j (ucells gs) h ⟨X, 0, none⟩ 1 1 [.int .i64 k, .int .i64 0, .slice none 0 0] rfl (World.news_of_block hX) (by
    intro z hz
    simp only [List.mem_cons, List.not_mem_nil, or_false] at hz
    rcases hz with rfl | rfl | rfl <;> rfl) (by unfold maxLen; omega) (by omega) hlo
  obtain ⟨g, cap, rfl⟩ := ownsRow_succ hown'
  refine ⟨g, cap, w5, hrun, ?_, hgrow⟩
  rw [ucells_snoc]
  exact hown'
theorem nil_more {W : World} {lo X j : Nat} {v : Value} (h : W.ownsRow lo 22 1 v j (nils j)) (hX : W.heap[X]? = some (.cells #[.slice none 0 0] 22 (0, 0))) (hj : j ≤ 1000) (hlo : lo ≤ W.heap.size) :
    ∃ g cap w5, (Builtin.append_ #[30, 30] 30 #[v, .slice (some ⟨X, 0, none⟩) 1 1]).run Try.prog W = .ok (.slice (some ⟨g, 0, none⟩) (j + 1) cap) w5 ∧
      Hid (w5.ownsRow lo 22 1 (.slice (some ⟨g, 0, none⟩) (j + 1) cap) (j + 1) (nils (j + 1)) ∧ W.grownBy w5 v.ownBlock) := by
  obtain ⟨i0, hi, hz0, hz1, hz2⟩ := info_parts Try.infoIs
  obtain ⟨v', w5, hrun, hown', hgrow, hsome⟩ := run_append_own (P := Try.prog) W lo 30 30 22 i0 (.slice none 0 0) 1 24 Try.underlying30 hi hz0 hz1 hz2 rfl (by decide) v j (nils j) h ⟨X, 0, none⟩ 1 1 [.slice none 0 0] rfl (World.news_of_block hX) (by
    intro z hz
    simp only [List.mem_cons, List.not_mem_nil, or_false] at hz
    subst hz; rfl) (by unfold maxLen; omega) (by omega) hlo
  obtain ⟨g, cap, rfl⟩ := ownsRow_succ hown'
  refine ⟨g, cap, w5, hrun, ?_, hgrow⟩
  rw [nils_snoc]
  exact hown'

/-- What a cluster leads to: its keys, who is bad, its voters, what was heard: in rows of their own. -/
structure ClR (ap : Bool) (base : Nat) (W : World) (l t gs : List Int) (h : Nat) (ka : Option Addr) (kc : Nat) (ba : Option Addr) (bc : Nat) (va : Option Addr) (vc : Nat) (ha : Option Addr) (hc : Nat) : Prop where
  keys : W.ownsRow base 2 1 (.slice ka l.length kc) l.length (ints l)
  bad : W.ownsRow base 2 1 (.slice ba t.length bc) t.length (ints t)
  apart : ap = true → ∀ b, Value.ownBlock (.slice ka l.length kc) = some b → Value.ownBlock (.slice ba t.length bc) ≠ some b
  vts : W.ownsRow base 53 3 (.slice va gs.length vc) gs.length (ucells gs)
  hrd : W.ownsRow base 22 1 (.slice ha h hc) h (nils h)
section
variable {ap : Bool} {base : Nat} {W W2 : World} {l t gs : List Int} {h : Nat} {ka : Option Addr} {kc : Nat} {ba : Option Addr} {bc : Nat} {va : Option Addr} {vc : Nat} {ha : Option Addr} {hc : Nat}
theorem row_below {w w' : World} {lo n z : Nat} {e : TypeId} {v : Value} {xs : List Value} (h : w.ownsRow lo e z v n xs) (hb : Below w.heap.size w w') : w'.ownsRow lo e z v n xs := h.kept (grown_of_below hb) (by cases Value.ownBlock v <;> simp)
theorem ClR.below (H : ClR ap base W l t gs h ka kc ba bc va vc ha hc) (hb : Below W.heap.size W W2) : ClR ap base W2 l t gs h ka kc ba bc va vc ha hc := ⟨row_below H.keys hb, row_below H.bad hb, H.apart, row_below H.vts hb, row_below H.hrd hb⟩
theorem ClR.low (H : ClR ap base W l t gs h ka kc ba bc va vc ha hc) {b2 : Nat} (hb : b2 ≤ base) : ClR ap b2 W l t gs h ka kc ba bc va vc ha hc := ⟨Joins.ownsRow_le H.keys hb, Joins.ownsRow_le H.bad hb, H.apart, Joins.ownsRow_le H.vts hb, Joins.ownsRow_le H.hrd hb⟩
theorem ClR.set1 (H : ClR ap base W l t gs h ka kc ba bc va vc ha hc) {R : Nat} {cs : Array Value} {T : TypeId} (hR : W.heap[R]? = some (.cells cs T (0, 0))) (h1 : T ≠ 2) (h2 : T ≠ 53) (h3 : T ≠ 22) (i : Nat) (u : Value) : ClR ap base (W.setCell ⟨R, i, none⟩ u) l t gs h ka kc ba bc va vc ha hc :=
  ⟨ownsRow_setCell_other H.keys (a := ⟨R, i, none⟩) (row_neV H.keys hR h1) u, ownsRow_setCell_other H.bad (a := ⟨R, i, none⟩) (row_neV H.bad hR h1) u, H.apart, ownsRow_setCell_other H.vts (a := ⟨R, i, none⟩) (row_neV H.vts hR h2) u, ownsRow_setCell_other H.hrd (a := ⟨R, i, none⟩) (row_neV H.hrd hR h3) u⟩
theorem ClR.set7 (H : ClR ap base W l t gs h ka kc ba bc va vc ha hc) {R : Nat} {c0 c1 c2 c3 c4 c5 c6 : Value} {T : TypeId} (hR : W.heap[R]? = some (.cells #[c0, c1, c2, c3, c4, c5, c6] T (0, 0))) (h1 : T ≠ 2) (h2 : T ≠ 53) (h3 : T ≠ 22) (v0 v1 v2 v3 v4 v5 v6 : Value) : ClR ap base (((((((W.setCell ⟨R, 0, none⟩ (v0)).setCell ⟨R, 1, none⟩ (v1)).setCell ⟨R, 2, none⟩ (v2)).setCell ⟨R, 3, none⟩ (v3)).setCell ⟨R, 4, none⟩ (v4)).setCell ⟨R, 5, none⟩ (v5)).setCell ⟨R, 6, none⟩ (v6)) l t gs h ka kc ba bc va vc ha hc := by
  have r1 := H.set1 hR h1 h2 h3 0 v0
  have r2 := r1.set1 (set7V1 hR v0) h1 h2 h3 1 v1
  have r3 := r2.set1 (set7V2 hR v0 v1) h1 h2 h3 2 v2
  have r4 := r3.set1 (set7V3 hR v0 v1 v2) h1 h2 h3 3 v3
  have r5 := r4.set1 (set7V4 hR v0 v1 v2 v3) h1 h2 h3 4 v4
  have r6 := r5.set1 (set7V5 hR v0 v1 v2 v3 v4) h1 h2 h3 5 v5
  have r7 := r6.set1 (set7V6 hR v0 v1 v2 v3 v4 v5) h1 h2 h3 6 v6
  exact r7
theorem ClR.set8 (H : ClR ap base W l t gs h ka kc ba bc va vc ha hc) {R : Nat} {c0 c1 c2 c3 c4 c5 c6 c7 : Value} {T : TypeId} (hR : W.heap[R]? = some (.cells #[c0, c1, c2, c3, c4, c5, c6, c7] T (0, 0))) (h1 : T ≠ 2) (h2 : T ≠ 53) (h3 : T ≠ 22) (v0 v1 v2 v3 v4 v5 v6 v7 : Value) : ClR ap base ((((((((W.setCell ⟨R, 0, none⟩ (v0)).setCell ⟨R, 1, none⟩ (v1)).setCell ⟨R, 2, none⟩ (v2)).setCell ⟨R, 3, none⟩ (v3)).setCell ⟨R, 4, none⟩ (v4)).setCell ⟨R, 5, none⟩ (v5)).setCell ⟨R, 6, none⟩ (v6)).setCell ⟨R, 7, none⟩ (v7)) l t gs h ka kc ba bc va vc ha hc := by
  have r1 := H.set1 hR h1 h2 h3 0 v0
  have r2 := r1.set1 (set8V1 hR v0) h1 h2 h3 1 v1
  have r3 := r2.set1 (set8V2 hR v0 v1) h1 h2 h3 2 v2
  have r4 := r3.set1 (set8V3 hR v0 v1 v2) h1 h2 h3 3 v3
  have r5 := r4.set1 (set8V4 hR v0 v1 v2 v3) h1 h2 h3 4 v4
  have r6 := r5.set1 (set8V5 hR v0 v1 v2 v3 v4) h1 h2 h3 5 v5
  have r7 := r6.set1 (set8V6 hR v0 v1 v2 v3 v4 v5) h1 h2 h3 6 v6
  have r8 := r7.set1 (set8V7 hR v0 v1 v2 v3 v4 v5 v6) h1 h2 h3 7 v7
  exact r8
end

/-- A cluster under way in block R. -/
def CuB (ap : Bool) (w1 W : World) (R : Nat) (l : List Int) (x : Int) (t gs : List Int) (h : Nat) : Prop :=
  w1.heap.size ≤ R ∧ Below w1.heap.size w1 W ∧ ∃ ka kc ba bc va vc ha hc, W.heap[R]? = some (.cells #[.slice ka l.length kc, .int .i64 x, .slice ba t.length bc, .slice none 0 0, .slice va gs.length vc, .slice none 0 0, .slice ha h hc] 32 (0, 0)) ∧ ClR ap w1.heap.size W l t gs h ka kc ba bc va vc ha hc
theorem CuB.step {ap : Bool} {w1 W W2 : World} {R : Nat} {l : List Int} {x : Int} {t gs : List Int} {h : Nat} (H : CuB ap w1 W R l x t gs h) (hb : Below W.heap.size W W2) : CuB ap w1 W2 R l x t gs h := by
  obtain ⟨h1, h2, ka, kc, ba, bc, va, vc, ha, hc, h3, h4⟩ := H
  exact ⟨h1, h2.trans (hb.mono h2.size), ka, kc, ba, bc, va, vc, ha, hc, (keepb h3 hb).out, h4.below hb⟩
theorem neC1 : (32 : TypeId) ≠ 2 := by decide
theorem neC2 : (32 : TypeId) ≠ 53 := by decide
theorem neC3 : (32 : TypeId) ≠ 22 := by decide
theorem neR1 : (34 : TypeId) ≠ 2 := by decide
theorem neR2 : (34 : TypeId) ≠ 53 := by decide
theorem neR3 : (34 : TypeId) ≠ 22 := by decide
theorem neV1 : (53 : TypeId) ≠ 2 := by decide
theorem neV3 : (53 : TypeId) ≠ 22 := by decide
theorem neI1 : (22 : TypeId) ≠ 2 := by decide
theorem neI2 : (22 : TypeId) ≠ 53 := by decide
theorem block_row {w : World} {base n z g : Nat} {e : TypeId} {v : Value} {xs : List Value} (h : w.ownsRow base e z v n xs) (hg : v.ownBlock = some g) : ∃ cs, w.heap[g]? = some (.cells cs e (0, 0)) := by
  rcases id h.2 with ⟨rfl, _⟩ | ⟨g', c, cur', rfl, _, hh, _⟩
  · cases hg
  · simp [Value.ownBlock] at hg
    subst hg
    exact ⟨_, hh⟩
theorem row_apart {w : World} {b1 b2 n1 n2 z1 z2 : Nat} {e1 e2 : TypeId} {v1 v2 : Value} {x1 x2 : List Value} (h1 : w.ownsRow b1 e1 z1 v1 n1 x1) (h2 : w.ownsRow b2 e2 z2 v2 n2 x2) (hne : e2 ≠ e1) : v1.ownBlock = none ∨ v1.ownBlock ≠ v2.ownBlock := by
  cases hg : v2.ownBlock with
  | none => cases Value.ownBlock v1 <;> simp
  | some g =>
    obtain ⟨cs, hb⟩ := block_row h2 hg
    exact .inr (row_neV h1 hb hne)
/-- Nothing is heard by one more. -/
theorem CuB.heard {ap : Bool} {w1 W : World} {R : Nat} {l : List Int} {x : Int} {t gs : List Int} {h : Nat} {ka : Option Addr} {kc : Nat} {ba : Option Addr} {bc : Nat} {va : Option Addr} {vc : Nat} {ha : Option Addr} {hc : Nat} (h1 : w1.heap.size ≤ R) (h2 : Below w1.heap.size w1 W) (h3 : W.heap[R]? = some (.cells #[.slice ka l.length kc, .int .i64 x, .slice ba t.length bc, .slice none 0 0, .slice va gs.length vc, .slice none 0 0, .slice ha h hc] 32 (0, 0))) (H : ClR ap w1.heap.size W l t gs h ka kc ba bc va vc ha hc) (hh : h ≤ 100) :
    ∃ g cap w5, (Builtin.append_ #[30, 30] 30 #[.slice ha h hc, .slice (some ⟨W.heap.size, 0, none⟩) 1 1]).run Try.prog (W.alloc (.cells #[.slice none 0 0] 22)) = .ok (.slice (some ⟨g, 0, none⟩) (h + 1) cap) w5 ∧
      Hid (w5.heap[R]? = some (.cells #[.slice ka l.length kc, .int .i64 x, .slice ba t.length bc, .slice none 0 0, .slice va gs.length vc, .slice none 0 0, .slice ha h hc] 32 (0, 0))) ∧ Hid (CuB ap w1 (w5.setCell ⟨R, 6, none⟩ (.slice (some ⟨g, 0, none⟩) (h + 1) cap)) R l x t gs (h + 1)) := by
  have hb := below_box (w := W) (.cells #[.slice none 0 0] 22)
  have H2 := H.below hb
  have h4 := (keepb h3 hb).out
  have hb2 := h2.trans (hb.mono h2.size)
  obtain ⟨g, cap, w5, hrun, HO⟩ := nil_more (X := W.heap.size) H2.hrd (heap_alloc_new _ _) (by omega) hb2.size
  obtain ⟨ho, hg⟩ := HO.out
  have h5 : w5.heap[R]? = some (.cells #[.slice ka l.length kc, .int .i64 x, .slice ba t.length bc, .slice none 0 0, .slice va gs.length vc, .slice none 0 0, .slice ha h hc] 32 (0, 0)) := (hg.block R (lt_of_block h4) (fun e => row_neV H2.hrd h4 neC3 e.symm)).trans h4
  have H5 : ClR ap w1.heap.size w5 l t gs (h + 1) ka kc ba bc va vc (some ⟨g, 0, none⟩) cap := ⟨H2.keys.kept hg (row_apart H2.keys H2.hrd neI1), H2.bad.kept hg (row_apart H2.bad H2.hrd neI1), H2.apart, H2.vts.kept hg (row_apart H2.vts H2.hrd neI2), ho⟩
  refine ⟨g, cap, w5, hrun, h5, h1, (hb2.grown hg hb2.size (fun k hk => (H2.hrd.lt k hk).1)).setCell (p := ⟨R, 6, none⟩) h1 _, ka, kc, ba, bc, va, vc, some ⟨g, 0, none⟩, cap, ?_, H5.set1 h5 neC1 neC2 neC3 6 _⟩
  have := Joins.block_setCell (i := 6) h5 (.slice (some ⟨g, 0, none⟩) (h + 1) cap)
  simpa using this
/-- The copy that is just begun. -/
theorem cu_set {w1 W : World} {R s1 lo2 : Nat} {l t : List Int} {x : Int} {ka : Option Addr} {kc : Nat} {ba : Option Addr} {bc : Nat} (HK : Hid (OwnR W w1.heap.size s1 2 1 (.slice ka l.length kc) l.length (ints l))) (HB : Hid (W.ownsRow lo2 2 1 (.slice ba t.length bc) t.length (ints t))) (hs : s1 ≤ lo2) (hl : w1.heap.size ≤ lo2) (HC : Hid (Below w1.heap.size w1 W)) (HZ : Hid (W.heap[R]? = some (.cells #[.slice none 0 0, .int .i64 0, .slice none 0 0, .slice none 0 0, .slice none 0 0, .slice none 0 0, .slice none 0 0] 32 (0, 0)))) (hR1 : w1.heap.size ≤ R) :
    Hid (CuB true w1 (((((((W.setCell ⟨R, 0, none⟩ (.slice ka l.length kc)).setCell ⟨R, 1, none⟩ (.int .i64 x)).setCell ⟨R, 2, none⟩ (.slice ba t.length bc)).setCell ⟨R, 3, none⟩ (.slice none 0 0)).setCell ⟨R, 4, none⟩ (.slice none 0 0)).setCell ⟨R, 5, none⟩ (.slice none 0 0)).setCell ⟨R, 6, none⟩ (.slice none 0 0)) R l x t [] 0) := by
  have H : ClR true w1.heap.size W l t [] 0 ka kc ba bc none 0 none 0 := ⟨HK.out.r, Joins.ownsRow_le HB.out hl, fun _ b e1 e2 => by have := HK.out.tb b e1; have := (HB.out.lt b e2).1; omega, World.ownsRow_nil _ _ _ _, World.ownsRow_nil _ _ _ _⟩
  exact ⟨hR1, below_set7V HC.out hR1 _ _ _ _ _ _ _, ka, kc, ba, bc, none, 0, none, 0, set7V7 HZ.out _ _ _ _ _ _ _, H.set7 HZ.out neC1 neC2 neC3 _ _ _ _ _ _ _⟩
theorem cu_new {w1 W : World} {s1 lo2 : Nat} {l t : List Int} {x : Int} {ka : Option Addr} {kc : Nat} {ba : Option Addr} {bc : Nat} (HK : Hid (OwnR W w1.heap.size s1 2 1 (.slice ka l.length kc) l.length (ints l))) (HB : Hid (W.ownsRow lo2 2 1 (.slice ba t.length bc) t.length (ints t))) (hs : s1 ≤ lo2) (hl : w1.heap.size ≤ lo2) (HC : Hid (Below w1.heap.size w1 W)) :
    Hid (CuB true w1 (W.alloc (.cells #[.slice ka l.length kc, .int .i64 x, .slice ba t.length bc, .slice none 0 0, .slice none 0 0, .slice none 0 0, .slice none 0 0] 32)) W.heap.size l x t [] 0) := by
  have H : ClR true w1.heap.size W l t [] 0 ka kc ba bc none 0 none 0 := ⟨HK.out.r, Joins.ownsRow_le HB.out hl, fun _ b e1 e2 => by have := HK.out.tb b e1; have := (HB.out.lt b e2).1; omega, World.ownsRow_nil _ _ _ _, World.ownsRow_nil _ _ _ _⟩
  exact ⟨HC.out.size, HC.out.trans ((below_box _).mono HC.out.size), ka, kc, ba, bc, none, 0, none, 0, heap_alloc_new _ _, H.below (below_box _)⟩
theorem nClone_nil (w : World) : Calls Try.prog 38 #[.slice none 0 0] w fun e w' => e = .returned (.slice none 0 0) ∧ w' = w := by
  have hnil : ∀ W : World, (binOp BinOp.eql 27 (.slice none 0 0) (.slice none 0 0)).run Try.prog W = .ok (.bool true) W := fun W => (by kernel_rfl)
  go_enter Try.func38, Try.ntmps38
  go_wp2
  go_ret
  exact ⟨rfl, rfl⟩
theorem voClone_nil (w : World) : Calls Try.prog 39 #[.slice none 0 0] w fun e w' => e = .returned (.slice none 0 0) ∧ w' = w := by
  have hnil : ∀ W : World, (binOp BinOp.eql 29 (.slice none 0 0) (.slice none 0 0)).run Try.prog W = .ok (.bool true) W := fun W => (by kernel_rfl)
  go_enter Try.func39, Try.ntmps39
  go_wp2
  go_ret
  exact ⟨rfl, rfl⟩
theorem iClone_nil (w : World) : Calls Try.prog 37 #[.slice none 0 0] w fun e w' => e = .returned (.slice none 0 0) ∧ w' = w := by
  have hnil : ∀ W : World, (binOp BinOp.eql 22 (.slice none 0 0) (.slice none 0 0)).run Try.prog W = .ok (.bool true) W := fun W => (by kernel_rfl)
  go_enter Try.func37, Try.ntmps37
  go_wp2
  go_ret
  exact ⟨rfl, rfl⟩
theorem ownR_below {w w' : World} {lo hi n z : Nat} {t : TypeId} {v : Value} {xs : List Value} (h : Hid (OwnR w lo hi t z v n xs)) (hb : Below w.heap.size w w') : Hid (OwnR w' lo hi t z v n xs) := h.out.below hb
theorem row_belowH {w w' : World} {lo n z : Nat} {t : TypeId} {v : Value} {xs : List Value} (h : Hid (w.ownsRow lo t z v n xs)) (hb : Below w.heap.size w w') : Hid (w'.ownsRow lo t z v n xs) := row_below h.out hb

end Go.Proofs.Ytmnahhojfcigmaa
