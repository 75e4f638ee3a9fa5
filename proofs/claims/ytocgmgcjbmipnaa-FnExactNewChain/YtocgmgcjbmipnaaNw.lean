/- Chains of a ledger alone: compared, marked and held; what NewChain answers, on both sides. -/
import Derived.Test.YtocgmgcjbmipnaaINt
import Derived.Test.YtocgmgcjbmipnaaMk
namespace Go.Proofs.Ytocgmgcjbmipnaa
open Go.RowKit Go.Maps Go.WideMaps

section
variable {w w2 W v : World} {b B : Nat} {c0 c1 c2 c3 c4 c5 c6 c7 c8 : Value} {t : TypeId}
theorem cells9V (h : v.heap[b]? = some (.cells #[c0, c1, c2, c3, c4, c5, c6, c7, c8] t (0, 0))) :
    v.cell? ⟨b, 0, none⟩ = some c0 ∧ v.cell? ⟨b, 1, none⟩ = some c1 ∧ v.cell? ⟨b, 2, none⟩ = some c2 ∧ v.cell? ⟨b, 3, none⟩ = some c3 ∧ v.cell? ⟨b, 4, none⟩ = some c4 ∧ v.cell? ⟨b, 5, none⟩ = some c5 ∧ v.cell? ⟨b, 6, none⟩ = some c6 ∧ v.cell? ⟨b, 7, none⟩ = some c7 ∧ v.cell? ⟨b, 8, none⟩ = some c8 :=
  ⟨by unfold World.cell?; rw [h]; rfl, by unfold World.cell?; rw [h]; rfl, by unfold World.cell?; rw [h]; rfl, by unfold World.cell?; rw [h]; rfl, by unfold World.cell?; rw [h]; rfl, by unfold World.cell?; rw [h]; rfl, by unfold World.cell?; rw [h]; rfl, by unfold World.cell?; rw [h]; rfl, by unfold World.cell?; rw [h]; rfl⟩
end
section
variable {w w2 W v : World} {b B : Nat} {c0 c1 c2 c3 c4 c5 c6 c7 c8 c9 c10 : Value} {t : TypeId}
theorem cells11V (h : v.heap[b]? = some (.cells #[c0, c1, c2, c3, c4, c5, c6, c7, c8, c9, c10] t (0, 0))) :
    v.cell? ⟨b, 0, none⟩ = some c0 ∧ v.cell? ⟨b, 1, none⟩ = some c1 ∧ v.cell? ⟨b, 2, none⟩ = some c2 ∧ v.cell? ⟨b, 3, none⟩ = some c3 ∧ v.cell? ⟨b, 4, none⟩ = some c4 ∧ v.cell? ⟨b, 5, none⟩ = some c5 ∧ v.cell? ⟨b, 6, none⟩ = some c6 ∧ v.cell? ⟨b, 7, none⟩ = some c7 ∧ v.cell? ⟨b, 8, none⟩ = some c8 ∧ v.cell? ⟨b, 9, none⟩ = some c9 ∧ v.cell? ⟨b, 10, none⟩ = some c10 :=
  ⟨by unfold World.cell?; rw [h]; rfl, by unfold World.cell?; rw [h]; rfl, by unfold World.cell?; rw [h]; rfl, by unfold World.cell?; rw [h]; rfl, by unfold World.cell?; rw [h]; rfl, by unfold World.cell?; rw [h]; rfl, by unfold World.cell?; rw [h]; rfl, by unfold World.cell?; rw [h]; rfl, by unfold World.cell?; rw [h]; rfl, by unfold World.cell?; rw [h]; rfl, by unfold World.cell?; rw [h]; rfl⟩
theorem set11V1 (h : W.heap[b]? = some (.cells #[c0, c1, c2, c3, c4, c5, c6, c7, c8, c9, c10] t (0, 0))) (v0 : Value) : (W.setCell ⟨b, 0, none⟩ v0).heap[b]? = some (.cells #[v0, c1, c2, c3, c4, c5, c6, c7, c8, c9, c10] t (0, 0)) := by
  have := Joins.block_setCell (i := 0) h v0
  simpa using this
theorem set11V2 (h : W.heap[b]? = some (.cells #[c0, c1, c2, c3, c4, c5, c6, c7, c8, c9, c10] t (0, 0))) (v0 v1 : Value) : ((W.setCell ⟨b, 0, none⟩ v0).setCell ⟨b, 1, none⟩ v1).heap[b]? = some (.cells #[v0, v1, c2, c3, c4, c5, c6, c7, c8, c9, c10] t (0, 0)) := by
  have := Joins.block_setCell (i := 1) (set11V1 h v0) v1
  simpa using this
theorem set11V3 (h : W.heap[b]? = some (.cells #[c0, c1, c2, c3, c4, c5, c6, c7, c8, c9, c10] t (0, 0))) (v0 v1 v2 : Value) : (((W.setCell ⟨b, 0, none⟩ v0).setCell ⟨b, 1, none⟩ v1).setCell ⟨b, 2, none⟩ v2).heap[b]? = some (.cells #[v0, v1, v2, c3, c4, c5, c6, c7, c8, c9, c10] t (0, 0)) := by
  have := Joins.block_setCell (i := 2) (set11V2 h v0 v1) v2
  simpa using this
theorem set11V4 (h : W.heap[b]? = some (.cells #[c0, c1, c2, c3, c4, c5, c6, c7, c8, c9, c10] t (0, 0))) (v0 v1 v2 v3 : Value) : ((((W.setCell ⟨b, 0, none⟩ v0).setCell ⟨b, 1, none⟩ v1).setCell ⟨b, 2, none⟩ v2).setCell ⟨b, 3, none⟩ v3).heap[b]? = some (.cells #[v0, v1, v2, v3, c4, c5, c6, c7, c8, c9, c10] t (0, 0)) := by
  have := Joins.block_setCell (i := 3) (set11V3 h v0 v1 v2) v3
  simpa using this
theorem set11V5 (h : W.heap[b]? = some (.cells #[c0, c1, c2, c3, c4, c5, c6, c7, c8, c9, c10] t (0, 0))) (v0 v1 v2 v3 v4 : Value) : (((((W.setCell ⟨b, 0, none⟩ v0).setCell ⟨b, 1, none⟩ v1).setCell ⟨b, 2, none⟩ v2).setCell ⟨b, 3, none⟩ v3).setCell ⟨b, 4, none⟩ v4).heap[b]? = some (.cells #[v0, v1, v2, v3, v4, c5, c6, c7, c8, c9, c10] t (0, 0)) := by
  have := Joins.block_setCell (i := 4) (set11V4 h v0 v1 v2 v3) v4
  simpa using this
theorem set11V6 (h : W.heap[b]? = some (.cells #[c0, c1, c2, c3, c4, c5, c6, c7, c8, c9, c10] t (0, 0))) (v0 v1 v2 v3 v4 v5 : Value) : ((((((W.setCell ⟨b, 0, none⟩ v0).setCell ⟨b, 1, none⟩ v1).setCell ⟨b, 2, none⟩ v2).setCell ⟨b, 3, none⟩ v3).setCell ⟨b, 4, none⟩ v4).setCell ⟨b, 5, none⟩ v5).heap[b]? = some (.cells #[v0, v1, v2, v3, v4, v5, c6, c7, c8, c9, c10] t (0, 0)) := by
  have := Joins.block_setCell (i := 5) (set11V5 h v0 v1 v2 v3 v4) v5
  simpa using this
theorem set11V7 (h : W.heap[b]? = some (.cells #[c0, c1, c2, c3, c4, c5, c6, c7, c8, c9, c10] t (0, 0))) (v0 v1 v2 v3 v4 v5 v6 : Value) : (((((((W.setCell ⟨b, 0, none⟩ v0).setCell ⟨b, 1, none⟩ v1).setCell ⟨b, 2, none⟩ v2).setCell ⟨b, 3, none⟩ v3).setCell ⟨b, 4, none⟩ v4).setCell ⟨b, 5, none⟩ v5).setCell ⟨b, 6, none⟩ v6).heap[b]? = some (.cells #[v0, v1, v2, v3, v4, v5, v6, c7, c8, c9, c10] t (0, 0)) := by
  have := Joins.block_setCell (i := 6) (set11V6 h v0 v1 v2 v3 v4 v5) v6
  simpa using this
theorem set11V8 (h : W.heap[b]? = some (.cells #[c0, c1, c2, c3, c4, c5, c6, c7, c8, c9, c10] t (0, 0))) (v0 v1 v2 v3 v4 v5 v6 v7 : Value) : ((((((((W.setCell ⟨b, 0, none⟩ v0).setCell ⟨b, 1, none⟩ v1).setCell ⟨b, 2, none⟩ v2).setCell ⟨b, 3, none⟩ v3).setCell ⟨b, 4, none⟩ v4).setCell ⟨b, 5, none⟩ v5).setCell ⟨b, 6, none⟩ v6).setCell ⟨b, 7, none⟩ v7).heap[b]? = some (.cells #[v0, v1, v2, v3, v4, v5, v6, v7, c8, c9, c10] t (0, 0)) := by
  have := Joins.block_setCell (i := 7) (set11V7 h v0 v1 v2 v3 v4 v5 v6) v7
  simpa using this
theorem set11V9 (h : W.heap[b]? = some (.cells #[c0, c1, c2, c3, c4, c5, c6, c7, c8, c9, c10] t (0, 0))) (v0 v1 v2 v3 v4 v5 v6 v7 v8 : Value) : (((((((((W.setCell ⟨b, 0, none⟩ v0).setCell ⟨b, 1, none⟩ v1).setCell ⟨b, 2, none⟩ v2).setCell ⟨b, 3, none⟩ v3).setCell ⟨b, 4, none⟩ v4).setCell ⟨b, 5, none⟩ v5).setCell ⟨b, 6, none⟩ v6).setCell ⟨b, 7, none⟩ v7).setCell ⟨b, 8, none⟩ v8).heap[b]? = some (.cells #[v0, v1, v2, v3, v4, v5, v6, v7, v8, c9, c10] t (0, 0)) := by
  have := Joins.block_setCell (i := 8) (set11V8 h v0 v1 v2 v3 v4 v5 v6 v7) v8
  simpa using this
theorem set11V10 (h : W.heap[b]? = some (.cells #[c0, c1, c2, c3, c4, c5, c6, c7, c8, c9, c10] t (0, 0))) (v0 v1 v2 v3 v4 v5 v6 v7 v8 v9 : Value) : ((((((((((W.setCell ⟨b, 0, none⟩ v0).setCell ⟨b, 1, none⟩ v1).setCell ⟨b, 2, none⟩ v2).setCell ⟨b, 3, none⟩ v3).setCell ⟨b, 4, none⟩ v4).setCell ⟨b, 5, none⟩ v5).setCell ⟨b, 6, none⟩ v6).setCell ⟨b, 7, none⟩ v7).setCell ⟨b, 8, none⟩ v8).setCell ⟨b, 9, none⟩ v9).heap[b]? = some (.cells #[v0, v1, v2, v3, v4, v5, v6, v7, v8, v9, c10] t (0, 0)) := by
  have := Joins.block_setCell (i := 9) (set11V9 h v0 v1 v2 v3 v4 v5 v6 v7 v8) v9
  simpa using this
theorem set11V11 (h : W.heap[b]? = some (.cells #[c0, c1, c2, c3, c4, c5, c6, c7, c8, c9, c10] t (0, 0))) (v0 v1 v2 v3 v4 v5 v6 v7 v8 v9 v10 : Value) : (((((((((((W.setCell ⟨b, 0, none⟩ v0).setCell ⟨b, 1, none⟩ v1).setCell ⟨b, 2, none⟩ v2).setCell ⟨b, 3, none⟩ v3).setCell ⟨b, 4, none⟩ v4).setCell ⟨b, 5, none⟩ v5).setCell ⟨b, 6, none⟩ v6).setCell ⟨b, 7, none⟩ v7).setCell ⟨b, 8, none⟩ v8).setCell ⟨b, 9, none⟩ v9).setCell ⟨b, 10, none⟩ v10).heap[b]? = some (.cells #[v0, v1, v2, v3, v4, v5, v6, v7, v8, v9, v10] t (0, 0)) := by
  have := Joins.block_setCell (i := 10) (set11V10 h v0 v1 v2 v3 v4 v5 v6 v7 v8 v9) v10
  simpa using this
theorem below_set11V (h : Below B w W) (hb : B ≤ b) (v0 v1 v2 v3 v4 v5 v6 v7 v8 v9 v10 : Value) : Below B w (((((((((((W.setCell ⟨b, 0, none⟩ v0).setCell ⟨b, 1, none⟩ v1).setCell ⟨b, 2, none⟩ v2).setCell ⟨b, 3, none⟩ v3).setCell ⟨b, 4, none⟩ v4).setCell ⟨b, 5, none⟩ v5).setCell ⟨b, 6, none⟩ v6).setCell ⟨b, 7, none⟩ v7).setCell ⟨b, 8, none⟩ v8).setCell ⟨b, 9, none⟩ v9).setCell ⟨b, 10, none⟩ v10) :=
  (((((((((((h.setCell (p := ⟨b, 0, none⟩) hb _).setCell (p := ⟨b, 1, none⟩) hb _).setCell (p := ⟨b, 2, none⟩) hb _).setCell (p := ⟨b, 3, none⟩) hb _).setCell (p := ⟨b, 4, none⟩) hb _).setCell (p := ⟨b, 5, none⟩) hb _).setCell (p := ⟨b, 6, none⟩) hb _).setCell (p := ⟨b, 7, none⟩) hb _).setCell (p := ⟨b, 8, none⟩) hb _).setCell (p := ⟨b, 9, none⟩) hb _).setCell (p := ⟨b, 10, none⟩) hb _)
theorem row_set11V {base n size : Nat} {e : TypeId} {u : Value} {xs : List Value} (h : W.ownsRow base e size u n xs) (hb : b < base) (v0 v1 v2 v3 v4 v5 v6 v7 v8 v9 v10 : Value) : (((((((((((W.setCell ⟨b, 0, none⟩ v0).setCell ⟨b, 1, none⟩ v1).setCell ⟨b, 2, none⟩ v2).setCell ⟨b, 3, none⟩ v3).setCell ⟨b, 4, none⟩ v4).setCell ⟨b, 5, none⟩ v5).setCell ⟨b, 6, none⟩ v6).setCell ⟨b, 7, none⟩ v7).setCell ⟨b, 8, none⟩ v8).setCell ⟨b, 9, none⟩ v9).setCell ⟨b, 10, none⟩ v10).ownsRow base e size u n xs :=
  (ownsRow_setCell_below (ownsRow_setCell_below (ownsRow_setCell_below (ownsRow_setCell_below (ownsRow_setCell_below (ownsRow_setCell_below (ownsRow_setCell_below (ownsRow_setCell_below (ownsRow_setCell_below (ownsRow_setCell_below (ownsRow_setCell_below h (a := ⟨b, 0, none⟩) hb _) (a := ⟨b, 1, none⟩) hb _) (a := ⟨b, 2, none⟩) hb _) (a := ⟨b, 3, none⟩) hb _) (a := ⟨b, 4, none⟩) hb _) (a := ⟨b, 5, none⟩) hb _) (a := ⟨b, 6, none⟩) hb _) (a := ⟨b, 7, none⟩) hb _) (a := ⟨b, 8, none⟩) hb _) (a := ⟨b, 9, none⟩) hb _) (a := ⟨b, 10, none⟩) hb _)
end
theorem nilEq_NodeS (w : World) : Calls Try.prog 37 #[.slice none 0 0, .slice none 0 0] w fun e w' => e = .returned (.bool true) ∧ w' = w := by
  go_enter Try.func37, Try.ntmps37
  go_wp2
  refine wp_loop_rounds 1 ?_
  rw [rounds_succ]
  go_wp2
  go_ret
  exact ⟨rfl, rfl⟩
theorem nilMark_NodeS (k : Int) (w : World) : Calls Try.prog 43 #[.slice none 0 0, .int .i64 k] w fun e w' => e = .returned (.int .i64 k) ∧ w' = w := by
  go_enter Try.func43, Try.ntmps43
  go_wp2
  refine wp_loop_rounds 1 ?_
  rw [rounds_succ]
  go_wp2
  go_ret
  exact ⟨rfl, rfl⟩
theorem nilHeld_NodeS (k : Int) (w : World) : Calls Try.prog 48 #[.slice none 0 0, .int .i64 k] w fun e w' => e = .returned (.int .i64 k) ∧ w' = w := by
  go_enter Try.func48, Try.ntmps48
  go_wp2
  refine wp_loop_rounds 1 ?_
  rw [rounds_succ]
  go_wp2
  go_ret
  exact ⟨rfl, rfl⟩
theorem nilEq_Int64S (w : World) : Calls Try.prog 38 #[.slice none 0 0, .slice none 0 0] w fun e w' => e = .returned (.bool true) ∧ w' = w := by
  go_enter Try.func38, Try.ntmps38
  go_wp2
  refine wp_loop_rounds 1 ?_
  rw [rounds_succ]
  go_wp2
  go_ret
  exact ⟨rfl, rfl⟩
theorem nilMark_Int64S (k : Int) (w : World) : Calls Try.prog 44 #[.slice none 0 0, .int .i64 k] w fun e w' => e = .returned (.int .i64 k) ∧ w' = w := by
  go_enter Try.func44, Try.ntmps44
  go_wp2
  refine wp_loop_rounds 1 ?_
  rw [rounds_succ]
  go_wp2
  go_ret
  exact ⟨rfl, rfl⟩
theorem nilHeld_Int64S (k : Int) (w : World) : Calls Try.prog 49 #[.slice none 0 0, .int .i64 k] w fun e w' => e = .returned (.int .i64 k) ∧ w' = w := by
  go_enter Try.func49, Try.ntmps49
  go_wp2
  refine wp_loop_rounds 1 ?_
  rw [rounds_succ]
  go_wp2
  go_ret
  exact ⟨rfl, rfl⟩
theorem nilEq_CoinS (w : World) : Calls Try.prog 60 #[.slice none 0 0, .slice none 0 0] w fun e w' => e = .returned (.bool true) ∧ w' = w := by
  go_enter Try.func60, Try.ntmps60
  go_wp2
  refine wp_loop_rounds 1 ?_
  rw [rounds_succ]
  go_wp2
  go_ret
  exact ⟨rfl, rfl⟩
theorem nilMark_CoinS (k : Int) (w : World) : Calls Try.prog 63 #[.slice none 0 0, .int .i64 k] w fun e w' => e = .returned (.int .i64 k) ∧ w' = w := by
  go_enter Try.func63, Try.ntmps63
  go_wp2
  refine wp_loop_rounds 1 ?_
  rw [rounds_succ]
  go_wp2
  go_ret
  exact ⟨rfl, rfl⟩
theorem nilHeld_CoinS (k : Int) (w : World) : Calls Try.prog 68 #[.slice none 0 0, .int .i64 k] w fun e w' => e = .returned (.int .i64 k) ∧ w' = w := by
  go_enter Try.func68, Try.ntmps68
  go_wp2
  refine wp_loop_rounds 1 ?_
  rw [rounds_succ]
  go_wp2
  go_ret
  exact ⟨rfl, rfl⟩
theorem nilEq_MemberS (w : World) : Calls Try.prog 61 #[.slice none 0 0, .slice none 0 0] w fun e w' => e = .returned (.bool true) ∧ w' = w := by
  go_enter Try.func61, Try.ntmps61
  go_wp2
  refine wp_loop_rounds 1 ?_
  rw [rounds_succ]
  go_wp2
  go_ret
  exact ⟨rfl, rfl⟩
theorem nilMark_MemberS (k : Int) (w : World) : Calls Try.prog 64 #[.slice none 0 0, .int .i64 k] w fun e w' => e = .returned (.int .i64 k) ∧ w' = w := by
  go_enter Try.func64, Try.ntmps64
  go_wp2
  refine wp_loop_rounds 1 ?_
  rw [rounds_succ]
  go_wp2
  go_ret
  exact ⟨rfl, rfl⟩
theorem nilHeld_MemberS (k : Int) (w : World) : Calls Try.prog 69 #[.slice none 0 0, .int .i64 k] w fun e w' => e = .returned (.int .i64 k) ∧ w' = w := by
  go_enter Try.func69, Try.ntmps69
  go_wp2
  refine wp_loop_rounds 1 ?_
  rw [rounds_succ]
  go_wp2
  go_ret
  exact ⟨rfl, rfl⟩
theorem nilEq_UndoS (w : World) : Calls Try.prog 40 #[.slice none 0 0, .slice none 0 0] w fun e w' => e = .returned (.bool true) ∧ w' = w := by
  go_enter Try.func40, Try.ntmps40
  go_wp2
  refine wp_loop_rounds 1 ?_
  rw [rounds_succ]
  go_wp2
  go_ret
  exact ⟨rfl, rfl⟩
theorem nilMark_UndoS (k : Int) (w : World) : Calls Try.prog 46 #[.slice none 0 0, .int .i64 k] w fun e w' => e = .returned (.int .i64 k) ∧ w' = w := by
  go_enter Try.func46, Try.ntmps46
  go_wp2
  refine wp_loop_rounds 1 ?_
  rw [rounds_succ]
  go_wp2
  go_ret
  exact ⟨rfl, rfl⟩
theorem nilHeld_UndoS (k : Int) (w : World) : Calls Try.prog 51 #[.slice none 0 0, .int .i64 k] w fun e w' => e = .returned (.int .i64 k) ∧ w' = w := by
  go_enter Try.func51, Try.ntmps51
  go_wp2
  refine wp_loop_rounds 1 ?_
  rw [rounds_succ]
  go_wp2
  go_ret
  exact ⟨rfl, rfl⟩

theorem eqStN_any (w : World) : Calls Try.prog 39 #[.agg #[.int .i64 0, .int .i64 0, .slice none 0 0, .slice none 0 0], .agg #[.int .i64 0, .int .i64 0, .slice none 0 0, .slice none 0 0]] w fun e w' => e = .returned (.bool true) ∧ Below w.heap.size w w' := by
  have hbx : Hid (Below w.heap.size w ((w.alloc (.cells #[.int .i64 0, .int .i64 0, .slice none 0 0, .slice none 0 0] 35)).alloc (.cells #[.int .i64 0, .int .i64 0, .slice none 0 0, .slice none 0 0] 35))) := below_box2 _ _
  go_enter Try.func39, Try.ntmps39
  go_wp2_with (first | (go_at_call 60; refine (nilEq_CoinS _).mono ?_; rintro e wz ⟨rfl, hw⟩; have hw2 := hw.symm; subst hw2) | (go_at_call 61; refine (nilEq_MemberS _).mono ?_; rintro e wz ⟨rfl, hw⟩; have hw2 := hw.symm; subst hw2))
  go_ret
  exact ⟨rfl, hbx.out⟩
theorem markStN_any (K : Int) (w : World) : Calls Try.prog 45 #[.agg #[.int .i64 0, .int .i64 0, .slice none 0 0, .slice none 0 0], .int .i64 K] w fun e w' => e = .returned (.int .i64 K) ∧ Below w.heap.size w w' := by
  have hbx : Hid (Below w.heap.size w (w.alloc (.cells #[.int .i64 0, .int .i64 0, .slice none 0 0, .slice none 0 0] 35))) := below_box _
  go_enter Try.func45, Try.ntmps45
  go_wp2_with (first | (go_at_call 63; refine (nilMark_CoinS _ _).mono ?_; rintro e wz ⟨rfl, hw⟩; have hw2 := hw.symm; subst hw2) | (go_at_call 64; refine (nilMark_MemberS _ _).mono ?_; rintro e wz ⟨rfl, hw⟩; have hw2 := hw.symm; subst hw2))
  go_ret
  exact ⟨rfl, hbx.out⟩
theorem heldStN_any (K : Int) (w : World) (hK : ¬ K < 0) : Calls Try.prog 50 #[.agg #[.int .i64 0, .int .i64 0, .slice none 0 0, .slice none 0 0], .int .i64 K] w fun e w' => e = .returned (.int .i64 K) ∧ Below w.heap.size w w' := by
  have hbx : Hid (Below w.heap.size w (w.alloc (.cells #[.int .i64 0, .int .i64 0, .slice none 0 0, .slice none 0 0] 35))) := below_box _
  go_enter Try.func50, Try.ntmps50
  go_wp2_with (first | (go_at_call 68; refine (nilHeld_CoinS _ _).mono ?_; rintro e wz ⟨rfl, hw⟩; have hw2 := hw.symm; subst hw2) | (go_at_call 69; refine (nilHeld_MemberS _ _).mono ?_; rintro e wz ⟨rfl, hw⟩; have hw2 := hw.symm; subst hw2))
  go_ret
  exact ⟨rfl, hbx.out⟩

set_option maxHeartbeats 1000000 in
theorem eqCha_any (a0 g0 a1 g1 : Option Addr) (n m c0 c1 d0 d1 : Nat) (ss : List ByteArray) (gs : List (Int × Int)) (w : World) (hl : n ≤ 1048576) (hm : m ≤ 1048576) (h0 : LedAt w a0 n g0 m ss gs) (h1 : LedAt w a1 n g1 m ss gs) :
    Calls Try.prog 22 #[.agg #[.slice a0 n c0, .slice g0 m d0, .slice none 0 0, .slice none 0 0, .int .i64 0, .int .i64 0, .slice none 0 0, .slice none 0 0, .slice none 0 0], .agg #[.slice a1 n c1, .slice g1 m d1, .slice none 0 0, .slice none 0 0, .int .i64 0, .int .i64 0, .slice none 0 0, .slice none 0 0, .slice none 0 0]] w fun e w' => e = .returned (.bool true) ∧ Below w.heap.size w w' := by
  have hbx : Below w.heap.size w ((w.alloc (.cells #[.slice a0 n c0, .slice g0 m d0, .slice none 0 0, .slice none 0 0, .int .i64 0, .int .i64 0, .slice none 0 0, .slice none 0 0, .slice none 0 0] 38)).alloc (.cells #[.slice a1 n c1, .slice g1 m d1, .slice none 0 0, .slice none 0 0, .int .i64 0, .int .i64 0, .slice none 0 0, .slice none 0 0, .slice none 0 0] 38)) := below_box2 _ _
  have hE := eqL_any a0 g0 a1 g1 n m c0 c1 d0 d1 ss gs _ hl hm (h0.below hbx (Nat.le_refl _)) (h1.below hbx (Nat.le_refl _))
  have HBX : Hid (Below w.heap.size w ((w.alloc (.cells #[.slice a0 n c0, .slice g0 m d0, .slice none 0 0, .slice none 0 0, .int .i64 0, .int .i64 0, .slice none 0 0, .slice none 0 0, .slice none 0 0] 38)).alloc (.cells #[.slice a1 n c1, .slice g1 m d1, .slice none 0 0, .slice none 0 0, .int .i64 0, .int .i64 0, .slice none 0 0, .slice none 0 0, .slice none 0 0] 38))) := hbx
  have HX0 : Hid (((w.alloc (.cells #[.slice a0 n c0, .slice g0 m d0, .slice none 0 0, .slice none 0 0, .int .i64 0, .int .i64 0, .slice none 0 0, .slice none 0 0, .slice none 0 0] 38)).alloc (.cells #[.slice a1 n c1, .slice g1 m d1, .slice none 0 0, .slice none 0 0, .int .i64 0, .int .i64 0, .slice none 0 0, .slice none 0 0, .slice none 0 0] 38)).heap[w.heap.size]? = some (.cells #[.slice a0 n c0, .slice g0 m d0, .slice none 0 0, .slice none 0 0, .int .i64 0, .int .i64 0, .slice none 0 0, .slice none 0 0, .slice none 0 0] 38 (0, 0))) := block_at2
  have HX1 : Hid (((w.alloc (.cells #[.slice a0 n c0, .slice g0 m d0, .slice none 0 0, .slice none 0 0, .int .i64 0, .int .i64 0, .slice none 0 0, .slice none 0 0, .slice none 0 0] 38)).alloc (.cells #[.slice a1 n c1, .slice g1 m d1, .slice none 0 0, .slice none 0 0, .int .i64 0, .int .i64 0, .slice none 0 0, .slice none 0 0, .slice none 0 0] 38)).heap[w.heap.size + 1]? = some (.cells #[.slice a1 n c1, .slice g1 m d1, .slice none 0 0, .slice none 0 0, .int .i64 0, .int .i64 0, .slice none 0 0, .slice none 0 0, .slice none 0 0] 38 (0, 0))) := heap_at _ _ _ (by simp)
  clear hbx h0 h1
  go_enter Try.func22, Try.ntmps22
  go_wp2_with (first
    | (go_at_call 9; (with_reducible refine hE.mono ?_); clear hE; rintro e w2 ⟨rfl, hb2⟩; have HK0 := keepb HX0.out hb2; have HK1 := keepb HX1.out hb2; obtain ⟨x0, x1, x2, x3, x4, x5, x6, x7, x8⟩ := cells9V HK0.out; obtain ⟨y0, y1, y2, y3, y4, y5, y6, y7, y8⟩ := cells9V HK1.out; have hl0 := lt_of_block HK0.out; have hl1 := lt_of_block HK1.out; have HBW : Hid (Below w.heap.size w w2) := HBX.out.trans (hb2.mono HBX.out.size); clear hb2)
    | (go_at_call 37; refine (nilEq_NodeS _).mono ?_; rintro e wz ⟨rfl, hw⟩; have hw2 := hw.symm; subst hw2) | (go_at_call 38; refine (nilEq_Int64S _).mono ?_; rintro e wz ⟨rfl, hw⟩; have hw2 := hw.symm; subst hw2) | (go_at_call 40; refine (nilEq_UndoS _).mono ?_; rintro e wz ⟨rfl, hw⟩; have hw2 := hw.symm; subst hw2)
    | (go_at_call 39; refine (eqStN_any _).mono ?_; rintro e w5 ⟨rfl, hb5⟩; have z0 := (hb5.cell (p := ⟨w.heap.size, 8, none⟩) hl0).trans x8; have z1 := (hb5.cell (p := ⟨w.heap.size + 1, 8, none⟩) hl1).trans y8; have HW5 : Hid (Below w.heap.size w w5) := HBW.out.trans (hb5.mono HBW.out.size); clear hb5))
  go_ret
  exact ⟨rfl, HW5.out⟩

set_option maxHeartbeats 1000000 in
theorem markCha_any (a0 a1 : Option Addr) (n m c0 c1 lo hi k : Nat) (xs ys : List Value) (w : World) (hk : 0 < k) (hkn : k + n + 2 * m ≤ 4000000) (hhi : hi ≤ w.heap.size) (h : Own2 w lo hi a0 n c0 a1 m c1 xs ys) :
    Calls Try.prog 27 #[.agg #[.slice a0 n c0, .slice a1 m c1, .slice none 0 0, .slice none 0 0, .int .i64 0, .int .i64 0, .slice none 0 0, .slice none 0 0, .slice none 0 0], .int .i64 k] w fun e w' => e = .returned (.int .i64 (k + n + 2 * m : Nat)) ∧ Own2 w' lo hi a0 n c0 a1 m c1 (mkL k n) (mkG (k + n) m) ∧ Chg w w' lo hi := by
  have hL := markL_any a0 a1 n m c0 c1 lo hi k xs ys (w.alloc (.cells #[.slice a0 n c0, .slice a1 m c1, .slice none 0 0, .slice none 0 0, .int .i64 0, .int .i64 0, .slice none 0 0, .slice none 0 0, .slice none 0 0] 38)) hk hkn (by simp; omega) (h.below (below_box _))
  have HX : Hid ((w.alloc (.cells #[.slice a0 n c0, .slice a1 m c1, .slice none 0 0, .slice none 0 0, .int .i64 0, .int .i64 0, .slice none 0 0, .slice none 0 0, .slice none 0 0] 38)).heap[w.heap.size]? = some (.cells #[.slice a0 n c0, .slice a1 m c1, .slice none 0 0, .slice none 0 0, .int .i64 0, .int .i64 0, .slice none 0 0, .slice none 0 0, .slice none 0 0] 38 (0, 0))) := heap_alloc_new _ _
  have HHI : Hid (hi ≤ w.heap.size) := hhi
  obtain ⟨K, hK⟩ : ∃ K : Int, K = (k + n + 2 * m : Nat) := ⟨_, rfl⟩
  rw [← hK] at hL ⊢
  clear h hK hhi
  go_enter Try.func27, Try.ntmps27
  go_wp2_with (first
    | (go_at_call 10; (with_reducible refine hL.mono ?_); clear hL; rintro e w2 ⟨rfl, ho2, hc2⟩; have HK0 : Hid (w2.heap[w.heap.size]? = some (.cells #[.slice a0 n c0, .slice a1 m c1, .slice none 0 0, .slice none 0 0, .int .i64 0, .int .i64 0, .slice none 0 0, .slice none 0 0, .slice none 0 0] 38 (0, 0))) := hc2.keep HX.out (.inr HHI.out); obtain ⟨x0, x1, x2, x3, x4, x5, x6, x7, x8⟩ := cells9V HK0.out; have hl0 := lt_of_block HK0.out; have HO : Hid (Own2 w2 lo hi a0 n c0 a1 m c1 (mkL k n) (mkG (k + n) m) ∧ Chg w w2 lo hi) := ⟨ho2, (Chg.of_below (below_box _) lo hi).trans hc2⟩; clear ho2 hc2)
    | (go_at_call 43; refine (nilMark_NodeS _ _).mono ?_; rintro e wz ⟨rfl, hw⟩; have hw2 := hw.symm; subst hw2) | (go_at_call 44; refine (nilMark_Int64S _ _).mono ?_; rintro e wz ⟨rfl, hw⟩; have hw2 := hw.symm; subst hw2) | (go_at_call 46; refine (nilMark_UndoS _ _).mono ?_; rintro e wz ⟨rfl, hw⟩; have hw2 := hw.symm; subst hw2)
    | (go_at_call 45; refine (markStN_any _ _).mono ?_; rintro e w5 ⟨rfl, hb5⟩; have z0 := (hb5.cell (p := ⟨w.heap.size, 8, none⟩) hl0).trans x8; have HO5 : Hid (Own2 w5 lo hi a0 n c0 a1 m c1 (mkL k n) (mkG (k + n) m) ∧ Chg w w5 lo hi) := ⟨HO.out.1.below hb5, HO.out.2.trans (Chg.of_below hb5 lo hi)⟩; clear hb5))
  go_ret
  exact ⟨rfl, HO5.out.1, HO5.out.2⟩

set_option maxHeartbeats 1000000 in
theorem heldCha_any (a0 a1 : Option Addr) (n m c0 c1 lo hi k : Nat) (w : World) (hk : 0 < k) (hkn : k + n + 2 * m ≤ 4000000) (h : Own2 w lo hi a0 n c0 a1 m c1 (mkL k n) (mkG (k + n) m)) :
    Calls Try.prog 28 #[.agg #[.slice a0 n c0, .slice a1 m c1, .slice none 0 0, .slice none 0 0, .int .i64 0, .int .i64 0, .slice none 0 0, .slice none 0 0, .slice none 0 0], .int .i64 k] w fun e w' => e = .returned (.int .i64 (k + n + 2 * m : Nat)) ∧ Below w.heap.size w w' := by
  have hL := heldL_any a0 a1 n m c0 c1 lo hi k (w.alloc (.cells #[.slice a0 n c0, .slice a1 m c1, .slice none 0 0, .slice none 0 0, .int .i64 0, .int .i64 0, .slice none 0 0, .slice none 0 0, .slice none 0 0] 38)) hk hkn (h.below (below_box _))
  have HX : Hid ((w.alloc (.cells #[.slice a0 n c0, .slice a1 m c1, .slice none 0 0, .slice none 0 0, .int .i64 0, .int .i64 0, .slice none 0 0, .slice none 0 0, .slice none 0 0] 38)).heap[w.heap.size]? = some (.cells #[.slice a0 n c0, .slice a1 m c1, .slice none 0 0, .slice none 0 0, .int .i64 0, .int .i64 0, .slice none 0 0, .slice none 0 0, .slice none 0 0] 38 (0, 0))) := heap_alloc_new _ _
  have HBX : Hid (Below w.heap.size w (w.alloc (.cells #[.slice a0 n c0, .slice a1 m c1, .slice none 0 0, .slice none 0 0, .int .i64 0, .int .i64 0, .slice none 0 0, .slice none 0 0, .slice none 0 0] 38))) := below_box _
  obtain ⟨K, hK⟩ : ∃ K : Int, K = (k + n + 2 * m : Nat) := ⟨_, rfl⟩
  have hK0 : ¬ K < 0 := by omega
  rw [← hK] at hL ⊢
  clear h hK
  go_enter Try.func28, Try.ntmps28
  go_wp2_with (first
    | (go_at_call 47; (with_reducible refine hL.mono ?_); clear hL; rintro e w2 ⟨rfl, hb2⟩; have HK0 := keepb HX.out hb2; obtain ⟨x0, x1, x2, x3, x4, x5, x6, x7, x8⟩ := cells9V HK0.out; have hl0 := lt_of_block HK0.out; have HBW : Hid (Below w.heap.size w w2) := HBX.out.trans (hb2.mono HBX.out.size); clear hb2)
    | (go_at_call 48; refine (nilHeld_NodeS _ _).mono ?_; rintro e wz ⟨rfl, hw⟩; have hw2 := hw.symm; subst hw2) | (go_at_call 49; refine (nilHeld_Int64S _ _).mono ?_; rintro e wz ⟨rfl, hw⟩; have hw2 := hw.symm; subst hw2) | (go_at_call 51; refine (nilHeld_UndoS _ _).mono ?_; rintro e wz ⟨rfl, hw⟩; have hw2 := hw.symm; subst hw2)
    | (go_at_call 50; refine (heldStN_any _ _ (by omega)).mono ?_; rintro e w5 ⟨rfl, hb5⟩; have z0 := (hb5.cell (p := ⟨w.heap.size, 8, none⟩) hl0).trans x8; have HW5 : Hid (Below w.heap.size w w5) := HBW.out.trans (hb5.mono HBW.out.size); clear hb5))
  go_ret
  exact ⟨rfl, HW5.out⟩

set_option maxHeartbeats 400000 in
theorem markChR_any (a0 a1 : Option Addr) (n m c0 c1 lo hi k : Nat) (xs ys : List Value) (p q : Int) (w : World) (hk : 0 < k) (hkn : k + n + 2 * m ≤ 4000000) (hhi : hi ≤ w.heap.size) (h : Own2 w lo hi a0 n c0 a1 m c1 xs ys) :
    Calls Try.prog 11 #[.agg #[.int .i64 p, .int .i64 q, .slice a0 n c0, .slice a1 m c1, .slice none 0 0, .slice none 0 0, .int .i64 0, .int .i64 0, .slice none 0 0, .slice none 0 0, .slice none 0 0], .int .i64 k] w fun e w' => e = .returned (.int .i64 (k + n + 2 * m : Nat)) ∧ Own2 w' lo hi a0 n c0 a1 m c1 (mkL k n) (mkG (k + n) m) ∧ Chg w w' lo hi := by
  have hL := markCha_any a0 a1 n m c0 c1 lo hi k xs ys (w.alloc (.cells #[.int .i64 p, .int .i64 q, .slice a0 n c0, .slice a1 m c1, .slice none 0 0, .slice none 0 0, .int .i64 0, .int .i64 0, .slice none 0 0, .slice none 0 0, .slice none 0 0] 40)) hk hkn (by simp; omega) (h.below (below_box _))
  clear h
  go_enter Try.func11, Try.ntmps11
  go_wp2_with (first | (go_at_call 27; refine hL.mono ?_; rintro e w2 ⟨rfl, ho2, hc2⟩))
  go_ret
  exact ⟨rfl, ho2, (Chg.of_below (below_box _) lo hi).trans hc2⟩

set_option maxHeartbeats 400000 in
theorem heldChR_any (a0 a1 : Option Addr) (n m c0 c1 lo hi k : Nat) (p q : Int) (w : World) (hk : 0 < k) (hkn : k + n + 2 * m ≤ 4000000) (h : Own2 w lo hi a0 n c0 a1 m c1 (mkL k n) (mkG (k + n) m)) :
    Calls Try.prog 12 #[.agg #[.int .i64 p, .int .i64 q, .slice a0 n c0, .slice a1 m c1, .slice none 0 0, .slice none 0 0, .int .i64 0, .int .i64 0, .slice none 0 0, .slice none 0 0, .slice none 0 0], .int .i64 k] w fun e w' => e = .returned (.int .i64 (k + n + 2 * m : Nat)) ∧ Below w.heap.size w w' := by
  have hL := heldCha_any a0 a1 n m c0 c1 lo hi k (w.alloc (.cells #[.int .i64 p, .int .i64 q, .slice a0 n c0, .slice a1 m c1, .slice none 0 0, .slice none 0 0, .int .i64 0, .int .i64 0, .slice none 0 0, .slice none 0 0, .slice none 0 0] 40)) hk hkn (h.below (below_box _))
  clear h
  go_enter Try.func12, Try.ntmps12
  go_wp2_with (first | (go_at_call 28; refine hL.mono ?_; rintro e w2 ⟨rfl, hb2⟩))
  go_ret
  exact ⟨ret_int (by omega), (below_box _).trans (hb2.mono (by simp))⟩

set_option maxHeartbeats 400000 in
theorem eqChR_any (a0 g0 a1 g1 : Option Addr) (n m c0 c1 d0 d1 : Nat) (p q : Int) (ss : List ByteArray) (gs : List (Int × Int)) (w : World) (hl : n ≤ 1048576) (hm : m ≤ 1048576) (h0 : LedAt w a0 n g0 m ss gs) (h1 : LedAt w a1 n g1 m ss gs) :
    Calls Try.prog 8 #[.agg #[.int .i64 p, .int .i64 q, .slice a0 n c0, .slice g0 m d0, .slice none 0 0, .slice none 0 0, .int .i64 0, .int .i64 0, .slice none 0 0, .slice none 0 0, .slice none 0 0], .agg #[.int .i64 p, .int .i64 q, .slice a1 n c1, .slice g1 m d1, .slice none 0 0, .slice none 0 0, .int .i64 0, .int .i64 0, .slice none 0 0, .slice none 0 0, .slice none 0 0]] w fun e w' => e = .returned (.bool true) ∧ Below w.heap.size w w' := by
  have hbx : Below w.heap.size w ((w.alloc (.cells #[.int .i64 p, .int .i64 q, .slice a0 n c0, .slice g0 m d0, .slice none 0 0, .slice none 0 0, .int .i64 0, .int .i64 0, .slice none 0 0, .slice none 0 0, .slice none 0 0] 40)).alloc (.cells #[.int .i64 p, .int .i64 q, .slice a1 n c1, .slice g1 m d1, .slice none 0 0, .slice none 0 0, .int .i64 0, .int .i64 0, .slice none 0 0, .slice none 0 0, .slice none 0 0] 40)) := below_box2 _ _
  have hE := eqCha_any a0 g0 a1 g1 n m c0 c1 d0 d1 ss gs _ hl hm (h0.below hbx (Nat.le_refl _)) (h1.below hbx (Nat.le_refl _))
  have HBX : Hid (Below w.heap.size w ((w.alloc (.cells #[.int .i64 p, .int .i64 q, .slice a0 n c0, .slice g0 m d0, .slice none 0 0, .slice none 0 0, .int .i64 0, .int .i64 0, .slice none 0 0, .slice none 0 0, .slice none 0 0] 40)).alloc (.cells #[.int .i64 p, .int .i64 q, .slice a1 n c1, .slice g1 m d1, .slice none 0 0, .slice none 0 0, .int .i64 0, .int .i64 0, .slice none 0 0, .slice none 0 0, .slice none 0 0] 40))) := hbx
  clear hbx h0 h1
  go_enter Try.func8, Try.ntmps8
  go_wp2_with (first | (go_at_call 22; refine hE.mono ?_; rintro e w2 ⟨rfl, hb2⟩))
  go_ret
  exact ⟨rfl, HBX.out.trans (hb2.mono (by simp; omega))⟩

/-- A result of eleven cells behind a ledger that lies boxed, behind a call. -/
def BoxC (w w2 : World) (a0 a1 : Value) (t : TypeId) : Prop :=
  w2.heap[w.heap.size + 1]? = some (.cells #[.int .i64 0, .int .i64 0, .slice none 0 0, .slice none 0 0, .slice none 0 0, .slice none 0 0, .int .i64 0, .int .i64 0, .slice none 0 0, .slice none 0 0, .slice none 0 0] 40 (0, 0)) ∧ Below w.heap.size w w2 ∧ w2.heap[w.heap.size]? = some (.cells #[a0, a1] t (0, 0))

theorem BoxC.start {w w2 : World} {a0 a1 : Value} {t : TypeId} (hb : Below ((w.alloc (.cells #[a0, a1] t)).alloc (.cells #[.int .i64 0, .int .i64 0, .slice none 0 0, .slice none 0 0, .slice none 0 0, .slice none 0 0, .int .i64 0, .int .i64 0, .slice none 0 0, .slice none 0 0, .slice none 0 0] 40)).heap.size ((w.alloc (.cells #[a0, a1] t)).alloc (.cells #[.int .i64 0, .int .i64 0, .slice none 0 0, .slice none 0 0, .slice none 0 0, .slice none 0 0, .int .i64 0, .int .i64 0, .slice none 0 0, .slice none 0 0, .slice none 0 0] 40)) w2) : Hid (BoxC w w2 a0 a1 t) :=
  ⟨(hb.block _ (by simp)).trans (heap_at _ _ _ (by simp)), (below_box2 _ _).trans (hb.mono (by simp; omega)), (hb.block _ (by simp; omega)).trans block_at2⟩
theorem BoxC.step {w w2 w3 : World} {a0 a1 : Value} {t : TypeId} (h : BoxC w w2 a0 a1 t) (hb : Below w2.heap.size w2 w3) : Hid (BoxC w w3 a0 a1 t) :=
  ⟨(keepb h.1 hb).out, h.2.1.trans (hb.mono h.2.1.size), (keepb h.2.2 hb).out⟩
theorem BoxC.lt {w w2 : World} {a0 a1 : Value} {t : TypeId} (h : BoxC w w2 a0 a1 t) : w.heap.size + 1 < w2.heap.size := lt_of_block h.1

/-- The specification's fault where the ledger lies boxed, a result of eleven cells behind it. -/
theorem l1Fault_boxC (n m tc gc : Nat) (ta ga : Option Addr) (ss : List ByteArray) (gs : List (Int × Int)) (w : World)
    (htc : n ≤ tc) (hgc : m ≤ gc) (htm : tc ≤ maxLen) (hgm : gc ≤ maxLen) (hf : Fine ss gs) (h : LedAt w ta n ga m ss gs) :
    Calls Try.prog 15 #[.pointer (some ⟨w.heap.size, 0, none⟩)] ((w.alloc (.cells #[.slice ta n tc, .slice ga m gc] 29)).alloc (.cells #[.int .i64 0, .int .i64 0, .slice none 0 0, .slice none 0 0, .slice none 0 0, .slice none 0 0, .int .i64 0, .int .i64 0, .slice none 0 0, .slice none 0 0, .slice none 0 0] 40)) fun e w' => e = .returned (.int .i64 (flt ss gs)) ∧ Hid (BoxC w w' (.slice ta n tc) (.slice ga m gc) 29) := by
  have hb : Below w.heap.size w ((w.alloc (.cells #[.slice ta n tc, .slice ga m gc] 29)).alloc (.cells #[.int .i64 0, .int .i64 0, .slice none 0 0, .slice none 0 0, .slice none 0 0, .slice none 0 0, .int .i64 0, .int .i64 0, .slice none 0 0, .slice none 0 0, .slice none 0 0] 40)) := below_box2 _ _
  have hx := block_at2 (w := w) (o := .cells #[.slice ta n tc, .slice ga m gc] 29) (o' := .cells #[.int .i64 0, .int .i64 0, .slice none 0 0, .slice none 0 0, .slice none 0 0, .slice none 0 0, .int .i64 0, .int .i64 0, .slice none 0 0, .slice none 0 0, .slice none 0 0] 40)
  exact (l1Fault_any w.heap.size n m tc gc ta ga ss gs _ (lt_of_block hx) (by unfold World.cell?; rw [hx]; rfl) (by unfold World.cell?; rw [hx]; rfl) htc hgc htm hgm hf.s (h.s.below hb (Nat.le_refl _)) (h.g.below hb (Nat.le_refl _))).mono fun e w' hr => ⟨hr.1, BoxC.start hr.2⟩

/-- The program's reading of a ledger that lies boxed, a result of eleven cells behind it: where it has no fault. -/
theorem readC_ok {w : World} {n m tc gc : Nat} {ta ga : Option Addr} {ss : List ByteArray} {gs : List (Int × Int)} (hf : Fine ss gs) (h : LedAt w ta n ga m ss gs) (h0 : 0 = flt ss gs) :
    Calls Try.prog 20 #[.agg #[.slice ta n tc, .slice ga m gc]] ((w.alloc (.cells #[.slice ta n tc, .slice ga m gc] 29)).alloc (.cells #[.int .i64 0, .int .i64 0, .slice none 0 0, .slice none 0 0, .slice none 0 0, .slice none 0 0, .int .i64 0, .int .i64 0, .slice none 0 0, .slice none 0 0, .slice none 0 0] 40)) fun e w' => ∃ p q top, e = .returned (.tuple #[.agg #[.pointer (some ⟨p, 0, none⟩), .pointer (some ⟨q, 0, none⟩)], .int .i64 0]) ∧
      Hid (BoxC w w' (.slice ta n tc) (.slice ga m gc) 29) ∧ Hid (TwS w' (w.heap.size + 2) p ss ∧ TopS w' p top ∧ TwG w' top q gs ∧ w.heap.size + 2 ≤ top) := by
  have hb : Below w.heap.size w ((w.alloc (.cells #[.slice ta n tc, .slice ga m gc] 29)).alloc (.cells #[.int .i64 0, .int .i64 0, .slice none 0 0, .slice none 0 0, .slice none 0 0, .slice none 0 0, .int .i64 0, .int .i64 0, .slice none 0 0, .slice none 0 0, .slice none 0 0] 40)) := below_box2 _ _
  refine (readLedger_any n m tc gc ta ga ss gs _ hf.s hf.g (h.s.below hb (Nat.le_refl _)) (h.g.below hb (Nat.le_refl _))).mono fun e w' hr => ?_
  rcases hr with ⟨hbl, ⟨_, p, q, top, he, h1, h2, h3, h4⟩ | ⟨hn, _⟩⟩
  · have hs : ((w.alloc (.cells #[.slice ta n tc, .slice ga m gc] 29)).alloc (.cells #[.int .i64 0, .int .i64 0, .slice none 0 0, .slice none 0 0, .slice none 0 0, .slice none 0 0, .int .i64 0, .int .i64 0, .slice none 0 0, .slice none 0 0, .slice none 0 0] 40)).heap.size = w.heap.size + 2 := by simp
    rw [hs] at h1 h4
    exact ⟨p, q, top, he, BoxC.start hbl, h1, h2, h3, h4⟩
  · exact absurd h0.symm hn

theorem readC_bad {w : World} {n m tc gc : Nat} {ta ga : Option Addr} {ss : List ByteArray} {gs : List (Int × Int)} {c : Int} (hf : Fine ss gs) (h : LedAt w ta n ga m ss gs) (hc : c = flt ss gs) (h0 : ¬ c = 0) :
    Calls Try.prog 20 #[.agg #[.slice ta n tc, .slice ga m gc]] ((w.alloc (.cells #[.slice ta n tc, .slice ga m gc] 29)).alloc (.cells #[.int .i64 0, .int .i64 0, .slice none 0 0, .slice none 0 0, .slice none 0 0, .slice none 0 0, .int .i64 0, .int .i64 0, .slice none 0 0, .slice none 0 0, .slice none 0 0] 40)) fun e w' => e = .returned (.tuple #[.agg #[.pointer none, .pointer none], .int .i64 c]) ∧ Hid (BoxC w w' (.slice ta n tc) (.slice ga m gc) 29) := by
  have hb : Below w.heap.size w ((w.alloc (.cells #[.slice ta n tc, .slice ga m gc] 29)).alloc (.cells #[.int .i64 0, .int .i64 0, .slice none 0 0, .slice none 0 0, .slice none 0 0, .slice none 0 0, .int .i64 0, .int .i64 0, .slice none 0 0, .slice none 0 0, .slice none 0 0] 40)) := below_box2 _ _
  refine (readLedger_any n m tc gc ta ga ss gs _ hf.s hf.g (h.s.below hb (Nat.le_refl _)) (h.g.below hb (Nat.le_refl _))).mono fun e w' hr => ?_
  rcases hr with ⟨hbl, ⟨hn, _⟩ | ⟨_, he⟩⟩
  · exact absurd (hc.trans hn) h0
  · exact ⟨by rw [hc]; exact he, BoxC.start hbl⟩

set_option maxHeartbeats 1000000 in
theorem l15Bad_any (k : Int) (w : World) : Calls Try.prog 16 #[.int .i64 k] w fun e w' => e = .returned (.agg #[.int .i64 k, .int .i64 0, .slice none 0 0, .slice none 0 0, .slice none 0 0, .slice none 0 0, .int .i64 0, .int .i64 0, .slice none 0 0, .slice none 0 0, .slice none 0 0]) ∧ Below w.heap.size w w' := by
  go_enter Try.func16, Try.ntmps16
  go_wp2
  have HX : (w.alloc (.cells #[.int .i64 k, .int .i64 0, .slice none 0 0, .slice none 0 0, .slice none 0 0, .slice none 0 0, .int .i64 0, .int .i64 0, .slice none 0 0, .slice none 0 0, .slice none 0 0] 40)).heap[w.heap.size]? = some (.cells #[.int .i64 k, .int .i64 0, .slice none 0 0, .slice none 0 0, .slice none 0 0, .slice none 0 0, .int .i64 0, .int .i64 0, .slice none 0 0, .slice none 0 0, .slice none 0 0] 40 (0, 0)) := heap_alloc_new _ _
  obtain ⟨s0, s1, s2, s3, s4, s5, s6, s7, s8, s9, s10⟩ := cells11V HX
  refine bodyPost_ret (v := .agg #[.int .i64 k, .int .i64 0, .slice none 0 0, .slice none 0 0, .slice none 0 0, .slice none 0 0, .int .i64 0, .int .i64 0, .slice none 0 0, .slice none 0 0, .slice none 0 0]) (by simp [results, Try.results16, go_sem, s0, s1, s2, s3, s4, s5, s6, s7, s8, s9, s10]) rfl ?_
  exact ⟨rfl, below_box _⟩

/-- What NewChain answers. -/
def chnR (ss : List ByteArray) (gs : List (Int × Int)) : LRes := if flt ss gs ≠ 0 then ⟨flt ss gs, 0, [], []⟩ else ⟨0, 0, ss, gs⟩
theorem chn_ok {ss : List ByteArray} {gs : List (Int × Int)} (h : 0 = flt ss gs) : chnR ss gs = ⟨0, 0, ss, gs⟩ := by unfold chnR; rw [← h, if_neg (by simp)]
theorem chn_bad {ss : List ByteArray} {gs : List (Int × Int)} {c : Int} (h : c = flt ss gs) (h0 : c ≠ 0) : chnR ss gs = ⟨c, 0, [], []⟩ := by unfold chnR; rw [← h, if_pos h0]
theorem chn_len (ss : List ByteArray) (gs : List (Int × Int)) : (chnR ss gs).s.length ≤ 60 ∧ (chnR ss gs).g.length ≤ 120 := by
  unfold chnR
  by_cases h : flt ss gs ≠ 0
  · rw [if_pos h]; simp
  · rw [if_neg h]
    exact flt_le (ss := ss) (gs := gs) (by simpa using (Classical.not_not.1 h).symm)
/-- What a result with a chain of a ledger alone is: its two lists lie in new memory. -/
def OutCn (w w' : World) (e : Ending) (r : LRes) : Prop :=
  Below w.heap.size w w' ∧ ∃ a0 c0 a1 c1, e = .returned (.agg #[.int .i64 r.c, .int .i64 r.i, .slice a0 r.s.length c0, .slice a1 r.g.length c1, .slice none 0 0, .slice none 0 0, .int .i64 0, .int .i64 0, .slice none 0 0, .slice none 0 0, .slice none 0 0]) ∧
    w'.ownsRow w.heap.size 9 1 (.slice a0 r.s.length c0) r.s.length (r.s.map Value.string) ∧ w'.ownsRow w.heap.size 71 2 (.slice a1 r.g.length c1) r.g.length (gcells r.g)
theorem OutCn.empty {w w' : World} {c : Int} (h : Below w.heap.size w w') : OutCn w w' (.returned (.agg #[.int .i64 c, .int .i64 0, .slice none 0 0, .slice none 0 0, .slice none 0 0, .slice none 0 0, .int .i64 0, .int .i64 0, .slice none 0 0, .slice none 0 0, .slice none 0 0])) ⟨c, 0, [], []⟩ := ⟨h, none, 0, none, 0, rfl, World.ownsRow_nil _ _ _ _, World.ownsRow_nil _ _ _ _⟩

set_option maxHeartbeats 1000000 in
theorem sNewChain_any (n m tc gc b0 o0 b1 o1 : Nat) (ss : List ByteArray) (gs : List (Int × Int)) (w : World) (htc : n ≤ tc) (hgc : m ≤ gc) (htm : tc ≤ maxLen) (hgm : gc ≤ maxLen) (hf : Fine ss gs) (h : LedAt w (some ⟨b0, o0, none⟩) n (some ⟨b1, o1, none⟩) m ss gs) :
    Calls Try.prog 5 #[.agg #[.slice (some ⟨b0, o0, none⟩) n tc, .slice (some ⟨b1, o1, none⟩) m gc]] w fun e w' => OutCn w w' e (chnR ss gs) := by
  have hfl := l1Fault_boxC n m tc gc _ _ ss gs w htc hgc htm hgm hf h
  have HL : Hid (LedAt w (some ⟨b0, o0, none⟩) n (some ⟨b1, o1, none⟩) m ss gs) := h
  have HN : Hid (ss.length = n) := h.s.1
  have HM : Hid (gs.length = m) := h.g.1
  clear h hf htc hgc htm hgm
  obtain ⟨c, hc⟩ : ∃ c, c = flt ss gs := ⟨_, rfl⟩
  rw [← hc] at hfl
  by_cases hcz : c = 0
  · subst hcz
    have hlen := flt_le hc
    rw [HN.out, HM.out] at hlen
    have h60 := hlen.1
    have h120 := hlen.2
    have HC : Hid (0 = flt ss gs) := hc
    clear hlen hc
    go_enter Try.func5, Try.ntmps5
    go_wp2_with (first
      | (go_at_call 15; refine hfl.mono ?_; rintro e w2 ⟨rfl, HB⟩; obtain ⟨r0, r1⟩ := cells2 HB.out.2.2)
      | (go_at_call 17; refine (l1Copy_any b0 o0 b1 o1 n m tc gc ss gs w2 h60 h120 (HL.out.below HB.out.2.1 (Nat.le_refl _))).mono ?_; rintro e w3 ⟨g0, k0, g1, k1, rfl, ho3, hb3⟩; have HB3 := HB.out.step hb3; have HR : Hid (w3.heap[w.heap.size + 1]? = some (.cells #[.int .i64 0, .int .i64 0, .slice none 0 0, .slice none 0 0, .slice none 0 0, .slice none 0 0, .int .i64 0, .int .i64 0, .slice none 0 0, .slice none 0 0, .slice none 0 0] 40 (0, 0))) := HB3.out.1; obtain ⟨q0, q1, q2, q3, q4, q5, q6, q7, q8, q9, q10⟩ := cells11V HR.out; have fz0 := Joins.unfrozen_of_block HR.out 0; have fz1 := Joins.unfrozen_of_block HR.out 1; have fz2 := Joins.unfrozen_of_block HR.out 2; have fz3 := Joins.unfrozen_of_block HR.out 3; have fz4 := Joins.unfrozen_of_block HR.out 4; have fz5 := Joins.unfrozen_of_block HR.out 5; have fz6 := Joins.unfrozen_of_block HR.out 6; have fz7 := Joins.unfrozen_of_block HR.out 7; have fz8 := Joins.unfrozen_of_block HR.out 8; have fz9 := Joins.unfrozen_of_block HR.out 9; have fz10 := Joins.unfrozen_of_block HR.out 10; have HO : Hid (OwnL w3 w2.heap.size n m ss gs g0 k0 g1 k1) := ho3; clear ho3 hb3))
    obtain ⟨s0, s1, s2, s3, s4, s5, s6, s7, s8, s9, s10⟩ := cells11V (set11V11 HR.out (.int .i64 0) (.int .i64 0) (.slice (some ⟨g0, 0, none⟩) n k0) (.slice (some ⟨g1, 0, none⟩) m k1) (.slice none 0 0) (.slice none 0 0) (.int .i64 0) (.int .i64 0) (.slice none 0 0) (.slice none 0 0) (.slice none 0 0))
    refine bodyPost_ret (v := .agg #[.int .i64 0, .int .i64 0, .slice (some ⟨g0, 0, none⟩) n k0, .slice (some ⟨g1, 0, none⟩) m k1, .slice none 0 0, .slice none 0 0, .int .i64 0, .int .i64 0, .slice none 0 0, .slice none 0 0, .slice none 0 0]) (by simp [results, Try.results5, go_sem, s0, s1, s2, s3, s4, s5, s6, s7, s8, s9, s10]) rfl ?_
    have hz := HB.out.lt
    rw [chn_ok HC.out]
    refine ⟨below_set11V HB3.out.2.1 (by omega) _ _ _ _ _ _ _ _ _ _ _, some ⟨g0, 0, none⟩, k0, some ⟨g1, 0, none⟩, k1, by simp only [HN.out, HM.out], ?_, ?_⟩
    · simp only [HN.out]
      exact Joins.ownsRow_le (row_set11V HO.out.1 (by omega) _ _ _ _ _ _ _ _ _ _ _) (by omega)
    · simp only [HM.out]
      exact Joins.ownsRow_le (row_set11V HO.out.2 (by omega) _ _ _ _ _ _ _ _ _ _ _) (by omega)
  · rw [chn_bad hc hcz]
    clear hc
    go_enter Try.func5, Try.ntmps5
    go_wp2_with (first
      | (go_at_call 15; refine hfl.mono ?_; rintro e w2 ⟨rfl, HB⟩)
      | (go_at_call 16; refine (l15Bad_any c _).mono ?_; rintro e w3 ⟨rfl, hb3⟩; have HB3 := HB.out.step hb3; have HR : Hid (w3.heap[w.heap.size + 1]? = some (.cells #[.int .i64 0, .int .i64 0, .slice none 0 0, .slice none 0 0, .slice none 0 0, .slice none 0 0, .int .i64 0, .int .i64 0, .slice none 0 0, .slice none 0 0, .slice none 0 0] 40 (0, 0))) := HB3.out.1; obtain ⟨q0, q1, q2, q3, q4, q5, q6, q7, q8, q9, q10⟩ := cells11V HR.out; have fz0 := Joins.unfrozen_of_block HR.out 0; have fz1 := Joins.unfrozen_of_block HR.out 1; have fz2 := Joins.unfrozen_of_block HR.out 2; have fz3 := Joins.unfrozen_of_block HR.out 3; have fz4 := Joins.unfrozen_of_block HR.out 4; have fz5 := Joins.unfrozen_of_block HR.out 5; have fz6 := Joins.unfrozen_of_block HR.out 6; have fz7 := Joins.unfrozen_of_block HR.out 7; have fz8 := Joins.unfrozen_of_block HR.out 8; have fz9 := Joins.unfrozen_of_block HR.out 9; have fz10 := Joins.unfrozen_of_block HR.out 10; clear hb3))
    obtain ⟨s0, s1, s2, s3, s4, s5, s6, s7, s8, s9, s10⟩ := cells11V (set11V11 HR.out (.int .i64 c) (.int .i64 0) (.slice none 0 0) (.slice none 0 0) (.slice none 0 0) (.slice none 0 0) (.int .i64 0) (.int .i64 0) (.slice none 0 0) (.slice none 0 0) (.slice none 0 0))
    refine bodyPost_ret (v := .agg #[.int .i64 c, .int .i64 0, .slice none 0 0, .slice none 0 0, .slice none 0 0, .slice none 0 0, .int .i64 0, .int .i64 0, .slice none 0 0, .slice none 0 0, .slice none 0 0]) (by simp [results, Try.results5, go_sem, s0, s1, s2, s3, s4, s5, s6, s7, s8, s9, s10]) rfl ?_
    exact OutCn.empty (below_set11V HB3.out.2.1 (by omega) _ _ _ _ _ _ _ _ _ _ _)

set_option maxHeartbeats 1000000 in
theorem iNewChain_any (n m tc gc : Nat) (ta ga : Option Addr) (ss : List ByteArray) (gs : List (Int × Int)) (w : World) (hf : Fine ss gs) (h : LedAt w ta n ga m ss gs) :
    Calls Try.prog 7 #[.agg #[.slice ta n tc, .slice ga m gc]] w fun e w' => OutCn w w' e (chnR ss gs) := by
  obtain ⟨c, hc⟩ : ∃ c, c = flt ss gs := ⟨_, rfl⟩
  have HN : Hid (ss.length = n) := h.s.1
  have HM : Hid (gs.length = m) := h.g.1
  by_cases hcz : c = 0
  · subst hcz
    have hrd := readC_ok (tc := tc) (gc := gc) hf h hc
    have HC : Hid (0 = flt ss gs) := hc
    clear hc h hf
    go_enter Try.func7, Try.ntmps7
    go_wp2_with (first
      | (go_at_call 20; refine hrd.mono ?_; rintro e w2 ⟨p, q, top, rfl, HB, HT⟩; have HB2 := HB.out.step (below_box (.cells #[.pointer (some ⟨p, 0, none⟩), .pointer (some ⟨q, 0, none⟩)] 59)); have TS2 := HT.out.1.below (below_box (.cells #[.pointer (some ⟨p, 0, none⟩), .pointer (some ⟨q, 0, none⟩)] 59)); have TG2 := (HT.out.2.2.1.mono HT.out.2.2.2).below (below_box (.cells #[.pointer (some ⟨p, 0, none⟩), .pointer (some ⟨q, 0, none⟩)] 59)); obtain ⟨ia, ic, hI, hIl, HI⟩ := TS2.rows HN.out; obtain ⟨ja, jc, hJ, hJl, HJ⟩ := TG2.rows HM.out; have hbk := bookL_any p q n m ic jc ia ja _ hIl hJl hI hJ; clear TS2 TG2 hI hJ hIl hJl)
      | (go_at_call 21; refine hbk.mono ?_; rintro e w3 ⟨rfl, hb3⟩; have HB3 := HB2.out.step hb3; have HR : Hid (w3.heap[w.heap.size + 1]? = some (.cells #[.int .i64 0, .int .i64 0, .slice none 0 0, .slice none 0 0, .slice none 0 0, .slice none 0 0, .int .i64 0, .int .i64 0, .slice none 0 0, .slice none 0 0, .slice none 0 0] 40 (0, 0))) := HB3.out.1; obtain ⟨q0, q1, q2, q3, q4, q5, q6, q7, q8, q9, q10⟩ := cells11V HR.out; have fz0 := Joins.unfrozen_of_block HR.out 0; have fz1 := Joins.unfrozen_of_block HR.out 1; have fz2 := Joins.unfrozen_of_block HR.out 2; have fz3 := Joins.unfrozen_of_block HR.out 3; have fz4 := Joins.unfrozen_of_block HR.out 4; have fz5 := Joins.unfrozen_of_block HR.out 5; have fz6 := Joins.unfrozen_of_block HR.out 6; have fz7 := Joins.unfrozen_of_block HR.out 7; have fz8 := Joins.unfrozen_of_block HR.out 8; have fz9 := Joins.unfrozen_of_block HR.out 9; have fz10 := Joins.unfrozen_of_block HR.out 10; have HI3 : Hid (w3.ownsRow (w.heap.size + 2) 9 1 (.slice ia n ic) n (ss.map Value.string)) := HI.out.kept (grown_of_below hb3) (by cases Value.ownBlock (.slice ia n ic) <;> simp); have HJ3 : Hid (w3.ownsRow (w.heap.size + 2) 71 2 (.slice ja m jc) m (gcells gs)) := HJ.out.kept (grown_of_below hb3) (by cases Value.ownBlock (.slice ja m jc) <;> simp); clear hb3))
    obtain ⟨s0, s1, s2, s3, s4, s5, s6, s7, s8, s9, s10⟩ := cells11V (set11V11 HR.out (.int .i64 0) (.int .i64 0) (.slice ia n ic) (.slice ja m jc) (.slice none 0 0) (.slice none 0 0) (.int .i64 0) (.int .i64 0) (.slice none 0 0) (.slice none 0 0) (.slice none 0 0))
    refine bodyPost_ret (v := .agg #[.int .i64 0, .int .i64 0, .slice ia n ic, .slice ja m jc, .slice none 0 0, .slice none 0 0, .int .i64 0, .int .i64 0, .slice none 0 0, .slice none 0 0, .slice none 0 0]) (by simp [results, Try.results7, go_sem, s0, s1, s2, s3, s4, s5, s6, s7, s8, s9, s10]) rfl ?_
    rw [chn_ok HC.out]
    refine ⟨below_set11V HB3.out.2.1 (by omega) _ _ _ _ _ _ _ _ _ _ _, ia, ic, ja, jc, by simp only [HN.out, HM.out], ?_, ?_⟩
    · simp only [HN.out]
      exact Joins.ownsRow_le (row_set11V HI3.out (by omega) _ _ _ _ _ _ _ _ _ _ _) (by omega)
    · simp only [HM.out]
      exact Joins.ownsRow_le (row_set11V HJ3.out (by omega) _ _ _ _ _ _ _ _ _ _ _) (by omega)
  · have hrd := readC_bad (tc := tc) (gc := gc) hf h hc hcz
    rw [chn_bad hc hcz]
    clear hc h hf
    go_enter Try.func7, Try.ntmps7
    go_wp2_with (first
      | (go_at_call 20; refine hrd.mono ?_; rintro e w2 ⟨rfl, HB⟩; have HB3 := HB.out.step (below_box (.cells #[.pointer none, .pointer none] 59)); have HR : Hid ((w2.alloc (.cells #[.pointer none, .pointer none] 59)).heap[w.heap.size + 1]? = some (.cells #[.int .i64 0, .int .i64 0, .slice none 0 0, .slice none 0 0, .slice none 0 0, .slice none 0 0, .int .i64 0, .int .i64 0, .slice none 0 0, .slice none 0 0, .slice none 0 0] 40 (0, 0))) := HB3.out.1; obtain ⟨q0, q1, q2, q3, q4, q5, q6, q7, q8, q9, q10⟩ := cells11V HR.out; have fz0 := Joins.unfrozen_of_block HR.out 0; have fz1 := Joins.unfrozen_of_block HR.out 1; have fz2 := Joins.unfrozen_of_block HR.out 2; have fz3 := Joins.unfrozen_of_block HR.out 3; have fz4 := Joins.unfrozen_of_block HR.out 4; have fz5 := Joins.unfrozen_of_block HR.out 5; have fz6 := Joins.unfrozen_of_block HR.out 6; have fz7 := Joins.unfrozen_of_block HR.out 7; have fz8 := Joins.unfrozen_of_block HR.out 8; have fz9 := Joins.unfrozen_of_block HR.out 9; have fz10 := Joins.unfrozen_of_block HR.out 10))
    obtain ⟨s0, s1, s2, s3, s4, s5, s6, s7, s8, s9, s10⟩ := cells11V (set11V11 HR.out (.int .i64 c) (.int .i64 0) (.slice none 0 0) (.slice none 0 0) (.slice none 0 0) (.slice none 0 0) (.int .i64 0) (.int .i64 0) (.slice none 0 0) (.slice none 0 0) (.slice none 0 0))
    refine bodyPost_ret (v := .agg #[.int .i64 c, .int .i64 0, .slice none 0 0, .slice none 0 0, .slice none 0 0, .slice none 0 0, .int .i64 0, .int .i64 0, .slice none 0 0, .slice none 0 0, .slice none 0 0]) (by simp [results, Try.results7, go_sem, s0, s1, s2, s3, s4, s5, s6, s7, s8, s9, s10]) rfl ?_
    exact OutCn.empty (below_set11V HB3.out.2.1 (by omega) _ _ _ _ _ _ _ _ _ _ _)

end Go.Proofs.Ytocgmgcjbmipnaa
