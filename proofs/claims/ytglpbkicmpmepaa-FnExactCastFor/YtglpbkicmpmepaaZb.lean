/- Votes that come in: their size is told, they are copied into new memory, two are compared. -/
import Derived.Test.YtglpbkicmpmepaaTxA
import Derived.Lib.QuietBelow
namespace Go.Proofs.Ytglpbkicmpmepaa
open Go.RowKit Go.Maps Go.WideMaps Go.Sort

section
variable {w w2 W v : World} {b B : Nat} {c0 c1 c2 c3 c4 c5 : Value} {t : TypeId}
theorem cells6V (h : v.heap[b]? = some (.cells #[c0, c1, c2, c3, c4, c5] t (0, 0))) :
    v.cell? ⟨b, 0, none⟩ = some c0 ∧ v.cell? ⟨b, 1, none⟩ = some c1 ∧ v.cell? ⟨b, 2, none⟩ = some c2 ∧ v.cell? ⟨b, 3, none⟩ = some c3 ∧ v.cell? ⟨b, 4, none⟩ = some c4 ∧ v.cell? ⟨b, 5, none⟩ = some c5 :=
  ⟨by unfold World.cell?; rw [h]; rfl, by unfold World.cell?; rw [h]; rfl, by unfold World.cell?; rw [h]; rfl, by unfold World.cell?; rw [h]; rfl, by unfold World.cell?; rw [h]; rfl, by unfold World.cell?; rw [h]; rfl⟩
end

/-- A vote: its key, its kind, its block, the two numbers of its ref, its transaction. -/
structure Vo where
  k : Int
  d : Int
  b : Int
  p : Int
  q : Int
  t : Int
deriving DecidableEq
def V0 : Vo := ⟨0, 0, 0, 0, 0, 0⟩
set_option maxHeartbeats 400000 in
theorem eqVo_any (v : Vo) (w : World) : Calls Try.prog 27 #[.agg #[.int .i64 v.k, .int .i64 v.d, .int .i64 v.b, .int .i64 v.p, .int .i64 v.q, .int .i64 v.t], .agg #[.int .i64 v.k, .int .i64 v.d, .int .i64 v.b, .int .i64 v.p, .int .i64 v.q, .int .i64 v.t]] w fun e w' => e = .returned (.bool true) ∧ Below w.heap.size w w' := by
  obtain ⟨vk, vd, vb, vp, vq, vt⟩ := v
  simp only
  have HB : Hid (Below w.heap.size w ((w.alloc (.cells #[.int .i64 vk, .int .i64 vd, .int .i64 vb, .int .i64 vp, .int .i64 vq, .int .i64 vt] 31)).alloc (.cells #[.int .i64 vk, .int .i64 vd, .int .i64 vb, .int .i64 vp, .int .i64 vq, .int .i64 vt] 31))) := below_box2 _ _
  have hc := eqRef_any vp vq ((w.alloc (.cells #[.int .i64 vk, .int .i64 vd, .int .i64 vb, .int .i64 vp, .int .i64 vq, .int .i64 vt] 31)).alloc (.cells #[.int .i64 vk, .int .i64 vd, .int .i64 vb, .int .i64 vp, .int .i64 vq, .int .i64 vt] 31))
  have t0 := block_at2 (w := w) (o := .cells #[.int .i64 vk, .int .i64 vd, .int .i64 vb, .int .i64 vp, .int .i64 vq, .int .i64 vt] 31) (o' := .cells #[.int .i64 vk, .int .i64 vd, .int .i64 vb, .int .i64 vp, .int .i64 vq, .int .i64 vt] 31)
  have t1 := heap_alloc_at (w.alloc (.cells #[.int .i64 vk, .int .i64 vd, .int .i64 vb, .int .i64 vp, .int .i64 vq, .int .i64 vt] 31)) (.cells #[.int .i64 vk, .int .i64 vd, .int .i64 vb, .int .i64 vp, .int .i64 vq, .int .i64 vt] 31) (w.heap.size + 1) (by simp)
  have T0 : Hid _ := t0
  have T1 : Hid _ := t1
  clear t0 t1
  go_enter Try.func27, Try.ntmps27
  go_wp2_with (first | (go_at_call 51; (with_reducible refine hc.mono ?_); clear hc; rintro e w2 ⟨rfl, hb2⟩; obtain ⟨b0, b1, b2, b3, b4, b5⟩ := cells6V (keepb T0.out hb2).out; obtain ⟨c0, c1, c2, c3, c4, c5⟩ := cells6V (keepb T1.out hb2).out))
  go_ret
  exact ⟨rfl, HB.out.trans (hb2.mono HB.out.size)⟩

end Go.Proofs.Ytglpbkicmpmepaa
