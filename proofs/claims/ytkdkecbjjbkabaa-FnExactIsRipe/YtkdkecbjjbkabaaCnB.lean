/- Lists of coins that come in are copied into new memory; two lists are compared. -/
import Derived.Test.YtkdkecbjjbkabaaCnA
namespace Go.Proofs.Ytkdkecbjjbkabaa
open Go.RowKit Go.Maps Go.WideMaps

theorem blocks2 (w : World) (o o' : Obj) : ((w.alloc o).alloc o').heap[w.heap.size]? = some o ∧ ((w.alloc o).alloc o').heap[w.heap.size + 1]? = some o' ∧ ((w.alloc o).alloc o').heap.size = w.heap.size + 1 + 1 := by
  refine ⟨block_at2, ?_, by simp⟩
  rw [show w.heap.size + 1 = (w.alloc o).heap.size by simp]
  exact heap_alloc_new _ _

set_option maxHeartbeats 1000000 in
theorem eqCoin_any (p q v : Int) (a b : Option Addr) (n c1 c2 : Nat) (l : List Int) (x y h : Int) (m : Bool) (w : World) (hl : n ≤ 1048576) (ha : IAt w a n l) (hb : IAt w b n l) :
    Calls Try.prog 10 #[.agg #[.int .i64 p, .int .i64 q, .int .i64 v, .slice a n c1, .int .i64 x, .int .i64 y, .int .i64 h, .bool m], .agg #[.int .i64 p, .int .i64 q, .int .i64 v, .slice b n c2, .int .i64 x, .int .i64 y, .int .i64 h, .bool m]] w fun e w' => e = .returned (.bool true) ∧ Below w.heap.size w w' := by
  obtain ⟨t0, t1, t2⟩ := blocks2 w (.cells #[.int .i64 p, .int .i64 q, .int .i64 v, .slice a n c1, .int .i64 x, .int .i64 y, .int .i64 h, .bool m] 38) (.cells #[.int .i64 p, .int .i64 q, .int .i64 v, .slice b n c2, .int .i64 x, .int .i64 y, .int .i64 h, .bool m] 38)
  have HBX : Hid (Below w.heap.size w ((w.alloc (.cells #[.int .i64 p, .int .i64 q, .int .i64 v, .slice a n c1, .int .i64 x, .int .i64 y, .int .i64 h, .bool m] 38)).alloc (.cells #[.int .i64 p, .int .i64 q, .int .i64 v, .slice b n c2, .int .i64 x, .int .i64 y, .int .i64 h, .bool m] 38))) := below_box2 _ _
  have T0 : Hid (((w.alloc (.cells #[.int .i64 p, .int .i64 q, .int .i64 v, .slice a n c1, .int .i64 x, .int .i64 y, .int .i64 h, .bool m] 38)).alloc (.cells #[.int .i64 p, .int .i64 q, .int .i64 v, .slice b n c2, .int .i64 x, .int .i64 y, .int .i64 h, .bool m] 38)).heap[w.heap.size]? = some (.cells #[.int .i64 p, .int .i64 q, .int .i64 v, .slice a n c1, .int .i64 x, .int .i64 y, .int .i64 h, .bool m] 38 (0, 0))) := t0
  have T1 : Hid (((w.alloc (.cells #[.int .i64 p, .int .i64 q, .int .i64 v, .slice a n c1, .int .i64 x, .int .i64 y, .int .i64 h, .bool m] 38)).alloc (.cells #[.int .i64 p, .int .i64 q, .int .i64 v, .slice b n c2, .int .i64 x, .int .i64 y, .int .i64 h, .bool m] 38)).heap[w.heap.size + 1]? = some (.cells #[.int .i64 p, .int .i64 q, .int .i64 v, .slice b n c2, .int .i64 x, .int .i64 y, .int .i64 h, .bool m] 38 (0, 0))) := t1
  have hR := eqRef_any p q ((w.alloc (.cells #[.int .i64 p, .int .i64 q, .int .i64 v, .slice a n c1, .int .i64 x, .int .i64 y, .int .i64 h, .bool m] 38)).alloc (.cells #[.int .i64 p, .int .i64 q, .int .i64 v, .slice b n c2, .int .i64 x, .int .i64 y, .int .i64 h, .bool m] 38))
  have HA : Hid (IAt w a n l) := ha
  have HB : Hid (IAt w b n l) := hb
  have em : (m != m) = false := by simp
  clear t0 t1 t2 ha hb
  go_enter Try.func10, Try.ntmps10
  go_wp2_with (first
    | (go_at_call 27; refine hR.mono ?_; clear hR; rintro e w2 ⟨rfl, hb2⟩; have HBW : Hid (Below w.heap.size w w2) := HBX.out.trans (hb2.mono (by simp; omega)); have U0 := keepb T0.out hb2; have U1 := keepb T1.out hb2; obtain ⟨⟨s0, s1, s2, s3, s4, s5, s6, s7⟩, _⟩ := cells8 U0.out; obtain ⟨⟨z0, z1, z2, z3, z4, z5, z6, z7⟩, _⟩ := cells8 U1.out; clear hb2; have hO := eqOut_any v a b n c1 c2 l x y w2 hl (HA.out.below HBW.out (Nat.le_refl _)) (HB.out.below HBW.out (Nat.le_refl _)))
    | (go_at_call 28; refine hO.mono ?_; clear hO; rintro e w3 ⟨rfl, hb3⟩; have HBV : Hid (Below w.heap.size w w3) := HBW.out.trans (hb3.mono HBW.out.size); clear s0 s1 s2 s3 s4 s5 s6 s7 z0 z1 z2 z3 z4 z5 z6 z7; have V0 := keepb U0.out hb3; have V1 := keepb U1.out hb3; obtain ⟨⟨s0, s1, s2, s3, s4, s5, s6, s7⟩, _⟩ := cells8 V0.out; obtain ⟨⟨z0, z1, z2, z3, z4, z5, z6, z7⟩, _⟩ := cells8 V1.out; clear hb3))
  go_ret
  exact ⟨rfl, HBV.out⟩

end Go.Proofs.Ytkdkecbjjbkabaa
