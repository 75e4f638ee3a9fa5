/- Blocks that come in: their size is told, they are copied into new memory, two are compared. -/
import Derived.Test.YtjdjejnflcmgbaaDoorRu
import Derived.Test.YtjdjejnflcmgbaaDoorCp
import Derived.Test.YtjdjejnflcmgbaaDoorTxA
namespace Go.Proofs.YtjdjejnflcmgbaaDoor
open Go.RowKit Go.Maps Go.WideMaps

theorem szBl_any (p h m : Int) (a : Option Addr) (n cap : Nat) (left : Int) (w : World) (h0 : 0 ≤ left) (h1 : left ≤ 1048576) (hl : n ≤ maxLen) :
    Calls Tryd.prog 6 #[.agg #[.int .i64 p, .int .i64 h, .int .i64 m, .slice a n cap], .int .i64 left] w fun e w' => ∃ r : Int, e = .returned (.int .i64 r) ∧ SzG n left r ∧ Below w.heap.size w w' := by
  have hbx : Below w.heap.size w (w.alloc (.cells #[.int .i64 p, .int .i64 h, .int .i64 m, .slice a n cap] 24)) := below_box _
  have hS := szI_any a n cap left (w.alloc (.cells #[.int .i64 p, .int .i64 h, .int .i64 m, .slice a n cap] 24)) h0 h1 hl
  go_enter Tryd.func6, Tryd.ntmps6
  go_wp2_with (first
    | (go_at_call 25; refine hS.mono ?_; rintro e w2 ⟨r, rfl, hw, hr⟩; have hw2 := hw.symm; subst hw2))
  · go_ret
    exact ⟨_, rfl, Or.inl rfl, hbx⟩
  · go_ret
    exact ⟨_, rfl, hr, hbx⟩

/-- A block's copy: its numbers lie in new memory. -/
def OutBl (w w' : World) (e : Ending) (p h m : Int) (n : Nat) (l : List Int) : Prop :=
  ∃ g c, e = .returned (.agg #[.int .i64 p, .int .i64 h, .int .i64 m, .slice (some ⟨g, 0, none⟩) n c]) ∧ w'.ownsRow w.heap.size 2 1 (.slice (some ⟨g, 0, none⟩) n c) n (ints l) ∧ Below w.heap.size w w'
theorem blk_at {w w' : World} {n g c : Nat} {l : List Int} (h0 : w'.ownsRow w.heap.size 2 1 (.slice (some ⟨g, 0, none⟩) n c) n (ints l)) (hn : l.length = n) : Hid (IAt w' (some ⟨g, 0, none⟩) n l) ∧ n ≤ c ∧ c ≤ maxLen := by
  rcases id h0.2 with ⟨e, _⟩ | ⟨g', c', cur, e, _, _, k1, k2, _⟩
  · cases e
  · simp at e
    obtain ⟨rfl, rfl⟩ := e
    exact ⟨IAt.owned h0 hn, k1, k2⟩

set_option maxRecDepth 20000 in
set_option maxHeartbeats 2000000 in
theorem toBl_any (p h m : Int) (a : Option Addr) (n cap : Nat) (l : List Int) (w : World) (hl : n ≤ 1048576) (hI : IAt w a n l) :
    Calls Tryd.prog 8 #[.agg #[.int .i64 p, .int .i64 h, .int .i64 m, .slice a n cap]] w fun e w' => OutBl w w' e p h m n l := by
  obtain ⟨t0, t1, t2, t3⟩ := three_blocks w (.cells #[.int .i64 p, .int .i64 h, .int .i64 m, .slice a n cap] 24) (.cells #[.int .i64 0, .int .i64 0, .int .i64 0, .slice none 0 0] 29) (.cells #[.int .i64 p, .int .i64 h, .int .i64 m, .slice none 0 0] 29)
  have hbs : Below w.heap.size w (((w.alloc (.cells #[.int .i64 p, .int .i64 h, .int .i64 m, .slice a n cap] 24)).alloc (.cells #[.int .i64 0, .int .i64 0, .int .i64 0, .slice none 0 0] 29)).alloc (.cells #[.int .i64 p, .int .i64 h, .int .i64 m, .slice none 0 0] 29)) := below_box3 _ _ _
  have hS := toI_any a n cap l (((w.alloc (.cells #[.int .i64 p, .int .i64 h, .int .i64 m, .slice a n cap] 24)).alloc (.cells #[.int .i64 0, .int .i64 0, .int .i64 0, .slice none 0 0] 29)).alloc (.cells #[.int .i64 p, .int .i64 h, .int .i64 m, .slice none 0 0] 29)) hl (hI.below hbs (Nat.le_refl _))
  have U1 := show Hid ((((w.alloc (.cells #[.int .i64 p, .int .i64 h, .int .i64 m, .slice a n cap] 24)).alloc (.cells #[.int .i64 0, .int .i64 0, .int .i64 0, .slice none 0 0] 29)).alloc (.cells #[.int .i64 p, .int .i64 h, .int .i64 m, .slice none 0 0] 29)).heap[w.heap.size + 1]? = some (.cells #[.int .i64 0, .int .i64 0, .int .i64 0, .slice none 0 0] 29 (0, 0))) from t1
  have U2 := show Hid ((((w.alloc (.cells #[.int .i64 p, .int .i64 h, .int .i64 m, .slice a n cap] 24)).alloc (.cells #[.int .i64 0, .int .i64 0, .int .i64 0, .slice none 0 0] 29)).alloc (.cells #[.int .i64 p, .int .i64 h, .int .i64 m, .slice none 0 0] 29)).heap[w.heap.size + 1 + 1]? = some (.cells #[.int .i64 p, .int .i64 h, .int .i64 m, .slice none 0 0] 29 (0, 0))) from t2
  have HBS : Hid (Below w.heap.size w (((w.alloc (.cells #[.int .i64 p, .int .i64 h, .int .i64 m, .slice a n cap] 24)).alloc (.cells #[.int .i64 0, .int .i64 0, .int .i64 0, .slice none 0 0] 29)).alloc (.cells #[.int .i64 p, .int .i64 h, .int .i64 m, .slice none 0 0] 29))) := hbs
  have HSZ : Hid ((((w.alloc (.cells #[.int .i64 p, .int .i64 h, .int .i64 m, .slice a n cap] 24)).alloc (.cells #[.int .i64 0, .int .i64 0, .int .i64 0, .slice none 0 0] 29)).alloc (.cells #[.int .i64 p, .int .i64 h, .int .i64 m, .slice none 0 0] 29)).heap.size = w.heap.size + 1 + 1 + 1) := t3
  obtain ⟨s0, s1, s2, s3, _⟩ := cells4 t0
  clear t0 t1 t2 t3 hbs hI
  go_enter Tryd.func8, Tryd.ntmps8
  go_wp2_with (first
    | (go_at_call 28; (with_reducible refine hS.mono ?_); clear hS; rintro e w2 ⟨g0, k0, rfl, ho0, hb2⟩; rw [HSZ.out] at ho0 hb2; obtain ⟨⟨q0, q1, q2, q3, q4, q5, q6, q7⟩, HQ⟩ := res4 U1.out hb2 (by omega); obtain ⟨⟨r0, r1, r2, r3, r4, r5, r6, r7⟩, HO⟩ := res4 U2.out hb2 (by omega); have HBW : Hid (Below w.heap.size w w2) := HBS.out.trans (hb2.mono (by omega)); have HROW : Hid (w2.ownsRow (w.heap.size + 1 + 1 + 1) 2 1 (.slice (some ⟨g0, 0, none⟩) n k0) n (ints l)) := ho0; clear ho0 hb2))
  have HQ2 : Hid ((w2.setCell ⟨w.heap.size + 1 + 1, 3, none⟩ (.slice (some ⟨g0, 0, none⟩) n k0)).heap[w.heap.size + 1]? = some (.cells #[.int .i64 0, .int .i64 0, .int .i64 0, .slice none 0 0] 29 (0, 0))) := (Below.heap_setCell _ ⟨w.heap.size + 1 + 1, 3, none⟩ _ (w.heap.size + 1) (show w.heap.size + 1 ≠ w.heap.size + 1 + 1 by omega)).trans HQ.out
  obtain ⟨j0, j1, j2, j3⟩ := four_set HQ2.out (.int .i64 p) (.int .i64 h) (.int .i64 m) (.slice (some ⟨g0, 0, none⟩) n k0)
  refine bodyPost_ret (v := .agg #[.int .i64 p, .int .i64 h, .int .i64 m, .slice (some ⟨g0, 0, none⟩) n k0]) (by simp [results, Tryd.results8, go_sem, j0, j1, j2, j3]) rfl ⟨g0, k0, rfl, ?_, ?_⟩
  · exact row_res4 (ownsRow_setCell_below HROW.out (a := ⟨w.heap.size + 1 + 1, 3, none⟩) (show w.heap.size + 1 + 1 < _ by omega) _) (by omega) (by omega) _ _ _ _
  · exact below_res4 (HBW.out.setCell (p := ⟨w.heap.size + 1 + 1, 3, none⟩) (show w.heap.size ≤ w.heap.size + 1 + 1 by omega) _) _ _ _ _

set_option maxRecDepth 20000 in
set_option maxHeartbeats 2000000 in
theorem eqBl_any (p h m : Int) (a b : Option Addr) (n c1 c2 : Nat) (l : List Int) (w : World) (hl : n ≤ 1048576) (ha : IAt w a n l) (hb : IAt w b n l) :
    Calls Tryd.prog 11 #[.agg #[.int .i64 p, .int .i64 h, .int .i64 m, .slice a n c1], .agg #[.int .i64 p, .int .i64 h, .int .i64 m, .slice b n c2]] w fun e w' => e = .returned (.bool true) ∧ Below w.heap.size w w' := by
  have hbx : Below w.heap.size w ((w.alloc (.cells #[.int .i64 p, .int .i64 h, .int .i64 m, .slice a n c1] 29)).alloc (.cells #[.int .i64 p, .int .i64 h, .int .i64 m, .slice b n c2] 29)) := below_box2 _ _
  have hS := eqI_any a b n c1 c2 l _ hl (ha.below hbx (Nat.le_refl _)) (hb.below hbx (Nat.le_refl _))
  have T0 := show Hid (((w.alloc (.cells #[.int .i64 p, .int .i64 h, .int .i64 m, .slice a n c1] 29)).alloc (.cells #[.int .i64 p, .int .i64 h, .int .i64 m, .slice b n c2] 29)).heap[w.heap.size]? = some (.cells #[.int .i64 p, .int .i64 h, .int .i64 m, .slice a n c1] 29 (0, 0))) from block_at2
  have T1 := show Hid (((w.alloc (.cells #[.int .i64 p, .int .i64 h, .int .i64 m, .slice a n c1] 29)).alloc (.cells #[.int .i64 p, .int .i64 h, .int .i64 m, .slice b n c2] 29)).heap[w.heap.size + 1]? = some (.cells #[.int .i64 p, .int .i64 h, .int .i64 m, .slice b n c2] 29 (0, 0))) from heap_alloc_at _ _ _ (by simp)
  have HBX : Hid (Below w.heap.size w ((w.alloc (.cells #[.int .i64 p, .int .i64 h, .int .i64 m, .slice a n c1] 29)).alloc (.cells #[.int .i64 p, .int .i64 h, .int .i64 m, .slice b n c2] 29))) := hbx
  clear hbx ha hb
  go_enter Tryd.func11, Tryd.ntmps11
  go_wp2_with (first
    | (go_at_call 32; (with_reducible refine hS.mono ?_); clear hS; rintro e w2 ⟨rfl, hb2⟩; have HBW : Hid (Below w.heap.size w w2) := HBX.out.trans (hb2.mono (by simp; omega)); clear hb2))
  go_ret
  exact ⟨rfl, HBW.out⟩

end Go.Proofs.YtjdjejnflcmgbaaDoor
