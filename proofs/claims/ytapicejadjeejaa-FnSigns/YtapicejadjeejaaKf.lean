/- A ledger, a key and a number are drawn. -/
import Derived.Test.YtapicejadjeejaaKc
namespace Go.Proofs.Ytapicejadjeejaa
open Go.RowKit Go.Maps Go.WideMaps

/-- What holds in the midst of the drawing, whatever has been done of it. -/
structure R5 (w : World) (SB : Nat) (ca : Option Addr) (cn cc RB LB base : Nat) (ta : Option Addr) (n tc : Nat) (ga : Option Addr) (m gc : Nat) (ss : List ByteArray) (gs : List (Int × Int)) (v : World) (T : Nat) (b0 b1 b2 b3 b4 b5 b6 b7 b8 b9 b10 b11 b12 : Bool) (x3 x4 x11 x12 x13 x14 x15 x16 x17 x18 x19 x20 : Value) : Prop where
  src : Src w v SB ca cn cc T
  cnt : T ≤ 23 + b3.toNat + b9.toNat
  box : v.heap[LB]? = some (.cells #[.slice ta n tc, .slice ga m gc] 27 (0, 0))
  rs : v.ownsRow base 9 1 (.slice ta n tc) n (ss.map Value.string)
  rg : v.ownsRow base 53 2 (.slice ga m gc) m (gcells gs)
  f0 : b0 = true → x11 = .agg #[.slice ta n tc, .slice ga m gc]
  f1 : b1 = true → x12 = .pointer (some ⟨SB, 0, none⟩)
  f2 : b2 = true → ∃ X, x13 = .slice (some ⟨X, 0, none⟩) 6 6 ∧ X ≠ SB ∧ v.heap[X]? = some (.cells #[.int .i64 1, .int .i64 2, .int .i64 3, .int .i64 999, .int .i64 1000, .int .i64 0] 2 (0, 0))
  f3 : b3 = true → ∃ z : Int, x14 = .int .i64 z ∧ 0 ≤ z ∧ z ≤ 1000
  f4 : b4 = true → x15 = .pointer (some ⟨SB, 0, none⟩)
  f5 : b5 = true → x16 = .pointer (some ⟨LB, 0, none⟩)
  f6 : b6 = true → x17 = .slice ta n tc
  f7 : b7 = true → x18 = .int .i64 (n : Int)
  f8 : b8 = true → x19 = .int .i64 ((n : Int) + 2)
  f9 : b9 = true → ∃ z : Int, x20 = .int .i64 z ∧ 0 ≤ z ∧ z ≤ 1000
  f10 : b10 = false → v.heap[RB]? = some (.cells #[.slice none 0 0, .slice none 0 0] 27 (0, 0))
  g10 : b10 = true → v.heap[RB]? = some (.cells #[.slice ta n tc, .slice ga m gc] 27 (0, 0))
  f11 : b11 = true → ∃ z : Int, x3 = .int .i64 z ∧ 0 ≤ z ∧ z ≤ 1000
  f12 : b12 = true → ∃ z : Int, x4 = .int .i64 z ∧ 0 ≤ z ∧ z ≤ 1000
section
variable {w : World} {SB : Nat} {ca : Option Addr} {cn cc RB LB base : Nat} {ta : Option Addr} {n tc : Nat} {ga : Option Addr} {m gc : Nat} {ss : List ByteArray} {gs : List (Int × Int)} {v v2 : World} {T T2 : Nat} {b0 b1 b2 b3 b4 b5 b6 b7 b8 b9 b10 b11 b12 : Bool} {x3 x4 x11 x12 x13 x14 x15 x16 x17 x18 x19 x20 : Value}
theorem R5.mem (H : R5 w SB ca cn cc RB LB base ta n tc ga m gc ss gs v T b0 b1 b2 b3 b4 b5 b6 b7 b8 b9 b10 b11 b12 x3 x4 x11 x12 x13 x14 x15 x16 x17 x18 x19 x20) (hb : Below v.heap.size v v2) : R5 w SB ca cn cc RB LB base ta n tc ga m gc ss gs v2 T b0 b1 b2 b3 b4 b5 b6 b7 b8 b9 b10 b11 b12 x3 x4 x11 x12 x13 x14 x15 x16 x17 x18 x19 x20 where
  src := H.src.step hb
  box := (keepb H.box hb).out
  rs := H.rs.kept (grown_of_below hb) (by cases Value.ownBlock (.slice ta n tc) <;> simp)
  rg := H.rg.kept (grown_of_below hb) (by cases Value.ownBlock (.slice ga m gc) <;> simp)
  f2 h := by obtain ⟨X, e, hX, hv⟩ := H.f2 h; exact ⟨X, e, hX, (keepb hv hb).out⟩
  f10 h := (keepb (H.f10 h) hb).out
  g10 h := (keepb (H.g10 h) hb).out
  cnt := H.cnt
  f0 := H.f0
  f1 := H.f1
  f3 := H.f3
  f4 := H.f4
  f5 := H.f5
  f6 := H.f6
  f7 := H.f7
  f8 := H.f8
  f9 := H.f9
  f11 := H.f11
  f12 := H.f12
theorem R5.drawn (H : R5 w SB ca cn cc RB LB base ta n tc ga m gc ss gs v T b0 b1 b2 b3 b4 b5 b6 b7 b8 b9 b10 b11 b12 x3 x4 x11 x12 x13 x14 x15 x16 x17 x18 x19 x20) (ho : SB < base ∧ RB ≠ SB ∧ RB < base ∧ LB ≠ SB ∧ LB ≠ RB) (hS : Src w v2 SB ca cn cc T2) (hc : Chg v v2 SB (SB + 1)) (hT : T2 ≤ 23 + b3.toNat + b9.toNat) : R5 w SB ca cn cc RB LB base ta n tc ga m gc ss gs v2 T2 b0 b1 b2 b3 b4 b5 b6 b7 b8 b9 b10 b11 b12 x3 x4 x11 x12 x13 x14 x15 x16 x17 x18 x19 x20 where
  src := hS
  cnt := hT
  box := hc.keep1 H.box ho.2.2.2.1
  rs := hc.row1 H.rs ho.1
  rg := hc.row1 H.rg ho.1
  f2 h := by obtain ⟨X, e, hX, hv⟩ := H.f2 h; exact ⟨X, e, hX, hc.keep1 hv hX⟩
  f10 h := hc.keep1 (H.f10 h) ho.2.1
  g10 h := hc.keep1 (H.g10 h) ho.2.1
  f0 := H.f0
  f1 := H.f1
  f3 := H.f3
  f4 := H.f4
  f5 := H.f5
  f6 := H.f6
  f7 := H.f7
  f8 := H.f8
  f9 := H.f9
  f11 := H.f11
  f12 := H.f12
theorem R5.sto (H : R5 w SB ca cn cc RB LB base ta n tc ga m gc ss gs v T b0 b1 b2 b3 b4 b5 b6 b7 b8 b9 false b11 b12 x3 x4 x11 x12 x13 x14 x15 x16 x17 x18 x19 x20) (ho : SB < base ∧ RB ≠ SB ∧ RB < base ∧ LB ≠ SB ∧ LB ≠ RB) (hw : w.heap.size ≤ RB) : R5 w SB ca cn cc RB LB base ta n tc ga m gc ss gs ((v.setCell ⟨RB, 0, none⟩ (.slice ta n tc)).setCell ⟨RB, 1, none⟩ (.slice ga m gc)) T b0 b1 b2 b3 b4 b5 b6 b7 b8 b9 true b11 b12 x3 x4 x11 x12 x13 x14 x15 x16 x17 x18 x19 x20 where
  src := ⟨(heap_set2k (Ne.symm ho.2.1) _ _).trans H.src.box, below_set2k H.src.bel hw _ _, H.src.sb⟩
  box := (heap_set2k ho.2.2.2.2 _ _).trans H.box
  rs := row_set2k H.rs ho.2.2.1 _ _
  rg := row_set2k H.rg ho.2.2.1 _ _
  f2 h := by
    obtain ⟨X, e, hX, hv⟩ := H.f2 h
    exact ⟨X, e, hX, (heap_set2k (fun e2 => by subst e2; rw [H.f10 rfl] at hv; exact absurd (Obj.cells.inj (Option.some.inj hv)).2.1 (by decide)) _ _).trans hv⟩
  f10 h := by cases h
  g10 _ := set2b (H.f10 rfl) _ _
  cnt := H.cnt
  f0 := H.f0
  f1 := H.f1
  f3 := H.f3
  f4 := H.f4
  f5 := H.f5
  f6 := H.f6
  f7 := H.f7
  f8 := H.f8
  f9 := H.f9
  f11 := H.f11
  f12 := H.f12
end
theorem iat_blk6 {V : World} {X : Nat} (h : V.heap[X]? = some (.cells #[.int .i64 1, .int .i64 2, .int .i64 3, .int .i64 999, .int .i64 1000, .int .i64 0] 2 (0, 0))) : IAt V (some ⟨X, 0, none⟩) 6 [1, 2, 3, 999, 1000, 0] := by
  refine ⟨rfl, .inr ⟨X, 0, rfl, lt_of_block h, fun j hj => ?_⟩⟩
  rw [Nat.zero_add]
  unfold World.cell?
  rw [h]
  match j, hj with
  | 0, _ => rfl
  | 1, _ => rfl
  | 2, _ => rfl
  | 3, _ => rfl
  | 4, _ => rfl
  | 5, _ => rfl

/-- A ledger, a key and a number that are drawn, in new memory. -/
def OutSg (w w' : World) (e : Ending) : Prop :=
  ∃ ta n tc ga m gc ss gs, ∃ y z : Int, e = .returned (.tuple #[.agg #[.slice ta n tc, .slice ga m gc], .int .i64 y, .int .i64 z]) ∧ Hid (w'.ownsRow w.heap.size 9 1 (.slice ta n tc) n (ss.map Value.string)) ∧ Hid (w'.ownsRow w.heap.size 53 2 (.slice ga m gc) m (gcells gs)) ∧ Hid (Fine ss gs) ∧ n ≤ 61 ∧ m ≤ 121 ∧ (0 ≤ y ∧ y ≤ 1000) ∧ (0 ≤ z ∧ z ≤ 1000) ∧ Hid (Below w.heap.size w w')

set_option maxRecDepth 20000 in
set_option maxHeartbeats 8000000 in
theorem drawSign_any (cn cc : Nat) (ca : Option Addr) (l0 : List Int) (w : World) (hcn2 : cn ≤ 1048576) (hB : BAt w ca cn l0) :
    Calls Try.prog 5 #[.slice ca cn cc] w fun e w' => OutSg w w' e := by
  have HB : Hid (BAt w ca cn l0) := hB
  have hbx : Below w.heap.size w (w.alloc (.cells #[.slice none 0 0, .slice none 0 0] 27)) := below_box _
  have T0 : Hid ((w.alloc (.cells #[.slice none 0 0, .slice none 0 0] 27)).heap[w.heap.size]? = some (.cells #[.slice none 0 0, .slice none 0 0] 27 (0, 0))) := heap_alloc_new _ _
  have HBX : Hid (Below w.heap.size w (w.alloc (.cells #[.slice none 0 0, .slice none 0 0] 27))) := hbx
  have h1 := l1Source_any ca cn cc (w.alloc (.cells #[.slice none 0 0, .slice none 0 0] 27))
  clear hB hbx
  go_enter Try.func5, Try.ntmps5
  go_wp2_with (first
    | (go_at_call 12; (with_reducible refine h1.mono ?_); clear h1; rintro e v2 ⟨rfl, hS⟩; have HS2 : Hid (Src w v2 (w.heap.size + 1) ca cn cc 0) := (by have := hS.box; simp at this; exact ⟨this, HBX.out.trans (hS.bel.mono HBX.out.size), by omega⟩); have HR2 : Hid (v2.heap[w.heap.size]? = some (.cells #[.slice none 0 0, .slice none 0 0] 27 (0, 0))) := (hS.bel.block _ (by simp)).trans T0.out; have hsz2 : w.heap.size + 1 < v2.heap.size := HS2.out.lt; have h2 := l1Ledger_any (w.heap.size + 1) cn cc 0 ca l0 w v2 (by omega) hcn2 HB.out HS2.out; clear hS)
    | (go_at_call 13; (with_reducible refine h2.mono ?_); clear h2; rintro e v3 ⟨T3, ta, n, tc, ga, m, gc, ss, gs, rfl, hT3, HS3, HC3, HO3, HG3, HF3, hn61, hm121⟩))
  have ho : w.heap.size + 1 < v2.heap.size ∧ w.heap.size ≠ w.heap.size + 1 ∧ w.heap.size < v2.heap.size ∧ v3.heap.size ≠ w.heap.size + 1 ∧ v3.heap.size ≠ w.heap.size := by have := HC3.out.size; omega
  refine wp_region_any (by kernel_rfl) ?_
  change wpAny _ _ _ _ _ _ _ (World.drew _)
  refine wpAny_inv (fun L a v => ∃ (T : Nat) (b0 b1 b2 b3 b4 b5 b6 b7 b8 b9 b10 b11 b12 : Bool) (x3 x4 x11 x12 x13 x14 x15 x16 x17 x18 x19 x20 : Value), L = #[b0, b1, b2, b3, b4, b5, b6, b7, b8, b9, b10, b11, b12] ∧ a = { tmps := #[.slice ca cn cc, undef, .pointer (some ⟨w.heap.size, 0, none⟩), x3, x4, .pointer (some ⟨w.heap.size + 1, 0, none⟩), .pointer (some ⟨v3.heap.size, 0, none⟩), .slice ca cn cc, .pointer (some ⟨w.heap.size + 1, 0, none⟩), .pointer (some ⟨w.heap.size + 1, 0, none⟩), .agg #[.slice ta n tc, .slice ga m gc], x11, x12, x13, x14, x15, x16, x17, x18, x19, x20], defers := [] } ∧ R5 w (w.heap.size + 1) ca cn cc w.heap.size v3.heap.size v2.heap.size ta n tc ga m gc ss gs v T b0 b1 b2 b3 b4 b5 b6 b7 b8 b9 b10 b11 b12 x3 x4 x11 x12 x13 x14 x15 x16 x17 x18 x19 x20) ?step ?done _ _ _ _ (by simp) ?start
  case start =>
    refine ⟨T3, false, false, false, false, false, false, false, false, false, false, false, false, false, .int .i64 0, .int .i64 0, undef, undef, undef, undef, undef, undef, undef, undef, undef, undef, rfl, rfl, ?_⟩
    have hb : Below v3.heap.size v3 (v3.alloc (.cells #[.slice ta n tc, .slice ga m gc] 27)).drew := (below_box _).drew
    have hR := HC3.out.keep1 HR2.out (by omega)
    exact { src := HS3.out.step hb, cnt := by simpa using hT3, box := heap_alloc_new _ _, rs := HO3.out.kept (grown_of_below hb) (by cases Value.ownBlock (.slice ta n tc) <;> simp), rg := HG3.out.kept (grown_of_below hb) (by cases Value.ownBlock (.slice ga m gc) <;> simp), f10 := fun _ => (keepb hR hb).out, f0 := fun h => (by cases h), f1 := fun h => (by cases h), f2 := fun h => (by cases h), f3 := fun h => (by cases h), f4 := fun h => (by cases h), f5 := fun h => (by cases h), f6 := fun h => (by cases h), f7 := fun h => (by cases h), f8 := fun h => (by cases h), f9 := fun h => (by cases h), g10 := fun h => (by cases h), f11 := fun h => (by cases h), f12 := fun h => (by cases h) }
  case done =>
    rintro L a v ⟨T, b0, b1, b2, b3, b4, b5, b6, b7, b8, b9, b10, b11, b12, x3, x4, x11, x12, x13, x14, x15, x16, x17, x18, x19, x20, rfl, rfl, H⟩ hr
    have hall := ready_all (by kernel_rfl) hr
    obtain rfl : b10 = true := hall 10 (by decide)
    obtain rfl : b11 = true := hall 11 (by decide)
    obtain rfl : b12 = true := hall 12 (by decide)
    obtain ⟨y, e3, hy⟩ := H.f11 rfl
    obtain ⟨z, e4, hz⟩ := H.f12 rfl
    subst e3 e4
    obtain ⟨y0, y1⟩ := cells2 (H.g10 rfl)
    have hv2 := HC3.out.size
    have HF : Hid (OutSg w v (.returned (.tuple #[.agg #[.slice ta n tc, .slice ga m gc], .int .i64 y, .int .i64 z]))) := ⟨ta, n, tc, ga, m, gc, ss, gs, y, z, rfl, Joins.ownsRow_le H.rs (by omega), Joins.ownsRow_le H.rg (by omega), HF3, hn61, hm121, hy, hz, H.src.bel⟩
    go_wp2
    exact bodyPost_ret (v := .tuple #[.agg #[.slice ta n tc, .slice ga m gc], .int .i64 y, .int .i64 z]) (by simp [results, Try.results5, go_sem, y0, y1]) rfl HF.out
  case step =>
    rintro L a v i ⟨T, b0, b1, b2, b3, b4, b5, b6, b7, b8, b9, b10, b11, b12, x3, x4, x11, x12, x13, x14, x15, x16, x17, x18, x19, x20, rfl, rfl, H⟩ hi
    have hlt : i < 13 := ready_lt hi
    obtain rfl | rfl | rfl | rfl | rfl | rfl | rfl | rfl | rfl | rfl | rfl | rfl | rfl : i = 0 ∨ i = 1 ∨ i = 2 ∨ i = 3 ∨ i = 4 ∨ i = 5 ∨ i = 6 ∨ i = 7 ∨ i = 8 ∨ i = 9 ∨ i = 10 ∨ i = 11 ∨ i = 12 := by omega
    · obtain rfl : b0 = false := ready_new hi
      obtain ⟨y0, y1⟩ := cells2 H.box
      refine wpOp_run (o := _) rfl (fun K hK => ?_)
      go_simp
      refine hK _ _ ?_
      exact ⟨_, _, _, _, _, _, _, _, _, _, _, _, _, _, _, _, _, _, _, _, _, _, _, _, _, _, rfl, rfl, { H with f0 := fun _ => rfl }⟩
    · obtain rfl : b1 = false := ready_new hi
      refine wpOp_run (o := _) rfl (fun K hK => ?_)
      go_simp
      refine hK _ _ ?_
      exact ⟨_, _, _, _, _, _, _, _, _, _, _, _, _, _, _, _, _, _, _, _, _, _, _, _, _, _, rfl, rfl, { H with f1 := fun _ => rfl }⟩
    · obtain rfl : b2 = false := ready_new hi
      refine wpOp_run (o := _) rfl (fun K hK => ?_)
      go_simp
      refine hK _ _ ?_
      exact ⟨_, _, _, _, _, _, _, _, _, _, _, _, _, _, _, _, _, _, _, _, _, _, _, _, _, _, rfl, rfl, { (H.mem (below_box _)) with f2 := fun _ => ⟨v.heap.size, rfl, by have := H.src.lt; omega, heap_alloc_new _ _⟩ }⟩
    · obtain rfl : b3 = false := ready_new hi
      obtain rfl : b1 = true := ready_dep (d := 1) hi (by kernel_rfl)
      obtain rfl : b2 = true := ready_dep (d := 2) hi (by kernel_rfl)
      obtain rfl := H.f1 rfl
      obtain ⟨X, e13, hX, hv⟩ := H.f2 rfl
      subst e13
      have hT := H.cnt
      have hW := l1Pick_any (w.heap.size + 1) cn cc T 6 6 ca (some ⟨X, 0, none⟩) l0 [1, 2, 3, 999, 1000, 0] w v (by omega) (by omega) (by cases b9 <;> simp at hT <;> omega) hcn2 HB.out H.src (iat_blk6 hv) (fun b off e => by cases e; exact hX)
      refine wpOp_run (o := _) rfl (fun K hK => ?_)
      go_simp
      go_at_call 14
      refine hW.mono ?_
      rintro e v5 ⟨z, rfl, hz, hS5, hc5⟩
      have hz2 : 0 ≤ z ∧ z ≤ 1000 := by simp at hz; rcases hz with rfl | rfl | rfl | rfl | rfl | rfl <;> omega
      go_simp
      refine hK _ _ ?_
      exact ⟨_, _, _, _, _, _, _, _, _, _, _, _, _, _, _, _, _, _, _, _, _, _, _, _, _, _, rfl, rfl, { (R5.drawn { H with f3 := fun _ => ⟨z, rfl, hz2⟩, cnt := Nat.le_trans hT (by simp) } ho hS5 hc5 (by simp at hT ⊢; omega)) with }⟩
    · obtain rfl : b4 = false := ready_new hi
      refine wpOp_run (o := _) rfl (fun K hK => ?_)
      go_simp
      refine hK _ _ ?_
      exact ⟨_, _, _, _, _, _, _, _, _, _, _, _, _, _, _, _, _, _, _, _, _, _, _, _, _, _, rfl, rfl, { H with f4 := fun _ => rfl }⟩
    · obtain rfl : b5 = false := ready_new hi
      refine wpOp_run (o := _) rfl (fun K hK => ?_)
      go_simp
      refine hK _ _ ?_
      exact ⟨_, _, _, _, _, _, _, _, _, _, _, _, _, _, _, _, _, _, _, _, _, _, _, _, _, _, rfl, rfl, { H with f5 := fun _ => rfl }⟩
    · obtain rfl : b6 = false := ready_new hi
      obtain rfl : b5 = true := ready_dep (d := 5) hi (by kernel_rfl)
      obtain rfl := H.f5 rfl
      obtain ⟨y0, y1⟩ := cells2 H.box
      refine wpOp_run (o := _) rfl (fun K hK => ?_)
      go_simp
      refine hK _ _ ?_
      exact ⟨_, _, _, _, _, _, _, _, _, _, _, _, _, _, _, _, _, _, _, _, _, _, _, _, _, _, rfl, rfl, { H with f6 := fun _ => rfl }⟩
    · obtain rfl : b7 = false := ready_new hi
      obtain rfl : b6 = true := ready_dep (d := 6) hi (by kernel_rfl)
      obtain rfl := H.f6 rfl
      refine wpOp_run (o := _) rfl (fun K hK => ?_)
      go_simp
      refine hK _ _ ?_
      exact ⟨_, _, _, _, _, _, _, _, _, _, _, _, _, _, _, _, _, _, _, _, _, _, _, _, _, _, rfl, rfl, { H with f7 := fun _ => rfl }⟩
    · obtain rfl : b8 = false := ready_new hi
      obtain rfl : b7 = true := ready_dep (d := 7) hi (by kernel_rfl)
      obtain rfl := H.f7 rfl
      have hwn := IntWalk.i64_in ((n : Int) + 2) (by omega)
      refine wpOp_run (o := _) rfl (fun K hK => ?_)
      go_simp
      refine hK _ _ ?_
      exact ⟨_, _, _, _, _, _, _, _, _, _, _, _, _, _, _, _, _, _, _, _, _, _, _, _, _, _, rfl, rfl, { H with f8 := fun _ => rfl }⟩
    · obtain rfl : b9 = false := ready_new hi
      obtain rfl : b4 = true := ready_dep (d := 4) hi (by kernel_rfl)
      obtain rfl : b8 = true := ready_dep (d := 8) hi (by kernel_rfl)
      obtain rfl : b3 = true := ready_dep (d := 3) hi (by kernel_rfl)
      obtain rfl := H.f4 rfl
      obtain rfl := H.f8 rfl
      have hT := H.cnt
      have hW := l1Next_any (w.heap.size + 1) cn cc T ca l0 ((n : Int) + 2) w v (by omega) (by simp at hT; omega) hcn2 HB.out H.src
      refine wpOp_run (o := _) rfl (fun K hK => ?_)
      go_simp
      go_at_call 15
      refine hW.mono ?_
      rintro e v5 ⟨z, rfl, ⟨hz0, hz1⟩, hS5, hc5⟩
      have hz2 : z < (n : Int) + 2 := hz1 (by omega)
      go_simp
      refine hK _ _ ?_
      exact ⟨_, _, _, _, _, _, _, _, _, _, _, _, _, _, _, _, _, _, _, _, _, _, _, _, _, _, rfl, rfl, { (R5.drawn { H with f9 := fun _ => ⟨z, rfl, hz0, by omega⟩, cnt := Nat.le_trans hT (by simp) } ho hS5 hc5 (by simp at hT ⊢; omega)) with }⟩
    · obtain rfl : b10 = false := ready_new hi
      obtain rfl : b0 = true := ready_dep (d := 0) hi (by kernel_rfl)
      obtain rfl := H.f0 rfl
      obtain ⟨y0, y1⟩ := cells2 (H.f10 rfl)
      have g0 := Joins.unfrozen_of_block (H.f10 rfl) 0
      have g1 := Joins.unfrozen_of_block (H.f10 rfl) 1
      refine wpOp_run (o := _) rfl (fun K hK => ?_)
      go_simp
      refine hK _ _ ?_
      exact ⟨_, _, _, _, _, _, _, _, _, _, _, _, _, _, _, _, _, _, _, _, _, _, _, _, _, _, rfl, rfl, H.sto ho (Nat.le_refl _)⟩
    · obtain rfl : b11 = false := ready_new hi
      obtain rfl : b3 = true := ready_dep (d := 3) hi (by kernel_rfl)
      obtain ⟨z, e14, hz⟩ := H.f3 rfl
      subst e14
      refine wpOp_run (o := _) rfl (fun K hK => ?_)
      go_simp
      refine hK _ _ ?_
      exact ⟨_, _, _, _, _, _, _, _, _, _, _, _, _, _, _, _, _, _, _, _, _, _, _, _, _, _, rfl, rfl, { H with f11 := fun _ => ⟨z, rfl, hz⟩ }⟩
    · obtain rfl : b12 = false := ready_new hi
      obtain rfl : b9 = true := ready_dep (d := 9) hi (by kernel_rfl)
      obtain ⟨z, e20, hz⟩ := H.f9 rfl
      subst e20
      refine wpOp_run (o := _) rfl (fun K hK => ?_)
      go_simp
      refine hK _ _ ?_
      exact ⟨_, _, _, _, _, _, _, _, _, _, _, _, _, _, _, _, _, _, _, _, _, _, _, _, _, _, rfl, rfl, { H with f12 := fun _ => ⟨z, rfl, hz⟩ }⟩

end Go.Proofs.Ytapicejadjeejaa
