/- A ledger and a text are drawn. -/
import Derived.Test.YtbpfbnmnpilgkaaKb
import Derived.Test.YtbpfbnmnpilgkaaRv
import Derived.Laws.OwnMore
namespace Go.Proofs.Ytbpfbnmnpilgkaa
open Go.RowKit Go.Maps Go.WideMaps

theorem heap_set2k {W : World} {b c : Nat} (h : c ≠ b) (v0 v1 : Value) : ((W.setCell ⟨b, 0, none⟩ v0).setCell ⟨b, 1, none⟩ v1).heap[c]? = W.heap[c]? :=
  (Below.heap_setCell _ ⟨b, 1, none⟩ _ c h).trans (Below.heap_setCell _ ⟨b, 0, none⟩ _ c h)
theorem below_set2k {w W : World} {b B : Nat} (h : Below B w W) (hb : B ≤ b) (v0 v1 : Value) : Below B w ((W.setCell ⟨b, 0, none⟩ v0).setCell ⟨b, 1, none⟩ v1) :=
  (h.setCell (p := ⟨b, 0, none⟩) hb _).setCell (p := ⟨b, 1, none⟩) hb _
theorem row_set2k {W : World} {b base n size : Nat} {e : TypeId} {v : Value} {xs : List Value} (h : W.ownsRow base e size v n xs) (hb : b < base) (v0 v1 : Value) : ((W.setCell ⟨b, 0, none⟩ v0).setCell ⟨b, 1, none⟩ v1).ownsRow base e size v n xs :=
  ownsRow_setCell_below (ownsRow_setCell_below h (a := ⟨b, 0, none⟩) hb _) (a := ⟨b, 1, none⟩) hb _
theorem set2b {w : World} {b : Nat} {c0 c1 : Value} {t : TypeId} (h : w.heap[b]? = some (.cells #[c0, c1] t (0, 0))) (v0 v1 : Value) : ((w.setCell ⟨b, 0, none⟩ v0).setCell ⟨b, 1, none⟩ v1).heap[b]? = some (.cells #[v0, v1] t (0, 0)) := by
  have h1 : (w.setCell ⟨b, 0, none⟩ v0).heap[b]? = some (.cells #[v0, c1] t (0, 0)) := by
    have := Joins.block_setCell (i := 0) h v0
    simpa using this
  have := Joins.block_setCell (i := 1) h1 v1
  simpa using this
/-- What holds in the midst of the drawing, whatever has been done of it. -/
structure R3 (w : World) (SB : Nat) (ca : Option Addr) (cn cc RB LB base : Nat) (ta : Option Addr) (n tc : Nat) (ga : Option Addr) (m gc : Nat) (ss : List ByteArray) (gs : List (Int × Int)) (v : World) (T : Nat) (b0 b1 b2 b3 b4 b5 b6 b7 b8 b9 b10 b11 b12 : Bool) (x3 x10 x11 x12 x13 x14 x15 x16 x17 x18 x19 x20 : Value) : Prop where
  src : Src w v SB ca cn cc T
  cnt : T ≤ 23 + b2.toNat + b8.toNat
  box : v.heap[LB]? = some (.cells #[.slice ta n tc, .slice ga m gc] 27 (0, 0))
  rs : v.ownsRow base 9 1 (.slice ta n tc) n (ss.map Value.string)
  rg : v.ownsRow base 64 2 (.slice ga m gc) m (gcells gs)
  f0 : b0 = true → x10 = .agg #[.slice ta n tc, .slice ga m gc]
  f1 : b1 = true → x11 = .pointer (some ⟨SB, 0, none⟩)
  f2 : b2 = true → ∃ s : ByteArray, x12 = .string s ∧ s.size ≤ 301
  f3 : b3 = true → ∃ X, x13 = .slice (some ⟨X, 0, none⟩) 301 301 ∧ X ≠ SB ∧ v.heap[X]? = some (.cells (List.replicate 301 (Value.int .u8 0)).toArray 5 (0, 0))
  f4 : b4 = true → ∃ s : ByteArray, x14 = .string s ∧ s.size ≤ 301
  f5 : b5 = true → ∃ X, ∃ s1 s3 : ByteArray, x15 = .slice (some ⟨X, 0, none⟩) 4 4 ∧ X ≠ SB ∧ X ≠ RB ∧ s1.size ≤ 301 ∧ s3.size ≤ 301 ∧ v.heap[X]? = some (.cells #[.string ⟨#[]⟩, .string s1, .string ⟨#[110, 101, 119]⟩, .string s3] 9 (0, 0))
  f6 : b6 = true → x16 = .pointer (some ⟨SB, 0, none⟩)
  f7 : b7 = true → ∃ X, x17 = .slice (some ⟨X, 0, none⟩) 5 5 ∧ X ≠ SB ∧ v.heap[X]? = some (.cells #[.int .i64 1, .int .i64 1, .int .i64 2, .int .i64 0, .int .i64 3] 2 (0, 0))
  f8 : b8 = true → ∃ z : Nat, x18 = .int .i64 (z : Int) ∧ z < 4
  f9 : b9 = true → b5 = true ∧ b8 = true ∧ ∃ X, ∃ z : Nat, x15 = .slice (some ⟨X, 0, none⟩) 4 4 ∧ x19 = .pointer (some ⟨X, z, none⟩) ∧ z < 4
  f10 : b10 = true → ∃ s : ByteArray, x20 = .string s ∧ s.size ≤ 301
  f11 : b11 = false → v.heap[RB]? = some (.cells #[.slice none 0 0, .slice none 0 0] 27 (0, 0))
  g11 : b11 = true → v.heap[RB]? = some (.cells #[.slice ta n tc, .slice ga m gc] 27 (0, 0))
  f12 : b12 = true → ∃ s : ByteArray, x3 = .string s ∧ s.size ≤ 301
section
variable {w : World} {SB : Nat} {ca : Option Addr} {cn cc RB LB base : Nat} {ta : Option Addr} {n tc : Nat} {ga : Option Addr} {m gc : Nat} {ss : List ByteArray} {gs : List (Int × Int)} {v v2 : World} {T T2 : Nat} {b0 b1 b2 b3 b4 b5 b6 b7 b8 b9 b10 b11 b12 : Bool} {x3 x10 x11 x12 x13 x14 x15 x16 x17 x18 x19 x20 : Value}
theorem R3.mem (H : R3 w SB ca cn cc RB LB base ta n tc ga m gc ss gs v T b0 b1 b2 b3 b4 b5 b6 b7 b8 b9 b10 b11 b12 x3 x10 x11 x12 x13 x14 x15 x16 x17 x18 x19 x20) (hb : Below v.heap.size v v2) : R3 w SB ca cn cc RB LB base ta n tc ga m gc ss gs v2 T b0 b1 b2 b3 b4 b5 b6 b7 b8 b9 b10 b11 b12 x3 x10 x11 x12 x13 x14 x15 x16 x17 x18 x19 x20 where
  src := H.src.step hb
  cnt := H.cnt
  box := (keepb H.box hb).out
  rs := H.rs.kept (grown_of_below hb) (by cases Value.ownBlock (.slice ta n tc) <;> simp)
  rg := H.rg.kept (grown_of_below hb) (by cases Value.ownBlock (.slice ga m gc) <;> simp)
  f0 := H.f0
  f1 := H.f1
  f2 := H.f2
  f3 h := by obtain ⟨X, e, hX, hv⟩ := H.f3 h; exact ⟨X, e, hX, (keepb hv hb).out⟩
  f4 := H.f4
  f5 h := by obtain ⟨X, s1, s3, e, hX, hR, a1, a3, hv⟩ := H.f5 h; exact ⟨X, s1, s3, e, hX, hR, a1, a3, (keepb hv hb).out⟩
  f6 := H.f6
  f7 h := by obtain ⟨X, e, hX, hv⟩ := H.f7 h; exact ⟨X, e, hX, (keepb hv hb).out⟩
  f8 := H.f8
  f9 := H.f9
  f10 := H.f10
  f11 h := (keepb (H.f11 h) hb).out
  g11 h := (keepb (H.g11 h) hb).out
  f12 := H.f12
theorem R3.drawn (H : R3 w SB ca cn cc RB LB base ta n tc ga m gc ss gs v T b0 b1 b2 b3 b4 b5 b6 b7 b8 b9 b10 b11 b12 x3 x10 x11 x12 x13 x14 x15 x16 x17 x18 x19 x20) (ho : SB < base ∧ RB ≠ SB ∧ RB < base ∧ LB ≠ SB ∧ LB ≠ RB) (hS : Src w v2 SB ca cn cc T2) (hc : Chg v v2 SB (SB + 1)) (hT : T2 ≤ 23 + b2.toNat + b8.toNat) : R3 w SB ca cn cc RB LB base ta n tc ga m gc ss gs v2 T2 b0 b1 b2 b3 b4 b5 b6 b7 b8 b9 b10 b11 b12 x3 x10 x11 x12 x13 x14 x15 x16 x17 x18 x19 x20 where
  src := hS
  cnt := hT
  box := hc.keep1 H.box ho.2.2.2.1
  rs := hc.row1 H.rs ho.1
  rg := hc.row1 H.rg ho.1
  f0 := H.f0
  f1 := H.f1
  f2 := H.f2
  f3 h := by obtain ⟨X, e, hX, hv⟩ := H.f3 h; exact ⟨X, e, hX, hc.keep1 hv hX⟩
  f4 := H.f4
  f5 h := by obtain ⟨X, s1, s3, e, hX, hR, a1, a3, hv⟩ := H.f5 h; exact ⟨X, s1, s3, e, hX, hR, a1, a3, hc.keep1 hv hX⟩
  f6 := H.f6
  f7 h := by obtain ⟨X, e, hX, hv⟩ := H.f7 h; exact ⟨X, e, hX, hc.keep1 hv hX⟩
  f8 := H.f8
  f9 := H.f9
  f10 := H.f10
  f11 h := hc.keep1 (H.f11 h) ho.2.1
  g11 h := hc.keep1 (H.g11 h) ho.2.1
  f12 := H.f12
theorem R3.sto (H : R3 w SB ca cn cc RB LB base ta n tc ga m gc ss gs v T b0 b1 b2 b3 b4 b5 b6 b7 b8 b9 b10 false b12 x3 x10 x11 x12 x13 x14 x15 x16 x17 x18 x19 x20) (ho : SB < base ∧ RB ≠ SB ∧ RB < base ∧ LB ≠ SB ∧ LB ≠ RB) (hw : w.heap.size ≤ RB) : R3 w SB ca cn cc RB LB base ta n tc ga m gc ss gs ((v.setCell ⟨RB, 0, none⟩ (.slice ta n tc)).setCell ⟨RB, 1, none⟩ (.slice ga m gc)) T b0 b1 b2 b3 b4 b5 b6 b7 b8 b9 b10 true b12 x3 x10 x11 x12 x13 x14 x15 x16 x17 x18 x19 x20 where
  src := ⟨(heap_set2k (Ne.symm ho.2.1) _ _).trans H.src.box, below_set2k H.src.bel hw _ _, H.src.sb⟩
  cnt := H.cnt
  box := (heap_set2k ho.2.2.2.2 _ _).trans H.box
  rs := row_set2k H.rs ho.2.2.1 _ _
  rg := row_set2k H.rg ho.2.2.1 _ _
  f0 := H.f0
  f1 := H.f1
  f2 := H.f2
  f3 h := by
    obtain ⟨X, e, hX, hv⟩ := H.f3 h
    exact ⟨X, e, hX, (heap_set2k (fun e2 => by subst e2; rw [H.f11 rfl] at hv; exact absurd (Obj.cells.inj (Option.some.inj hv)).2.1 (by decide)) _ _).trans hv⟩
  f4 := H.f4
  f5 h := by obtain ⟨X, s1, s3, e, hX, hR, a1, a3, hv⟩ := H.f5 h; exact ⟨X, s1, s3, e, hX, hR, a1, a3, (heap_set2k hR _ _).trans hv⟩
  f6 := H.f6
  f7 h := by
    obtain ⟨X, e, hX, hv⟩ := H.f7 h
    exact ⟨X, e, hX, (heap_set2k (fun e2 => by subst e2; rw [H.f11 rfl] at hv; exact absurd (Obj.cells.inj (Option.some.inj hv)).2.1 (by decide)) _ _).trans hv⟩
  f8 := H.f8
  f9 := H.f9
  f10 := H.f10
  f11 h := by cases h
  g11 _ := set2b (H.f11 rfl) _ _
  f12 := H.f12
end
theorem four_at {v : World} {X : Nat} {s1 s3 : ByteArray} (h : v.heap[X]? = some (.cells #[.string ⟨#[]⟩, .string s1, .string ⟨#[110, 101, 119]⟩, .string s3] 9 (0, 0))) (h1 : s1.size ≤ 301) (h3 : s3.size ≤ 301) (i : Nat) (hi : i < 4) : ∃ s : ByteArray, v.cell? ⟨X, i, none⟩ = some (.string s) ∧ s.size ≤ 301 := by
  match i, hi with
  | 0, _ => exact ⟨⟨#[]⟩, by unfold World.cell?; rw [h]; rfl, by decide⟩
  | 1, _ => exact ⟨s1, by unfold World.cell?; rw [h]; rfl, h1⟩
  | 2, _ => exact ⟨⟨#[110, 101, 119]⟩, by unfold World.cell?; rw [h]; rfl, by decide⟩
  | 3, _ => exact ⟨s3, by unfold World.cell?; rw [h]; rfl, h3⟩
theorem make301 (W : World) : (Instr.makeSlice 22 (.int .i64 301) (.int .i64 301)).run Try.prog W = .ok (.slice (some ⟨W.heap.size, 0, none⟩) 301 301) (W.alloc (.cells (List.replicate 301 (Value.int .u8 0)).toArray 5)) := by kernel_rfl
theorem conv_zeros {N : Nat} {v : World} {X : Nat} (h : v.heap[X]? = some (.cells (List.replicate N (Value.int .u8 0)).toArray 5 (0, 0))) : ∃ s : ByteArray, (convert 22 9 (.slice (some ⟨X, 0, none⟩) N N)).run Try.prog v = .ok (.string s) v ∧ s.size ≤ N := by
  have := run_convert_bytes_arg v 22 5 Try.underlying22 Try.underlying5 X 0 N N (List.replicate N (0 : Int)) (by simp) (fun i hi => by
    unfold World.cell?
    rw [h]
    simp [hi]) 9 Try.underlying9
  exact ⟨_, this, by simp [strOfNums, ByteArray.size]⟩
theorem conv301 {v : World} {X : Nat} (h : v.heap[X]? = some (.cells (List.replicate 301 (Value.int .u8 0)).toArray 5 (0, 0))) : ∃ s : ByteArray, (convert 22 9 (.slice (some ⟨X, 0, none⟩) 301 301)).run Try.prog v = .ok (.string s) v ∧ s.size ≤ 301 := conv_zeros h
theorem iat_blk5 {V : World} {X : Nat} (h : V.heap[X]? = some (.cells #[.int .i64 1, .int .i64 1, .int .i64 2, .int .i64 0, .int .i64 3] 2 (0, 0))) : IAt V (some ⟨X, 0, none⟩) 5 [1, 1, 2, 0, 3] := by
  refine ⟨rfl, .inr ⟨X, 0, rfl, lt_of_block h, fun j hj => ?_⟩⟩
  rw [Nat.zero_add]
  unfold World.cell?
  rw [h]
  match j, hj with
  | 0, _ => rfl
  | 1, _ => rfl
  | 2, _ => rfl
  | 3, _ => rfl
  | 4, _ => rfl

/-- A ledger and a text that are drawn, in new memory. -/
def OutNt (w w' : World) (e : Ending) : Prop :=
  ∃ ta n tc ga m gc ss gs, ∃ x : ByteArray, e = .returned (.tuple #[.agg #[.slice ta n tc, .slice ga m gc], .string x]) ∧ Hid (w'.ownsRow w.heap.size 9 1 (.slice ta n tc) n (ss.map Value.string)) ∧ Hid (w'.ownsRow w.heap.size 64 2 (.slice ga m gc) m (gcells gs)) ∧ Hid (Fine ss gs) ∧ n ≤ 61 ∧ m ≤ 121 ∧ x.size ≤ 301 ∧ Hid (Below w.heap.size w w')

set_option maxRecDepth 20000 in
set_option maxHeartbeats 8000000 in
theorem drawNote_any (cn cc : Nat) (ca : Option Addr) (l0 : List Int) (w : World) (hcn2 : cn ≤ 1048576) (hB : BAt w ca cn l0) :
    Calls Try.prog 5 #[.slice ca cn cc] w fun e w' => OutNt w w' e := by
  have HB : Hid (BAt w ca cn l0) := hB
  have hbx : Below w.heap.size w (w.alloc (.cells #[.slice none 0 0, .slice none 0 0] 27)) := below_box _
  have T0 : Hid ((w.alloc (.cells #[.slice none 0 0, .slice none 0 0] 27)).heap[w.heap.size]? = some (.cells #[.slice none 0 0, .slice none 0 0] 27 (0, 0))) := heap_alloc_new _ _
  have HBX : Hid (Below w.heap.size w (w.alloc (.cells #[.slice none 0 0, .slice none 0 0] 27))) := hbx
  have h1 := l1Source_any ca cn cc (w.alloc (.cells #[.slice none 0 0, .slice none 0 0] 27))
  clear hB hbx
  go_enter Try.func5, Try.ntmps5
  go_wp2_with (first
    | (go_at_call 11; (with_reducible refine h1.mono ?_); clear h1; rintro e v2 ⟨rfl, hS⟩; have HS2 : Hid (Src w v2 (w.heap.size + 1) ca cn cc 0) := (by have := hS.box; simp at this; exact ⟨this, HBX.out.trans (hS.bel.mono HBX.out.size), by omega⟩); have HR2 : Hid (v2.heap[w.heap.size]? = some (.cells #[.slice none 0 0, .slice none 0 0] 27 (0, 0))) := (hS.bel.block _ (by simp)).trans T0.out; have hsz2 : w.heap.size + 1 < v2.heap.size := HS2.out.lt; have h2 := l1Ledger_any (w.heap.size + 1) cn cc 0 ca l0 w v2 (by omega) hcn2 HB.out HS2.out; clear hS)
    | (go_at_call 12; (with_reducible refine h2.mono ?_); clear h2; rintro e v3 ⟨T3, ta, n, tc, ga, m, gc, ss, gs, rfl, hT3, HS3, HC3, HO3, HG3, HF3, hn61, hm121⟩))
  have ho : w.heap.size + 1 < v2.heap.size ∧ w.heap.size ≠ w.heap.size + 1 ∧ w.heap.size < v2.heap.size ∧ v3.heap.size ≠ w.heap.size + 1 ∧ v3.heap.size ≠ w.heap.size := by have := HC3.out.size; omega
  have hmk := make301
  refine wp_region_any (by kernel_rfl) ?_
  change wpAny _ _ _ _ _ _ _ (World.drew _)
  refine wpAny_inv (fun L a v => ∃ (T : Nat) (b0 b1 b2 b3 b4 b5 b6 b7 b8 b9 b10 b11 b12 : Bool) (x3 x10 x11 x12 x13 x14 x15 x16 x17 x18 x19 x20 : Value), L = #[b0, b1, b2, b3, b4, b5, b6, b7, b8, b9, b10, b11, b12] ∧ a = { tmps := #[.slice ca cn cc, undef, .pointer (some ⟨w.heap.size, 0, none⟩), x3, .pointer (some ⟨w.heap.size + 1, 0, none⟩), .pointer (some ⟨v3.heap.size, 0, none⟩), .slice ca cn cc, .pointer (some ⟨w.heap.size + 1, 0, none⟩), .pointer (some ⟨w.heap.size + 1, 0, none⟩), .agg #[.slice ta n tc, .slice ga m gc], x10, x11, x12, x13, x14, x15, x16, x17, x18, x19, x20], defers := [] } ∧ R3 w (w.heap.size + 1) ca cn cc w.heap.size v3.heap.size v2.heap.size ta n tc ga m gc ss gs v T b0 b1 b2 b3 b4 b5 b6 b7 b8 b9 b10 b11 b12 x3 x10 x11 x12 x13 x14 x15 x16 x17 x18 x19 x20) ?step ?done _ _ _ _ (by simp) ?start
  case start =>
    refine ⟨T3, false, false, false, false, false, false, false, false, false, false, false, false, false, .string ⟨#[]⟩, undef, undef, undef, undef, undef, undef, undef, undef, undef, undef, undef, rfl, rfl, ?_⟩
    have hb : Below v3.heap.size v3 (v3.alloc (.cells #[.slice ta n tc, .slice ga m gc] 27)).drew := (below_box _).drew
    have hR := HC3.out.keep1 HR2.out (by omega)
    exact { src := HS3.out.step hb, cnt := by simpa using hT3, box := heap_alloc_new _ _, rs := HO3.out.kept (grown_of_below hb) (by cases Value.ownBlock (.slice ta n tc) <;> simp), rg := HG3.out.kept (grown_of_below hb) (by cases Value.ownBlock (.slice ga m gc) <;> simp), f11 := fun _ => (keepb hR hb).out, f0 := fun h => (by cases h), f1 := fun h => (by cases h), f2 := fun h => (by cases h), f3 := fun h => (by cases h), f4 := fun h => (by cases h), f5 := fun h => (by cases h), f6 := fun h => (by cases h), f7 := fun h => (by cases h), f8 := fun h => (by cases h), f9 := fun h => (by cases h), f10 := fun h => (by cases h), g11 := fun h => (by cases h), f12 := fun h => (by cases h) }
  case done =>
    rintro L a v ⟨T, b0, b1, b2, b3, b4, b5, b6, b7, b8, b9, b10, b11, b12, x3, x10, x11, x12, x13, x14, x15, x16, x17, x18, x19, x20, rfl, rfl, H⟩ hr
    have hall := ready_all (by kernel_rfl) hr
    obtain rfl : b11 = true := hall 11 (by decide)
    obtain rfl : b12 = true := hall 12 (by decide)
    obtain ⟨s, e3, hs⟩ := H.f12 rfl
    subst e3
    obtain ⟨y0, y1⟩ := cells2 (H.g11 rfl)
    have hv2 := HC3.out.size
    have HF : Hid (OutNt w v (.returned (.tuple #[.agg #[.slice ta n tc, .slice ga m gc], .string s]))) := ⟨ta, n, tc, ga, m, gc, ss, gs, s, rfl, Joins.ownsRow_le H.rs (by omega), Joins.ownsRow_le H.rg (by omega), HF3, hn61, hm121, hs, H.src.bel⟩
    go_wp2
    exact bodyPost_ret (v := .tuple #[.agg #[.slice ta n tc, .slice ga m gc], .string s]) (by simp [results, Try.results5, go_sem, y0, y1]) rfl HF.out
  case step =>
    rintro L a v i ⟨T, b0, b1, b2, b3, b4, b5, b6, b7, b8, b9, b10, b11, b12, x3, x10, x11, x12, x13, x14, x15, x16, x17, x18, x19, x20, rfl, rfl, H⟩ hi
    have hlt : i < 13 := ready_lt hi
    obtain rfl | rfl | rfl | rfl | rfl | rfl | rfl | rfl | rfl | rfl | rfl | rfl | rfl : i = 0 ∨ i = 1 ∨ i = 2 ∨ i = 3 ∨ i = 4 ∨ i = 5 ∨ i = 6 ∨ i = 7 ∨ i = 8 ∨ i = 9 ∨ i = 10 ∨ i = 11 ∨ i = 12 := by omega
    · obtain rfl : b0 = false := ready_new hi
      obtain ⟨y0, y1⟩ := cells2 H.box
      refine wpOp_run (o := _) rfl (fun K hK => ?_)
      go_simp
      refine hK _ _ ?_
      exact ⟨_, _, _, _, _, _, _, _, _, _, _, _, _, _, _, _, _, _, _, _, _, _, _, _, _, _, rfl, rfl, { H with f0 := fun _ => rfl }⟩
    · obtain rfl : b1 = false := ready_new hi
      refine wpOp_run (o := _) rfl (fun K hK => ?_)
      go_simp
      refine hK _ _ ?_
      exact ⟨_, _, _, _, _, _, _, _, _, _, _, _, _, _, _, _, _, _, _, _, _, _, _, _, _, _, rfl, rfl, { H with f1 := fun _ => rfl }⟩
    · obtain rfl : b2 = false := ready_new hi
      obtain rfl : b1 = true := ready_dep (d := 1) hi (by kernel_rfl)
      obtain rfl := H.f1 rfl
      have hT := H.cnt
      have hW := l1Word_any (w.heap.size + 1) cn cc T ca l0 w v (by cases b8 <;> simp at hT <;> omega) hcn2 HB.out H.src
      refine wpOp_run (o := _) rfl (fun K hK => ?_)
      go_simp
      go_at_call 13
      refine hW.mono ?_
      rintro e v5 ⟨s, rfl, ⟨_, hs5⟩, hS5, hc5⟩
      go_simp
      refine hK _ _ ?_
      exact ⟨_, _, _, _, _, _, _, _, _, _, _, _, _, _, _, _, _, _, _, _, _, _, _, _, _, _, rfl, rfl, { (R3.drawn { H with f2 := fun _ => ⟨s, rfl, by omega⟩, cnt := Nat.le_trans hT (by simp) } ho hS5 hc5 (by simp at hT ⊢; omega)) with }⟩
    · obtain rfl : b3 = false := ready_new hi
      refine wpOp_run (o := _) rfl (fun K hK => ?_)
      go_simp
      refine hK _ _ ?_
      exact ⟨_, _, _, _, _, _, _, _, _, _, _, _, _, _, _, _, _, _, _, _, _, _, _, _, _, _, rfl, rfl, { (H.mem (below_box _)) with f3 := fun _ => ⟨v.heap.size, rfl, by have := H.src.lt; omega, heap_alloc_new _ _⟩ }⟩
    · obtain rfl : b4 = false := ready_new hi
      obtain rfl : b3 = true := ready_dep (d := 3) hi (by kernel_rfl)
      obtain ⟨X, e13, hX, hv⟩ := H.f3 rfl
      subst e13
      obtain ⟨s, hcv, hs⟩ := conv301 hv
      refine wpOp_run (o := _) rfl (fun K hK => ?_)
      go_simp
      refine hK _ _ ?_
      exact ⟨_, _, _, _, _, _, _, _, _, _, _, _, _, _, _, _, _, _, _, _, _, _, _, _, _, _, rfl, rfl, { H with f4 := fun _ => ⟨s, rfl, hs⟩ }⟩
    · obtain rfl : b5 = false := ready_new hi
      obtain rfl : b2 = true := ready_dep (d := 2) hi (by kernel_rfl)
      obtain rfl : b4 = true := ready_dep (d := 4) hi (by kernel_rfl)
      obtain ⟨s1, e12, hs1⟩ := H.f2 rfl
      obtain ⟨s3, e14, hs3⟩ := H.f4 rfl
      subst e12 e14
      refine wpOp_run (o := _) rfl (fun K hK => ?_)
      go_simp
      refine hK _ _ ?_
      exact ⟨_, _, _, _, _, _, _, _, _, _, _, _, _, _, _, _, _, _, _, _, _, _, _, _, _, _, rfl, rfl, { (H.mem (below_box _)) with f5 := fun _ => ⟨v.heap.size, s1, s3, rfl, by have := H.src.lt; omega, by have := H.src.lt; omega, hs1, hs3, heap_alloc_new _ _⟩, f9 := fun h9 => (by cases (H.f9 h9).1) }⟩
    · obtain rfl : b6 = false := ready_new hi
      refine wpOp_run (o := _) rfl (fun K hK => ?_)
      go_simp
      refine hK _ _ ?_
      exact ⟨_, _, _, _, _, _, _, _, _, _, _, _, _, _, _, _, _, _, _, _, _, _, _, _, _, _, rfl, rfl, { H with f6 := fun _ => rfl }⟩
    · obtain rfl : b7 = false := ready_new hi
      refine wpOp_run (o := _) rfl (fun K hK => ?_)
      go_simp
      refine hK _ _ ?_
      exact ⟨_, _, _, _, _, _, _, _, _, _, _, _, _, _, _, _, _, _, _, _, _, _, _, _, _, _, rfl, rfl, { (H.mem (below_box _)) with f7 := fun _ => ⟨v.heap.size, rfl, by have := H.src.lt; omega, heap_alloc_new _ _⟩ }⟩
    · obtain rfl : b8 = false := ready_new hi
      obtain rfl : b6 = true := ready_dep (d := 6) hi (by kernel_rfl)
      obtain rfl : b7 = true := ready_dep (d := 7) hi (by kernel_rfl)
      obtain rfl : b2 = true := ready_dep (d := 2) hi (by kernel_rfl)
      obtain rfl := H.f6 rfl
      obtain ⟨X, e17, hX, hv⟩ := H.f7 rfl
      subst e17
      have hT := H.cnt
      have hW := l1Pick_any (w.heap.size + 1) cn cc T 5 5 ca (some ⟨X, 0, none⟩) l0 [1, 1, 2, 0, 3] w v (by omega) (by omega) (by simp at hT; omega) hcn2 HB.out H.src (iat_blk5 hv) (fun b off e => by cases e; exact hX)
      refine wpOp_run (o := _) rfl (fun K hK => ?_)
      go_simp
      go_at_call 14
      refine hW.mono ?_
      rintro e v5 ⟨z, rfl, hz, hS5, hc5⟩
      obtain ⟨k, hk, rfl⟩ : ∃ k : Nat, k < 4 ∧ z = (k : Int) := by simp at hz; rcases hz with rfl | rfl | rfl | rfl <;> first | exact ⟨1, by omega, rfl⟩ | exact ⟨2, by omega, rfl⟩ | exact ⟨0, by omega, rfl⟩ | exact ⟨3, by omega, rfl⟩
      go_simp
      refine hK _ _ ?_
      exact ⟨_, _, _, _, _, _, _, _, _, _, _, _, _, _, _, _, _, _, _, _, _, _, _, _, _, _, rfl, rfl, { (R3.drawn { H with f8 := fun _ => ⟨k, rfl, hk⟩, f9 := fun h9 => (by cases (H.f9 h9).2.1), cnt := Nat.le_trans hT (by simp) } ho hS5 hc5 (by simp at hT ⊢; omega)) with }⟩
    · obtain rfl : b9 = false := ready_new hi
      obtain rfl : b5 = true := ready_dep (d := 5) hi (by kernel_rfl)
      obtain rfl : b8 = true := ready_dep (d := 8) hi (by kernel_rfl)
      obtain ⟨X, s1, s3, e15, hX, hR, h1, h3, hv⟩ := H.f5 rfl
      obtain ⟨z, e18, hz⟩ := H.f8 rfl
      subst e15 e18
      have hz4 : (z : Int) < 4 := by omega
      have hz0 : z < 4 := hz
      refine wpOp_run (o := _) rfl (fun K hK => ?_)
      go_simp
      refine hK _ _ ?_
      exact ⟨_, _, _, _, _, _, _, _, _, _, _, _, _, _, _, _, _, _, _, _, _, _, _, _, _, _, rfl, rfl, { H with f9 := fun _ => ⟨rfl, rfl, X, z, rfl, rfl, hz⟩ }⟩
    · obtain rfl : b10 = false := ready_new hi
      obtain rfl : b9 = true := ready_dep (d := 9) hi (by kernel_rfl)
      obtain ⟨h5, h8, X, z, e15, e19, hz⟩ := H.f9 rfl
      subst e19 e15
      obtain ⟨X2, s1, s3, e15b, hX, hR, h1, h3, hv⟩ := H.f5 h5
      cases e15b
      obtain ⟨s, hs, hsz⟩ := four_at hv h1 h3 z hz
      refine wpOp_run (o := _) rfl (fun K hK => ?_)
      go_simp
      refine hK _ _ ?_
      exact ⟨_, _, _, _, _, _, _, _, _, _, _, _, _, _, _, _, _, _, _, _, _, _, _, _, _, _, rfl, rfl, { H with f10 := fun _ => ⟨s, rfl, hsz⟩ }⟩
    · obtain rfl : b11 = false := ready_new hi
      obtain rfl : b0 = true := ready_dep (d := 0) hi (by kernel_rfl)
      obtain rfl := H.f0 rfl
      obtain ⟨y0, y1⟩ := cells2 (H.f11 rfl)
      have g0 := Joins.unfrozen_of_block (H.f11 rfl) 0
      have g1 := Joins.unfrozen_of_block (H.f11 rfl) 1
      refine wpOp_run (o := _) rfl (fun K hK => ?_)
      go_simp
      refine hK _ _ ?_
      exact ⟨_, _, _, _, _, _, _, _, _, _, _, _, _, _, _, _, _, _, _, _, _, _, _, _, _, _, rfl, rfl, H.sto ho (Nat.le_refl _)⟩
    · obtain rfl : b12 = false := ready_new hi
      obtain rfl : b10 = true := ready_dep (d := 10) hi (by kernel_rfl)
      obtain ⟨s, e20, hs⟩ := H.f10 rfl
      subst e20
      refine wpOp_run (o := _) rfl (fun K hK => ?_)
      go_simp
      refine hK _ _ ?_
      exact ⟨_, _, _, _, _, _, _, _, _, _, _, _, _, _, _, _, _, _, _, _, _, _, _, _, _, _, rfl, rfl, { H with f12 := fun _ => ⟨s, rfl, hs⟩ }⟩

end Go.Proofs.Ytbpfbnmnpilgkaa
