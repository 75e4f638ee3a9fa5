/- A ledger and a text are drawn. -/
import Derived.Test.YtapicejadjeejaaKb
import Derived.Test.YtapicejadjeejaaRv
import Derived.Laws.OwnMore
namespace Go.Proofs.Ytapicejadjeejaa
open Go.RowKit Go.Maps Go.WideMaps

theorem heap_set2k {W : World} {b c : Nat} (h : c ≠ b) (v0 v1 : Value) : ((W.setCell ⟨b, 0, none⟩ v0).setCell ⟨b, 1, none⟩ v1).heap[c]? = W.heap[c]? :=
  (Below.heap_setCell _ ⟨b, 1, none⟩ _ c h).trans (Below.heap_setCell _ ⟨b, 0, none⟩ _ c h)
theorem below_set2k {w W : World} {b B : Nat} (h : Below B w W) (hb : B ≤ b) (v0 v1 : Value) : Below B w ((W.setCell ⟨b, 0, none⟩ v0).setCell ⟨b, 1, none⟩ v1) :=
  (h.setCell (p := ⟨b, 0, none⟩) hb _).setCell (p := ⟨b, 1, none⟩) hb _
theorem row_set2k {W : World} {b base n size : Nat} {e : TypeId} {v : Value} {xs : List Value} (h : W.ownsRow base e size v n xs) (hb : b < base) (v0 v1 : Value) : ((W.setCell ⟨b, 0, none⟩ v0).setCell ⟨b, 1, none⟩ v1).ownsRow base e size v n xs :=
  ownsRow_setCell_below (ownsRow_setCell_below h (a := ⟨b, 0, none⟩) hb _) (a := ⟨b, 1, none⟩) hb _
theorem set2b {w : World} {b : Nat} {c0 c1 : Value} {t : TypeId} (h : w.heap[b]? = some (.cells #[c0, c1] t (0, 0))) (v0 v1 : Value) : ((w.setCell ⟨b, 0, none⟩ v0).setCell ⟨b, 1, none⟩ v1).heap[b]? = some (.cells #[v0, v1] t (0, 0)) := by
  have h1 : (w.setCell ⟨b, 0, none⟩ v0).heap[b]? = some (.cells #[v0, c1] t (0, 0)) := by
    have := Joins.block_setCell (i := 0) h v0
    simpa using this
  have := Joins.block_setCell (i := 1) h1 v1
  simpa using this
/-- What holds in the midst of the drawing, whatever has been done of it. -/
structure R3 (w : World) (SB : Nat) (ca : Option Addr) (cn cc RB LB base : Nat) (ta : Option Addr) (n tc : Nat) (ga : Option Addr) (m gc : Nat) (ss : List ByteArray) (gs : List (Int × Int)) (v : World) (T : Nat) (b0 b1 b2 b3 b4 b5 b6 b7 b8 b9 b10 b11 b12 : Bool) (x3 x10 x11 x12 x13 x14 x15 x16 x17 x18 x19 x20 : Value) : Prop where
  src : Src w v SB ca cn cc T
  cnt : T ≤ 23 + b2.toNat + b8.toNat
  box : v.heap[LB]? = some (.cells #[.slice ta n tc, .slice ga m gc] 27 (0, 0))
  rs : v.ownsRow base 9 1 (.slice ta n tc) n (ss.map Value.string)
  rg : v.ownsRow base 53 2 (.slice ga m gc) m (gcells gs)
  f0 : b0 = true → x10 = .agg #[.slice ta n tc, .slice ga m gc]
  f1 : b1 = true → x11 = .pointer (some ⟨SB, 0, none⟩)
  f2 : b2 = true → ∃ s : ByteArray, x12 = .string s ∧ s.size ≤ 301
  f3 : b3 = true → ∃ X, x13 = .slice (some ⟨X, 0, none⟩) 301 301 ∧ X ≠ SB ∧ v.heap[X]? = some (.cells (List.replicate 301 (Value.int .u8 0)).toArray 5 (0, 0))
  f4 : b4 = true → ∃ s : ByteArray, x14 = .string s ∧ s.size ≤ 301
  f5 : b5 = true → ∃ X, ∃ s1 s3 : ByteArray, x15 = .slice (some ⟨X, 0, none⟩) 4 4 ∧ X ≠ SB ∧ X ≠ RB ∧ s1.size ≤ 301 ∧ s3.size ≤ 301 ∧ v.heap[X]? = some (.cells #[.string ⟨#[]⟩, .string s1, .string ⟨#[110, 101, 119]⟩, .string s3] 9 (0, 0))
  f6 : b6 = true → x16 = .pointer (some ⟨SB, 0, none⟩)
  f7 : b7 = true → ∃ X, x17 = .slice (some ⟨X, 0, none⟩) 5 5 ∧ X ≠ SB ∧ v.heap[X]? = some (.cells #[.int .i64 1, .int .i64 1, .int .i64 2, .int .i64 0, .int .i64 3] 2 (0, 0))
  f8 : b8 = true → ∃ z : Nat, x18 = .int .i64 (z : Int) ∧ z < 4
  f9 : b9 = true → b5 = true ∧ b8 = true ∧ ∃ X, ∃ z : Nat, x15 = .slice (some ⟨X, 0, none⟩) 4 4 ∧ x19 = .pointer (some ⟨X, z, none⟩) ∧ z < 4
  f10 : b10 = true → ∃ s : ByteArray, x20 = .string s ∧ s.size ≤ 301
  f11 : b11 = false → v.heap[RB]? = some (.cells #[.slice none 0 0, .slice none 0 0] 27 (0, 0))
  g11 : b11 = true → v.heap[RB]? = some (.cells #[.slice ta n tc, .slice ga m gc] 27 (0, 0))
  f12 : b12 = true → ∃ s : ByteArray, x3 = .string s ∧ s.size ≤ 301
section
variable {w : World} {SB : Nat} {ca : Option Addr} {cn cc RB LB base : Nat} {ta : Option Addr} {n tc : Nat} {ga : Option Addr} {m gc : Nat} {ss : List ByteArray} {gs : List (Int × Int)} {v v2 : World} {T T2 : Nat} {b0 b1 b2 b3 b4 b5 b6 b7 b8 b9 b10 b11 b12 : Bool} {x3 x10 x11 x12 x13 x14 x15 x16 x17 x18 x19 x20 : Value}
theorem R3.mem (H : R3 w SB ca cn cc RB LB base ta n tc ga m gc ss gs v T b0 b1 b2 b3 b4 b5 b6 b7 b8 b9 b10 b11 b12 x3 x10 x11 x12 x13 x14 x15 x16 x17 x18 x19 x20) (hb : Below v.heap.size v v2) : R3 w SB ca cn cc RB LB base ta n tc ga m gc ss gs v2 T b0 b1 b2 b3 b4 b5 b6 b7 b8 b9 b10 b11 b12 x3 x10 x11 x12 x13 x14 x15 x16 x17 x18 x19 x20 where
  src := H.src.step hb
  cnt := H.cnt
  box := (keepb H.box hb).out
  rs := H.rs.kept (grown_of_below hb) (by cases Value.ownBlock (.slice ta n tc) <;> simp)
  rg := H.rg.kept (grown_of_below hb) (by cases Value.ownBlock (.slice ga m gc) <;> simp)
  f0 := H.f0
  f1 := H.f1
  f2 := H.f2
  f3 h := by obtain ⟨X, e, hX, hv⟩ := H.f3 h; exact ⟨X, e, hX, (keepb hv hb).out⟩
  f4 := H.f4
  f5 h := by obtain ⟨X, s1, s3, e, hX, hR, a1, a3, hv⟩ := H.f5 h; exact ⟨X, s1, s3, e, hX, hR, a1, a3, (keepb hv hb).out⟩
  f6 := H.f6
  f7 h := by obtain ⟨X, e, hX, hv⟩ := H.f7 h; exact ⟨X, e, hX, (keepb hv hb).out⟩
  f8 := H.f8
  f9 := H.f9
  f10 := H.f10
  f11 h := (keepb (H.f11 h) hb).out
  g11 h := (keepb (H.g11 h) hb).out
  f12 := H.f12
theorem R3.drawn (H : R3 w SB ca cn cc RB LB base ta n tc ga m gc ss gs v T b0 b1 b2 b3 b4 b5 b6 b7 b8 b9 b10 b11 b12 x3 x10 x11 x12 x13 x14 x15 x16 x17 x18 x19 x20) (ho : SB < base ∧ RB ≠ SB ∧ RB < base ∧ LB ≠ SB ∧ LB ≠ RB) (hS : Src w v2 SB ca cn cc T2) (hc : Chg v v2 SB (SB + 1)) (hT : T2 ≤ 23 + b2.toNat + b8.toNat) : R3 w SB ca cn cc RB LB base ta n tc ga m gc ss gs v2 T2 b0 b1 b2 b3 b4 b5 b6 b7 b8 b9 b10 b11 b12 x3 x10 x11 x12 x13 x14 x15 x16 x17 x18 x19 x20 where
  src := hS
  cnt := hT
  box := hc.keep1 H.box ho.2.2.2.1
  rs := hc.row1 H.rs ho.1
  rg := hc.row1 H.rg ho.1
  f0 := H.f0
  f1 := H.f1
  f2 := H.f2
  f3 h := by obtain ⟨X, e, hX, hv⟩ := H.f3 h; exact ⟨X, e, hX, hc.keep1 hv hX⟩
  f4 := H.f4
  f5 h := by obtain ⟨X, s1, s3, e, hX, hR, a1, a3, hv⟩ := H.f5 h; exact ⟨X, s1, s3, e, hX, hR, a1, a3, hc.keep1 hv hX⟩
  f6 := H.f6
  f7 h := by obtain ⟨X, e, hX, hv⟩ := H.f7 h; exact ⟨X, e, hX, hc.keep1 hv hX⟩
  f8 := H.f8
  f9 := H.f9
  f10 := H.f10
  f11 h := hc.keep1 (H.f11 h) ho.2.1
  g11 h := hc.keep1 (H.g11 h) ho.2.1
  f12 := H.f12
theorem R3.sto (H : R3 w SB ca cn cc RB LB base ta n tc ga m gc ss gs v T b0 b1 b2 b3 b4 b5 b6 b7 b8 b9 b10 false b12 x3 x10 x11 x12 x13 x14 x15 x16 x17 x18 x19 x20) (ho : SB < base ∧ RB ≠ SB ∧ RB < base ∧ LB ≠ SB ∧ LB ≠ RB) (hw : w.heap.size ≤ RB) : R3 w SB ca cn cc RB LB base ta n tc ga m gc ss gs ((v.setCell ⟨RB, 0, none⟩ (.slice ta n tc)).setCell ⟨RB, 1, none⟩ (.slice ga m gc)) T b0 b1 b2 b3 b4 b5 b6 b7 b8 b9 b10 true b12 x3 x10 x11 x12 x13 x14 x15 x16 x17 x18 x19 x20 where
  src := ⟨(heap_set2k (Ne.symm ho.2.1) _ _).trans H.src.box, below_set2k H.src.bel hw _ _, H.src.sb⟩
  cnt := H.cnt
  box := (heap_set2k ho.2.2.2.2 _ _).trans H.box
  rs := row_set2k H.rs ho.2.2.1 _ _
  rg := row_set2k H.rg ho.2.2.1 _ _
  f0 := H.f0
  f1 := H.f1
  f2 := H.f2
  f3 h := by
    obtain ⟨X, e, hX, hv⟩ := H.f3 h
    exact ⟨X, e, hX, (heap_set2k (fun e2 => by subst e2; rw [H.f11 rfl] at hv; exact absurd (Obj.cells.inj (Option.some.inj hv)).2.1 (by decide)) _ _).trans hv⟩
  f4 := H.f4
  f5 h := by obtain ⟨X, s1, s3, e, hX, hR, a1, a3, hv⟩ := H.f5 h; exact ⟨X, s1, s3, e, hX, hR, a1, a3, (heap_set2k hR _ _).trans hv⟩
  f6 := H.f6
  f7 h := by
    obtain ⟨X, e, hX, hv⟩ := H.f7 h
    exact ⟨X, e, hX, (heap_set2k (fun e2 => by subst e2; rw [H.f11 rfl] at hv; exact absurd (Obj.cells.inj (Option.some.inj hv)).2.1 (by decide)) _ _).trans hv⟩
  f8 := H.f8
  f9 := H.f9
  f10 := H.f10
  f11 h := by cases h
  g11 _ := set2b (H.f11 rfl) _ _
  f12 := H.f12
end
end Go.Proofs.Ytapicejadjeejaa
