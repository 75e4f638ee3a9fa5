/- A ledger, a rule and two numbers are drawn. -/
import Derived.Test.YtajkihmefpbofaaGreatDoorKb
import Derived.Test.YtajkihmefpbofaaGreatDoorCc
namespace Go.Proofs.YtajkihmefpbofaaGreatDoor
open Go.RowKit Go.Shelf Go.Maps Go.WideMaps

theorem heap_set2m {W : World} {b c : Nat} (h : c ≠ b) (v0 v1 : Value) : ((W.setCell ⟨b, 0, none⟩ v0).setCell ⟨b, 1, none⟩ v1).heap[c]? = W.heap[c]? :=
  (Below.heap_setCell _ ⟨b, 1, none⟩ _ c h).trans (Below.heap_setCell _ ⟨b, 0, none⟩ _ c h)
theorem set2m {w : World} {b : Nat} {c0 c1 : Value} {t : TypeId} (h : w.heap[b]? = some (.cells #[c0, c1] t (0, 0))) (v0 v1 : Value) : ((w.setCell ⟨b, 0, none⟩ v0).setCell ⟨b, 1, none⟩ v1).heap[b]? = some (.cells #[v0, v1] t (0, 0)) := by
  have h1 : (w.setCell ⟨b, 0, none⟩ v0).heap[b]? = some (.cells #[v0, c1] t (0, 0)) := by
    have := Joins.block_setCell (i := 0) h v0
    simpa using this
  have := Joins.block_setCell (i := 1) h1 v1
  simpa using this
theorem set3m {w : World} {b : Nat} {c0 c1 c2 : Value} {t : TypeId} (h : w.heap[b]? = some (.cells #[c0, c1, c2] t (0, 0))) (v0 v1 v2 : Value) : (((w.setCell ⟨b, 0, none⟩ v0).setCell ⟨b, 1, none⟩ v1).setCell ⟨b, 2, none⟩ v2).heap[b]? = some (.cells #[v0, v1, v2] t (0, 0)) := by
  have h1 : (w.setCell ⟨b, 0, none⟩ v0).heap[b]? = some (.cells #[v0, c1, c2] t (0, 0)) := by
    have := Joins.block_setCell (i := 0) h v0
    simpa using this
  have h2 : ((w.setCell ⟨b, 0, none⟩ v0).setCell ⟨b, 1, none⟩ v1).heap[b]? = some (.cells #[v0, v1, c2] t (0, 0)) := by
    have := Joins.block_setCell (i := 1) h1 v1
    simpa using this
  have := Joins.block_setCell (i := 2) h2 v2
  simpa using this
/-- What holds in the midst of the drawing, whatever has been done of it. -/
structure RM (w : World) (SB : Nat) (ca : Option Addr) (cn cc R0 R1 LB base : Nat) (ta : Option Addr) (n tc : Nat) (ga : Option Addr) (m gc : Nat) (ss : List ByteArray) (gs : List (Int × Int)) (V : World) (T : Nat) (b0 b1 b2 b3 b4 b5 b6 b7 b8 b9 b10 b11 b12 b13 b14 b15 b16 b17 : Bool) (x4 x5 x12 x13 x14 x15 x16 x17 x18 x19 x20 x21 x22 x23 x24 x25 : Value) : Prop where
  src : Src w V SB ca cn cc T
  cnt : T ≤ 23 + 9 * b2.toNat + b8.toNat + b11.toNat + b13.toNat
  box : V.heap[LB]? = some (.cells #[.slice ta n tc, .slice ga m gc] 27 (0, 0))
  rs : V.ownsRow base 9 1 (.slice ta n tc) n (ss.map Value.string)
  rg : V.ownsRow base 83 2 (.slice ga m gc) m (gcells gs)
  f0 : b0 = true → x12 = .agg #[.slice ta n tc, .slice ga m gc]
  f1 : b1 = true → x13 = .pointer (some ⟨SB, 0, none⟩)
  f2 : b2 = true → ∃ (l : List Int) (x y : Int) (va : Option Addr) (vc : Nat), x14 = .agg #[.slice va l.length vc, .int .i64 x, .int .i64 y] ∧ V.ownsRow base 2 1 (.slice va l.length vc) l.length (ints l) ∧ KRB l x y
  f3 : b3 = true → x15 = .pointer (some ⟨SB, 0, none⟩)
  f4 : b4 = true → x16 = .pointer (some ⟨LB, 0, none⟩)
  f5 : b5 = true → x17 = .slice ta n tc
  f6 : b6 = true → x18 = .int .i64 (n : Int)
  f7 : b7 = true → x19 = .int .i64 ((n : Int) + 2)
  f8 : b8 = true → ∃ z : Int, x20 = .int .i64 z ∧ 0 ≤ z ∧ z ≤ 100
  f9 : b9 = true → x21 = .pointer (some ⟨SB, 0, none⟩)
  f10 : b10 = true → x22 = .pointer (some ⟨SB, 0, none⟩)
  f11 : b11 = true → ∃ z : Int, x23 = .int .i64 z ∧ 0 ≤ z ∧ z ≤ 11
  f12 : b12 = true → ∃ (A : Nat) (z : Int), x24 = .slice (some ⟨A, 0, none⟩) 5 5 ∧ SB < A ∧ V.heap[A]? = some (.cells #[.int .i64 z, .int .i64 9, .int .i64 999, .int .i64 1000, .int .i64 (-1)] 2 (0, 0)) ∧ 0 ≤ z ∧ z ≤ 11
  f13 : b13 = true → ∃ z : Int, x25 = .int .i64 z ∧ -1 ≤ z ∧ z ≤ 1000
  f14 : b14 = false → V.heap[R0]? = some (.cells #[.slice none 0 0, .slice none 0 0] 27 (0, 0))
  g14 : b14 = true → V.heap[R0]? = some (.cells #[.slice ta n tc, .slice ga m gc] 27 (0, 0))
  f15 : b15 = false → V.heap[R1]? = some (.cells #[.slice none 0 0, .int .i64 0, .int .i64 0] 30 (0, 0))
  g15 : b15 = true → ∃ (l : List Int) (x y : Int) (va : Option Addr) (vc : Nat), V.heap[R1]? = some (.cells #[.slice va l.length vc, .int .i64 x, .int .i64 y] 30 (0, 0)) ∧ V.ownsRow base 2 1 (.slice va l.length vc) l.length (ints l) ∧ KRB l x y
  f16 : b16 = true → ∃ z : Int, x4 = .int .i64 z ∧ 0 ≤ z ∧ z ≤ 100
  f17 : b17 = true → ∃ z : Int, x5 = .int .i64 z ∧ -1 ≤ z ∧ z ≤ 1000
section
variable {w : World} {SB : Nat} {ca : Option Addr} {cn cc R0 R1 LB base : Nat} {ta : Option Addr} {n tc : Nat} {ga : Option Addr} {m gc : Nat} {ss : List ByteArray} {gs : List (Int × Int)} {V V2 : World} {T T2 : Nat} {b0 b1 b2 b3 b4 b5 b6 b7 b8 b9 b10 b11 b12 b13 b14 b15 b16 b17 : Bool} {x4 x5 x12 x13 x14 x15 x16 x17 x18 x19 x20 x21 x22 x23 x24 x25 : Value}
theorem RM.mem (H : RM w SB ca cn cc R0 R1 LB base ta n tc ga m gc ss gs V T b0 b1 b2 b3 b4 b5 b6 b7 b8 b9 b10 b11 b12 b13 b14 b15 b16 b17 x4 x5 x12 x13 x14 x15 x16 x17 x18 x19 x20 x21 x22 x23 x24 x25) (hb : Below V.heap.size V V2) : RM w SB ca cn cc R0 R1 LB base ta n tc ga m gc ss gs V2 T b0 b1 b2 b3 b4 b5 b6 b7 b8 b9 b10 b11 b12 b13 b14 b15 b16 b17 x4 x5 x12 x13 x14 x15 x16 x17 x18 x19 x20 x21 x22 x23 x24 x25 :=
  { H with
    src := H.src.step hb, box := (keepb H.box hb).out, rs := H.rs.kept (grown_of_below hb) (by cases Value.ownBlock (.slice ta n tc) <;> simp), rg := H.rg.kept (grown_of_below hb) (by cases Value.ownBlock (.slice ga m gc) <;> simp)
    f2 := fun h => by obtain ⟨l, x, y, va, vc, e, hr, hk⟩ := H.f2 h; exact ⟨l, x, y, va, vc, e, hr.kept (grown_of_below hb) (by cases Value.ownBlock (.slice va l.length vc) <;> simp), hk⟩
    f12 := fun h => by obtain ⟨A, z, e, hA, hv, hz⟩ := H.f12 h; exact ⟨A, z, e, hA, (keepb hv hb).out, hz⟩
    f14 := fun h => (keepb (H.f14 h) hb).out, g14 := fun h => (keepb (H.g14 h) hb).out, f15 := fun h => (keepb (H.f15 h) hb).out
    g15 := fun h => by obtain ⟨l, x, y, va, vc, e, hr, hk⟩ := H.g15 h; exact ⟨l, x, y, va, vc, (keepb e hb).out, hr.kept (grown_of_below hb) (by cases Value.ownBlock (.slice va l.length vc) <;> simp), hk⟩ }
theorem RM.drawn (H : RM w SB ca cn cc R0 R1 LB base ta n tc ga m gc ss gs V T b0 b1 b2 b3 b4 b5 b6 b7 b8 b9 b10 b11 b12 b13 b14 b15 b16 b17 x4 x5 x12 x13 x14 x15 x16 x17 x18 x19 x20 x21 x22 x23 x24 x25) (ho : SB < base ∧ R0 < SB ∧ R1 < SB ∧ SB < LB) (hS : Src w V2 SB ca cn cc T2) (hc : Chg V V2 SB (SB + 1)) (hT : T2 ≤ 23 + 9 * b2.toNat + b8.toNat + b11.toNat + b13.toNat) : RM w SB ca cn cc R0 R1 LB base ta n tc ga m gc ss gs V2 T2 b0 b1 b2 b3 b4 b5 b6 b7 b8 b9 b10 b11 b12 b13 b14 b15 b16 b17 x4 x5 x12 x13 x14 x15 x16 x17 x18 x19 x20 x21 x22 x23 x24 x25 :=
  { H with
    src := hS, cnt := hT, box := hc.keep1 H.box (by omega), rs := hc.row1 H.rs ho.1, rg := hc.row1 H.rg ho.1
    f2 := fun h => by obtain ⟨l, x, y, va, vc, e, hr, hk⟩ := H.f2 h; exact ⟨l, x, y, va, vc, e, hc.row1 hr ho.1, hk⟩
    f12 := fun h => by obtain ⟨A, z, e, hA, hv, hz⟩ := H.f12 h; exact ⟨A, z, e, hA, hc.keep1 hv (by omega), hz⟩
    f14 := fun h => hc.keep1 (H.f14 h) (by omega), g14 := fun h => hc.keep1 (H.g14 h) (by omega), f15 := fun h => hc.keep1 (H.f15 h) (by omega)
    g15 := fun h => by obtain ⟨l, x, y, va, vc, e, hr, hk⟩ := H.g15 h; exact ⟨l, x, y, va, vc, hc.keep1 e (by omega), hc.row1 hr ho.1, hk⟩ }
theorem RM.ruled {l : List Int} {x y : Int} {va : Option Addr} {vc : Nat} (H : RM w SB ca cn cc R0 R1 LB base ta n tc ga m gc ss gs V T b0 b1 false b3 b4 b5 b6 b7 b8 b9 b10 b11 b12 b13 b14 b15 b16 b17 x4 x5 x12 x13 x14 x15 x16 x17 x18 x19 x20 x21 x22 x23 x24 x25) (ho : SB < base ∧ R0 < SB ∧ R1 < SB ∧ SB < LB) (hS : Src w V2 SB ca cn cc T2) (hc : Chg V V2 SB (SB + 1)) (hT : T2 ≤ 23 + 9 * true.toNat + b8.toNat + b11.toNat + b13.toNat) (hR : V2.ownsRow base 2 1 (.slice va l.length vc) l.length (ints l)) (hk : KRB l x y) : RM w SB ca cn cc R0 R1 LB base ta n tc ga m gc ss gs V2 T2 b0 b1 true b3 b4 b5 b6 b7 b8 b9 b10 b11 b12 b13 b14 b15 b16 b17 x4 x5 x12 x13 (.agg #[.slice va l.length vc, .int .i64 x, .int .i64 y]) x15 x16 x17 x18 x19 x20 x21 x22 x23 x24 x25 :=
  { H with
    src := hS, cnt := hT, box := hc.keep1 H.box (by omega), rs := hc.row1 H.rs ho.1, rg := hc.row1 H.rg ho.1
    f2 := fun _ => ⟨l, x, y, va, vc, rfl, hR, hk⟩
    f12 := fun h => by obtain ⟨A, z, e, hA, hv, hz⟩ := H.f12 h; exact ⟨A, z, e, hA, hc.keep1 hv (by omega), hz⟩
    f14 := fun h => hc.keep1 (H.f14 h) (by omega), g14 := fun h => hc.keep1 (H.g14 h) (by omega), f15 := fun h => hc.keep1 (H.f15 h) (by omega)
    g15 := fun h => by obtain ⟨l, x, y, va, vc, e, hr, hk⟩ := H.g15 h; exact ⟨l, x, y, va, vc, hc.keep1 e (by omega), hc.row1 hr ho.1, hk⟩ }
theorem RM.sto0 (H : RM w SB ca cn cc R0 R1 LB base ta n tc ga m gc ss gs V T b0 b1 b2 b3 b4 b5 b6 b7 b8 b9 b10 b11 b12 b13 false b15 b16 b17 x4 x5 x12 x13 x14 x15 x16 x17 x18 x19 x20 x21 x22 x23 x24 x25) (ho : SB < base ∧ R0 < SB ∧ R1 < SB ∧ SB < LB) (hw : w.heap.size ≤ R0) (h01 : R0 < R1) : RM w SB ca cn cc R0 R1 LB base ta n tc ga m gc ss gs ((V.setCell ⟨R0, 0, none⟩ (.slice ta n tc)).setCell ⟨R0, 1, none⟩ (.slice ga m gc)) T b0 b1 b2 b3 b4 b5 b6 b7 b8 b9 b10 b11 b12 b13 true b15 b16 b17 x4 x5 x12 x13 x14 x15 x16 x17 x18 x19 x20 x21 x22 x23 x24 x25 :=
  have q : ∀ c, c ≠ R0 → ((V.setCell ⟨R0, 0, none⟩ (.slice ta n tc)).setCell ⟨R0, 1, none⟩ (.slice ga m gc)).heap[c]? = V.heap[c]? := fun c hc => heap_set2m hc _ _
  have qr : ∀ {e : TypeId} {s k : Nat} {u : Value} {xs : List Value}, V.ownsRow base e s u k xs → ((V.setCell ⟨R0, 0, none⟩ (.slice ta n tc)).setCell ⟨R0, 1, none⟩ (.slice ga m gc)).ownsRow base e s u k xs := fun h => ownsRow_setCell_below (ownsRow_setCell_below h (a := ⟨R0, 0, none⟩) (show R0 < base by omega) _) (a := ⟨R0, 1, none⟩) (show R0 < base by omega) _
  { H with
    src := ⟨(q SB (by omega)).trans H.src.box, (H.src.bel.setCell (p := ⟨R0, 0, none⟩) hw _).setCell (p := ⟨R0, 1, none⟩) hw _, H.src.sb⟩, box := (q LB (by omega)).trans H.box, rs := qr H.rs, rg := qr H.rg
    f2 := fun h => by obtain ⟨l, x, y, va, vc, e, hr, hk⟩ := H.f2 h; exact ⟨l, x, y, va, vc, e, qr hr, hk⟩
    f12 := fun h => by obtain ⟨A, z, e, hA, hv, hz⟩ := H.f12 h; exact ⟨A, z, e, hA, (q A (by omega)).trans hv, hz⟩
    f14 := nofun, g14 := fun _ => set2m (H.f14 rfl) _ _, f15 := fun h => (q R1 (by omega)).trans (H.f15 h)
    g15 := fun h => by obtain ⟨l, x, y, va, vc, e, hr, hk⟩ := H.g15 h; exact ⟨l, x, y, va, vc, (q R1 (by omega)).trans e, qr hr, hk⟩ }
theorem RM.sto1 {l : List Int} {x y : Int} {va : Option Addr} {vc : Nat} (H : RM w SB ca cn cc R0 R1 LB base ta n tc ga m gc ss gs V T b0 b1 b2 b3 b4 b5 b6 b7 b8 b9 b10 b11 b12 b13 b14 false b16 b17 x4 x5 x12 x13 x14 x15 x16 x17 x18 x19 x20 x21 x22 x23 x24 x25) (hR : V.ownsRow base 2 1 (.slice va l.length vc) l.length (ints l) ∧ KRB l x y) (ho : SB < base ∧ R0 < SB ∧ R1 < SB ∧ SB < LB) (hw : w.heap.size ≤ R0) (h01 : R0 < R1) : RM w SB ca cn cc R0 R1 LB base ta n tc ga m gc ss gs (((V.setCell ⟨R1, 0, none⟩ (.slice va l.length vc)).setCell ⟨R1, 1, none⟩ (.int .i64 x)).setCell ⟨R1, 2, none⟩ (.int .i64 y)) T b0 b1 b2 b3 b4 b5 b6 b7 b8 b9 b10 b11 b12 b13 b14 true b16 b17 x4 x5 x12 x13 x14 x15 x16 x17 x18 x19 x20 x21 x22 x23 x24 x25 :=
  have q : ∀ c, c ≠ R1 → (((V.setCell ⟨R1, 0, none⟩ (.slice va l.length vc)).setCell ⟨R1, 1, none⟩ (.int .i64 x)).setCell ⟨R1, 2, none⟩ (.int .i64 y)).heap[c]? = V.heap[c]? := fun c hc => three_heapK hc _ _ _
  have qr : ∀ {e : TypeId} {s k : Nat} {u : Value} {xs : List Value}, V.ownsRow base e s u k xs → (((V.setCell ⟨R1, 0, none⟩ (.slice va l.length vc)).setCell ⟨R1, 1, none⟩ (.int .i64 x)).setCell ⟨R1, 2, none⟩ (.int .i64 y)).ownsRow base e s u k xs := fun h => ownsRow_setCell_below (ownsRow_setCell_below (ownsRow_setCell_below h (a := ⟨R1, 0, none⟩) (show R1 < base by omega) _) (a := ⟨R1, 1, none⟩) (show R1 < base by omega) _) (a := ⟨R1, 2, none⟩) (show R1 < base by omega) _
  have hw1 : w.heap.size ≤ R1 := by omega
  { H with
    src := ⟨(q SB (by omega)).trans H.src.box, ((H.src.bel.setCell (p := ⟨R1, 0, none⟩) hw1 _).setCell (p := ⟨R1, 1, none⟩) hw1 _).setCell (p := ⟨R1, 2, none⟩) hw1 _, H.src.sb⟩, box := (q LB (by omega)).trans H.box, rs := qr H.rs, rg := qr H.rg
    f2 := fun h => by obtain ⟨l, x, y, va, vc, e, hr, hk⟩ := H.f2 h; exact ⟨l, x, y, va, vc, e, qr hr, hk⟩
    f12 := fun h => by obtain ⟨A, z, e, hA, hv, hz⟩ := H.f12 h; exact ⟨A, z, e, hA, (q A (by omega)).trans hv, hz⟩
    f14 := fun h => (q R0 (by omega)).trans (H.f14 h), g14 := fun h => (q R0 (by omega)).trans (H.g14 h), f15 := nofun
    g15 := fun _ => ⟨l, x, y, va, vc, set3m (H.f15 rfl) _ _ _, qr hR.1, hR.2⟩ }
end
theorem iat_blkM {V : World} {A : Nat} {z : Int} (h : V.heap[A]? = some (.cells #[.int .i64 z, .int .i64 9, .int .i64 999, .int .i64 1000, .int .i64 (-1)] 2 (0, 0))) : IAt V (some ⟨A, 0, none⟩) 5 [z, 9, 999, 1000, -1] := by
  refine ⟨rfl, .inr ⟨A, 0, rfl, lt_of_block h, fun j hj => ?_⟩⟩
  rw [Nat.zero_add]
  unfold World.cell?
  rw [h]
  match j, hj with
  | 0, _ => rfl
  | 1, _ => rfl
  | 2, _ => rfl
  | 3, _ => rfl
  | 4, _ => rfl
/-- A ledger, a rule and two numbers that are drawn, in new memory. -/
def OutRm (w w' : World) (e : Ending) : Prop :=
  ∃ (ta : Option Addr) (n tc : Nat) (ga : Option Addr) (m gc : Nat) (ss : List ByteArray) (gs : List (Int × Int)) (l : List Int) (x y : Int) (va : Option Addr) (vc : Nat) (id h : Int), e = .returned (.tuple #[.agg #[.slice ta n tc, .slice ga m gc], .agg #[.slice va l.length vc, .int .i64 x, .int .i64 y], .int .i64 id, .int .i64 h]) ∧ Hid (w'.ownsRow w.heap.size 9 1 (.slice ta n tc) n (ss.map Value.string)) ∧ Hid (w'.ownsRow w.heap.size 83 2 (.slice ga m gc) m (gcells gs)) ∧ Hid (Fine ss gs) ∧ n ≤ 61 ∧ m ≤ 121 ∧ Hid (w'.ownsRow w.heap.size 2 1 (.slice va l.length vc) l.length (ints l)) ∧ Hid (KRB l x y) ∧ (0 ≤ id ∧ id ≤ 100) ∧ (-1 ≤ h ∧ h ≤ 1000) ∧ Hid (Below w.heap.size w w')

set_option maxRecDepth 20000 in
set_option maxHeartbeats 8000000 in
theorem drawRm_any (cn cc : Nat) (ca : Option Addr) (l0 : List Int) (w : World) (hcn2 : cn ≤ 1048576) (hB : BAt w ca cn l0) :
    Calls Tryz.prog 5 #[.slice ca cn cc] w fun e w' => OutRm w w' e := by
  have HB : Hid (BAt w ca cn l0) := hB
  have hbx : Below w.heap.size w ((w.alloc (.cells #[.slice none 0 0, .slice none 0 0] 27)).alloc (.cells #[.slice none 0 0, .int .i64 0, .int .i64 0] 30)) := below_box2 _ _
  have T0 : Hid (((w.alloc (.cells #[.slice none 0 0, .slice none 0 0] 27)).alloc (.cells #[.slice none 0 0, .int .i64 0, .int .i64 0] 30)).heap[w.heap.size]? = some (.cells #[.slice none 0 0, .slice none 0 0] 27 (0, 0))) := block_at2
  have T1 : Hid (((w.alloc (.cells #[.slice none 0 0, .slice none 0 0] 27)).alloc (.cells #[.slice none 0 0, .int .i64 0, .int .i64 0] 30)).heap[w.heap.size + 1]? = some (.cells #[.slice none 0 0, .int .i64 0, .int .i64 0] 30 (0, 0))) := heap_alloc_at _ _ _ (by simp)
  have HBX : Hid (Below w.heap.size w ((w.alloc (.cells #[.slice none 0 0, .slice none 0 0] 27)).alloc (.cells #[.slice none 0 0, .int .i64 0, .int .i64 0] 30))) := hbx
  have h1 := l1Source_any ca cn cc ((w.alloc (.cells #[.slice none 0 0, .slice none 0 0] 27)).alloc (.cells #[.slice none 0 0, .int .i64 0, .int .i64 0] 30))
  clear hB hbx
  go_enter Tryz.func5, Tryz.ntmps5
  go_wp2_with (first
    | (go_at_call 16; (with_reducible refine h1.mono ?_); clear h1; rintro e v2 ⟨rfl, hS⟩; have HS2 : Hid (Src w v2 (w.heap.size + 1 + 1) ca cn cc 0) := (by have := hS.box; simp at this; exact ⟨this, HBX.out.trans (hS.bel.mono HBX.out.size), by omega⟩); have HR2 : Hid (v2.heap[w.heap.size]? = some (.cells #[.slice none 0 0, .slice none 0 0] 27 (0, 0))) := (hS.bel.block _ (by simp; omega)).trans T0.out; have HQ2 : Hid (v2.heap[w.heap.size + 1]? = some (.cells #[.slice none 0 0, .int .i64 0, .int .i64 0] 30 (0, 0))) := (hS.bel.block _ (by simp)).trans T1.out; have hsz2 : w.heap.size + 1 + 1 < v2.heap.size := HS2.out.lt; have h2 := l1Ledger_any (w.heap.size + 1 + 1) cn cc 0 ca l0 w v2 (by omega) hcn2 HB.out HS2.out; clear hS)
    | (go_at_call 17; (with_reducible refine h2.mono ?_); clear h2; rintro e v3 ⟨T3, ta, n, tc, ga, m, gc, ss, gs, rfl, hT3, HS3, HC3, HO3, HG3, HF3, hn61, hm121⟩))
  obtain ⟨SB, hSB⟩ : ∃ z, z = w.heap.size + 1 + 1 := ⟨_, rfl⟩
  obtain ⟨R1, hR1⟩ : ∃ z, z = w.heap.size + 1 := ⟨_, rfl⟩
  have ho : SB < v2.heap.size ∧ w.heap.size < SB ∧ R1 < SB ∧ SB < v3.heap.size := by have := HC3.out.size; omega
  have h01 : w.heap.size < R1 := by omega
  refine wp_region_any (by kernel_rfl) ?_
  change wpAny _ _ _ _ _ _ _ (World.drew _)
  rw [← hSB] at HS3 HC3
  rw [← hR1] at HQ2
  have hvs := HC3.out.size
  have HSBe : Hid (SB = w.heap.size + 1 + 1) := hSB
  have HR1e : Hid (R1 = w.heap.size + 1) := hR1
  have ho2 := ho
  obtain rfl := hSB
  obtain rfl := hR1
  refine wpAny_inv (fun L a V => ∃ (T : Nat) (b0 b1 b2 b3 b4 b5 b6 b7 b8 b9 b10 b11 b12 b13 b14 b15 b16 b17 : Bool) (x4 x5 x12 x13 x14 x15 x16 x17 x18 x19 x20 x21 x22 x23 x24 x25 : Value), L = #[b0, b1, b2, b3, b4, b5, b6, b7, b8, b9, b10, b11, b12, b13, b14, b15, b16, b17] ∧ a = { tmps := #[.slice ca cn cc, undef, .pointer (some ⟨w.heap.size, 0, none⟩), .pointer (some ⟨w.heap.size + 1, 0, none⟩), x4, x5, .pointer (some ⟨w.heap.size + 1 + 1, 0, none⟩), .pointer (some ⟨v3.heap.size, 0, none⟩), .slice ca cn cc, .pointer (some ⟨w.heap.size + 1 + 1, 0, none⟩), .pointer (some ⟨w.heap.size + 1 + 1, 0, none⟩), .agg #[.slice ta n tc, .slice ga m gc], x12, x13, x14, x15, x16, x17, x18, x19, x20, x21, x22, x23, x24, x25], defers := [] } ∧ RM w (w.heap.size + 1 + 1) ca cn cc w.heap.size (w.heap.size + 1) v3.heap.size v2.heap.size ta n tc ga m gc ss gs V T b0 b1 b2 b3 b4 b5 b6 b7 b8 b9 b10 b11 b12 b13 b14 b15 b16 b17 x4 x5 x12 x13 x14 x15 x16 x17 x18 x19 x20 x21 x22 x23 x24 x25) ?step ?done _ _ _ _ (by simp) ?start
  case start =>
    refine ⟨T3, false, false, false, false, false, false, false, false, false, false, false, false, false, false, false, false, false, false, .int .i64 0, .int .i64 0, undef, undef, undef, undef, undef, undef, undef, undef, undef, undef, undef, undef, undef, undef, rfl, rfl, ?_⟩
    have hb : Below v3.heap.size v3 (v3.alloc (.cells #[.slice ta n tc, .slice ga m gc] 27)).drew := (below_box _).drew
    exact { src := HS3.out.step hb, cnt := by simpa using hT3, box := heap_alloc_new _ _, rs := HO3.out.kept (grown_of_below hb) (by cases Value.ownBlock (.slice ta n tc) <;> simp), rg := HG3.out.kept (grown_of_below hb) (by cases Value.ownBlock (.slice ga m gc) <;> simp), f14 := fun _ => (keepb (HC3.out.keep1 HR2.out (by omega)) hb).out, f15 := fun _ => (keepb (HC3.out.keep1 HQ2.out (by omega)) hb).out, f0 := nofun, f1 := nofun, f2 := nofun, f3 := nofun, f4 := nofun, f5 := nofun, f6 := nofun, f7 := nofun, f8 := nofun, f9 := nofun, f10 := nofun, f11 := nofun, f12 := nofun, f13 := nofun, f16 := nofun, f17 := nofun, g14 := nofun, g15 := nofun }
  case done =>
    rintro L a V ⟨T, b0, b1, b2, b3, b4, b5, b6, b7, b8, b9, b10, b11, b12, b13, b14, b15, b16, b17, x4, x5, x12, x13, x14, x15, x16, x17, x18, x19, x20, x21, x22, x23, x24, x25, rfl, rfl, H⟩ hr
    have hall := ready_all (by kernel_rfl) hr
    obtain rfl : b14 = true := hall 14 (by decide)
    obtain rfl : b15 = true := hall 15 (by decide)
    obtain rfl : b16 = true := hall 16 (by decide)
    obtain rfl : b17 = true := hall 17 (by decide)
    obtain ⟨id, e4, hid⟩ := H.f16 rfl
    obtain ⟨hh, e5, hhh⟩ := H.f17 rfl
    subst e4 e5
    obtain ⟨l, x, y, va, vc, hq, hrow, hk⟩ := H.g15 rfl
    obtain ⟨y0, y1⟩ := cells2 (H.g14 rfl)
    obtain ⟨z0, z1, z2⟩ := cells3 hq
    have HF : Hid (OutRm w V (.returned (.tuple #[.agg #[.slice ta n tc, .slice ga m gc], .agg #[.slice va l.length vc, .int .i64 x, .int .i64 y], .int .i64 id, .int .i64 hh]))) := ⟨ta, n, tc, ga, m, gc, ss, gs, l, x, y, va, vc, id, hh, rfl, Joins.ownsRow_le H.rs (by omega), Joins.ownsRow_le H.rg (by omega), HF3, hn61, hm121, Joins.ownsRow_le hrow (by omega), hk, hid, hhh, H.src.bel⟩
    go_wp2
    exact bodyPost_ret (v := .tuple #[.agg #[.slice ta n tc, .slice ga m gc], .agg #[.slice va l.length vc, .int .i64 x, .int .i64 y], .int .i64 id, .int .i64 hh]) (by simp [results, Tryz.results5, go_sem, y0, y1, z0, z1, z2]) rfl HF.out
  case step =>
    rintro L a V i ⟨T, b0, b1, b2, b3, b4, b5, b6, b7, b8, b9, b10, b11, b12, b13, b14, b15, b16, b17, x4, x5, x12, x13, x14, x15, x16, x17, x18, x19, x20, x21, x22, x23, x24, x25, rfl, rfl, H⟩ hi
    have hlt : i < 18 := ready_lt hi
    obtain rfl | rfl | rfl | rfl | rfl | rfl | rfl | rfl | rfl | rfl | rfl | rfl | rfl | rfl | rfl | rfl | rfl | rfl : i = 0 ∨ i = 1 ∨ i = 2 ∨ i = 3 ∨ i = 4 ∨ i = 5 ∨ i = 6 ∨ i = 7 ∨ i = 8 ∨ i = 9 ∨ i = 10 ∨ i = 11 ∨ i = 12 ∨ i = 13 ∨ i = 14 ∨ i = 15 ∨ i = 16 ∨ i = 17 := by omega
    · obtain rfl : b0 = false := ready_new hi
      obtain ⟨y0, y1⟩ := cells2 H.box
      refine wpOp_run (o := _) rfl (fun K hK => ?_)
      go_simp
      refine hK _ _ ?_
      exact ⟨_, _, _, _, _, _, _, _, _, _, _, _, _, _, _, _, _, _, _, _, _, _, _, _, _, _, _, _, _, _, _, _, _, _, _, rfl, rfl, { H with f0 := fun _ => rfl }⟩
    · obtain rfl : b1 = false := ready_new hi
      refine wpOp_run (o := _) rfl (fun K hK => ?_)
      go_simp
      refine hK _ _ ?_
      exact ⟨_, _, _, _, _, _, _, _, _, _, _, _, _, _, _, _, _, _, _, _, _, _, _, _, _, _, _, _, _, _, _, _, _, _, _, rfl, rfl, { H with f1 := fun _ => rfl }⟩
    · obtain rfl : b2 = false := ready_new hi
      obtain rfl : b1 = true := ready_dep (d := 1) hi (by kernel_rfl)
      obtain rfl := H.f1 rfl
      have hT := H.cnt
      have hW := l2Bent_any (w.heap.size + 1 + 1) cn cc T ca l0 w V (by cases b8 <;> cases b11 <;> cases b13 <;> simp at hT <;> omega) hcn2 HB.out H.src
      refine wpOp_run (o := _) rfl (fun K hK => ?_)
      go_simp
      go_at_call 18
      refine hW.mono ?_
      rintro e v5 ⟨l, x, y, va, vc, t5, rfl, HO5, HK5, ht5, HS5, HC5⟩
      go_simp
      refine hK _ _ ?_
      have hbv : v2.heap.size ≤ V.heap.size := Nat.le_of_lt (Nat.lt_of_le_of_lt hvs (lt_of_block H.box))
      exact ⟨_, _, _, _, _, _, _, _, _, _, _, _, _, _, _, _, _, _, _, _, _, _, _, _, _, _, _, _, _, _, _, _, _, _, _, rfl, rfl, H.ruled ho HS5.out HC5.out (by revert hT; cases b8 <;> cases b11 <;> cases b13 <;> simp <;> omega) (Joins.ownsRow_le HO5.out hbv) HK5.out⟩
    · obtain rfl : b3 = false := ready_new hi
      refine wpOp_run (o := _) rfl (fun K hK => ?_)
      go_simp
      refine hK _ _ ?_
      exact ⟨_, _, _, _, _, _, _, _, _, _, _, _, _, _, _, _, _, _, _, _, _, _, _, _, _, _, _, _, _, _, _, _, _, _, _, rfl, rfl, { H with f3 := fun _ => rfl }⟩
    · obtain rfl : b4 = false := ready_new hi
      refine wpOp_run (o := _) rfl (fun K hK => ?_)
      go_simp
      refine hK _ _ ?_
      exact ⟨_, _, _, _, _, _, _, _, _, _, _, _, _, _, _, _, _, _, _, _, _, _, _, _, _, _, _, _, _, _, _, _, _, _, _, rfl, rfl, { H with f4 := fun _ => rfl }⟩
    · obtain rfl : b5 = false := ready_new hi
      obtain rfl : b4 = true := ready_dep (d := 4) hi (by kernel_rfl)
      obtain rfl := H.f4 rfl
      obtain ⟨y0, y1⟩ := cells2 H.box
      refine wpOp_run (o := _) rfl (fun K hK => ?_)
      go_simp
      refine hK _ _ ?_
      exact ⟨_, _, _, _, _, _, _, _, _, _, _, _, _, _, _, _, _, _, _, _, _, _, _, _, _, _, _, _, _, _, _, _, _, _, _, rfl, rfl, { H with f5 := fun _ => rfl }⟩
    · obtain rfl : b6 = false := ready_new hi
      obtain rfl : b5 = true := ready_dep (d := 5) hi (by kernel_rfl)
      obtain rfl := H.f5 rfl
      refine wpOp_run (o := _) rfl (fun K hK => ?_)
      go_simp
      refine hK _ _ ?_
      exact ⟨_, _, _, _, _, _, _, _, _, _, _, _, _, _, _, _, _, _, _, _, _, _, _, _, _, _, _, _, _, _, _, _, _, _, _, rfl, rfl, { H with f6 := fun _ => rfl }⟩
    · obtain rfl : b7 = false := ready_new hi
      obtain rfl : b6 = true := ready_dep (d := 6) hi (by kernel_rfl)
      obtain rfl := H.f6 rfl
      have wn : IntKind.i64.wrap ((n : Int) + 2) = (n : Int) + 2 := IntWalk.i64_in _ (by omega)
      refine wpOp_run (o := _) rfl (fun K hK => ?_)
      go_simp
      refine hK _ _ ?_
      exact ⟨_, _, _, _, _, _, _, _, _, _, _, _, _, _, _, _, _, _, _, _, _, _, _, _, _, _, _, _, _, _, _, _, _, _, _, rfl, rfl, { H with f7 := fun _ => rfl }⟩
    · obtain rfl : b8 = false := ready_new hi
      obtain rfl : b3 = true := ready_dep (d := 3) hi (by kernel_rfl)
      obtain rfl : b7 = true := ready_dep (d := 7) hi (by kernel_rfl)
      obtain rfl := H.f3 rfl
      obtain rfl := H.f7 rfl
      have hT := H.cnt
      have hW := l1Next_any (w.heap.size + 1 + 1) cn cc T ca l0 ((n : Int) + 2) w V (by omega) (by have := H.cnt; revert this; cases b2 <;> cases b11 <;> cases b13 <;> simp <;> omega) hcn2 HB.out H.src
      refine wpOp_run (o := _) rfl (fun K hK => ?_)
      go_simp
      go_at_call 19
      refine hW.mono ?_
      rintro e v5 ⟨z, rfl, ⟨z0, z1⟩, hS5, hc5⟩
      have z2 : z < ((n : Int) + 2) := z1 (by omega)
      go_simp
      refine hK _ _ ?_
      exact ⟨_, _, _, _, _, _, _, _, _, _, _, _, _, _, _, _, _, _, _, _, _, _, _, _, _, _, _, _, _, _, _, _, _, _, _, rfl, rfl, { (RM.drawn { H with f8 := fun _ => ⟨z, rfl, by omega, by omega⟩, cnt := by simp at hT ⊢; omega } ho hS5 hc5 (by simp at hT ⊢; omega)) with }⟩
    · obtain rfl : b9 = false := ready_new hi
      refine wpOp_run (o := _) rfl (fun K hK => ?_)
      go_simp
      refine hK _ _ ?_
      exact ⟨_, _, _, _, _, _, _, _, _, _, _, _, _, _, _, _, _, _, _, _, _, _, _, _, _, _, _, _, _, _, _, _, _, _, _, rfl, rfl, { H with f9 := fun _ => rfl }⟩
    · obtain rfl : b10 = false := ready_new hi
      refine wpOp_run (o := _) rfl (fun K hK => ?_)
      go_simp
      refine hK _ _ ?_
      exact ⟨_, _, _, _, _, _, _, _, _, _, _, _, _, _, _, _, _, _, _, _, _, _, _, _, _, _, _, _, _, _, _, _, _, _, _, rfl, rfl, { H with f10 := fun _ => rfl }⟩
    · obtain rfl : b11 = false := ready_new hi
      obtain rfl : b10 = true := ready_dep (d := 10) hi (by kernel_rfl)
      obtain rfl := H.f10 rfl
      have hT := H.cnt
      have hW := l1Next_any (w.heap.size + 1 + 1) cn cc T ca l0 12 w V (by omega) (by have := H.cnt; revert this; cases b2 <;> cases b8 <;> cases b13 <;> simp <;> omega) hcn2 HB.out H.src
      refine wpOp_run (o := _) rfl (fun K hK => ?_)
      go_simp
      go_at_call 19
      refine hW.mono ?_
      rintro e v5 ⟨z, rfl, ⟨z0, z1⟩, hS5, hc5⟩
      have z2 : z < 12 := z1 (by omega)
      go_simp
      refine hK _ _ ?_
      exact ⟨_, _, _, _, _, _, _, _, _, _, _, _, _, _, _, _, _, _, _, _, _, _, _, _, _, _, _, _, _, _, _, _, _, _, _, rfl, rfl, { (RM.drawn { H with f11 := fun _ => ⟨z, rfl, by omega, by omega⟩, cnt := by simp at hT ⊢; omega } ho hS5 hc5 (by simp at hT ⊢; omega)) with }⟩
    · obtain rfl : b12 = false := ready_new hi
      obtain rfl : b11 = true := ready_dep (d := 11) hi (by kernel_rfl)
      obtain ⟨z, e23, z0, z1⟩ := H.f11 rfl
      subst e23
      refine wpOp_run (o := _) rfl (fun K hK => ?_)
      go_simp
      refine hK _ _ ?_
      exact ⟨_, _, _, _, _, _, _, _, _, _, _, _, _, _, _, _, _, _, _, _, _, _, _, _, _, _, _, _, _, _, _, _, _, _, _, rfl, rfl, { (H.mem (below_box _)) with f12 := fun _ => ⟨V.heap.size, z, rfl, by have := H.src.lt; omega, heap_alloc_new _ _, z0, z1⟩ }⟩
    · obtain rfl : b13 = false := ready_new hi
      obtain rfl : b9 = true := ready_dep (d := 9) hi (by kernel_rfl)
      obtain rfl : b12 = true := ready_dep (d := 12) hi (by kernel_rfl)
      obtain rfl := H.f9 rfl
      obtain ⟨A, z, e24, hA, hv, z0, z1⟩ := H.f12 rfl
      subst e24
      have hT := H.cnt
      have hW := l1Pick_any (w.heap.size + 1 + 1) cn cc T 5 5 ca (some ⟨A, 0, none⟩) l0 [z, 9, 999, 1000, -1] w V (by omega) (by omega) (by have := H.cnt; revert this; cases b2 <;> cases b8 <;> cases b11 <;> simp <;> omega) hcn2 HB.out H.src (iat_blkM hv) (fun b off e => by cases e; omega)
      refine wpOp_run (o := _) rfl (fun K hK => ?_)
      go_simp
      go_at_call 20
      refine hW.mono ?_
      rintro e v5 ⟨q, rfl, hq, hS5, hc5⟩
      have hq2 : -1 ≤ q ∧ q ≤ 1000 := by simp only [List.mem_cons, List.not_mem_nil, or_false] at hq; omega
      go_simp
      refine hK _ _ ?_
      exact ⟨_, _, _, _, _, _, _, _, _, _, _, _, _, _, _, _, _, _, _, _, _, _, _, _, _, _, _, _, _, _, _, _, _, _, _, rfl, rfl, { (RM.drawn { H with f13 := fun _ => ⟨q, rfl, hq2⟩, cnt := by simp at hT ⊢; omega } ho hS5 hc5 (by simp at hT ⊢; omega)) with }⟩
    · obtain rfl : b14 = false := ready_new hi
      obtain rfl : b0 = true := ready_dep (d := 0) hi (by kernel_rfl)
      obtain rfl := H.f0 rfl
      obtain ⟨y0, y1⟩ := cells2 (H.f14 rfl)
      have g0 := Joins.unfrozen_of_block (H.f14 rfl) 0
      have g1 := Joins.unfrozen_of_block (H.f14 rfl) 1
      refine wpOp_run (o := _) rfl (fun K hK => ?_)
      go_simp
      refine hK _ _ ?_
      exact ⟨_, _, _, _, _, _, _, _, _, _, _, _, _, _, _, _, _, _, _, _, _, _, _, _, _, _, _, _, _, _, _, _, _, _, _, rfl, rfl, H.sto0 ho (Nat.le_refl _) h01⟩
    · obtain rfl : b15 = false := ready_new hi
      obtain rfl : b2 = true := ready_dep (d := 2) hi (by kernel_rfl)
      obtain ⟨l, x, y, va, vc, e14, hrow, hk⟩ := H.f2 rfl
      subst e14
      obtain ⟨y0, y1, y2⟩ := cells3 (H.f15 rfl)
      have g0 := Joins.unfrozen_of_block (H.f15 rfl) 0
      have g1 := Joins.unfrozen_of_block (H.f15 rfl) 1
      have g2 := Joins.unfrozen_of_block (H.f15 rfl) 2
      refine wpOp_run (o := _) rfl (fun K hK => ?_)
      go_simp
      refine hK _ _ ?_
      exact ⟨_, _, _, _, _, _, _, _, _, _, _, _, _, _, _, _, _, _, _, _, _, _, _, _, _, _, _, _, _, _, _, _, _, _, _, rfl, rfl, H.sto1 ⟨hrow, hk⟩ ho (Nat.le_refl _) h01⟩
    · obtain rfl : b16 = false := ready_new hi
      obtain rfl : b8 = true := ready_dep (d := 8) hi (by kernel_rfl)
      obtain ⟨z, e, hz⟩ := H.f8 rfl
      subst e
      refine wpOp_run (o := _) rfl (fun K hK => ?_)
      go_simp
      refine hK _ _ ?_
      exact ⟨_, _, _, _, _, _, _, _, _, _, _, _, _, _, _, _, _, _, _, _, _, _, _, _, _, _, _, _, _, _, _, _, _, _, _, rfl, rfl, { H with f16 := fun _ => ⟨z, rfl, hz⟩ }⟩
    · obtain rfl : b17 = false := ready_new hi
      obtain rfl : b13 = true := ready_dep (d := 13) hi (by kernel_rfl)
      obtain ⟨z, e, hz⟩ := H.f13 rfl
      subst e
      refine wpOp_run (o := _) rfl (fun K hK => ?_)
      go_simp
      refine hK _ _ ?_
      exact ⟨_, _, _, _, _, _, _, _, _, _, _, _, _, _, _, _, _, _, _, _, _, _, _, _, _, _, _, _, _, _, _, _, _, _, _, rfl, rfl, { H with f17 := fun _ => ⟨z, rfl, hz⟩ }⟩

end Go.Proofs.YtajkihmefpbofaaGreatDoor
