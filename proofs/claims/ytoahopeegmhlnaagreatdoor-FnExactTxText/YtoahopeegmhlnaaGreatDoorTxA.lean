/- Refs that come in: their size is told, they are copied, two lists are compared. Outs that come in: their size is told, they are copied, two lists are compared. Outs and transactions that come in are copied into new memory. Lists of outs that come in are copied into new memory. Transactions that come in: two are compared, their size is told, they are copied. Transactions that come in are copied into new memory. -/
import Derived.Test.YtoahopeegmhlnaaGreatDoorRu
import Derived.Test.YtoahopeegmhlnaaGreatDoorCp
namespace Go.Proofs.YtoahopeegmhlnaaGreatDoor
open Go.RowKit Go.Maps

theorem Tryz.infoRef : (Tryz.prog.info? 61).map (fun i => (i.zero, i.size, i.bytes)) = some (some (.agg #[.int .i64 0, .int .i64 0]), 2, 16) := by kernel_rfl

theorem szRf_any (a : Option Addr) (n cap : Nat) (left : Int) (w : World) (h0 : 0 ≤ left) (h1 : left ≤ 1048576) (hl : n ≤ maxLen) :
    Calls Tryz.prog 10 #[.slice a n cap, .int .i64 left] w fun e w' => ∃ r : Int, e = .returned (.int .i64 r) ∧ w' = w ∧ SzG n left r := by
  unfold maxLen at hl
  by_cases hn : left < n
  · go_enter Tryz.func10, Tryz.ntmps10
    go_wp2
    go_ret
    exact ⟨_, rfl, rfl, Or.inl rfl⟩
  · go_enter Tryz.func10, Tryz.ntmps10
    go_wp2
    go_ret
    exact ⟨_, rfl, rfl, Or.inr ⟨by omega, by omega, by omega⟩⟩

theorem toRef_any (a b : Int) (w : World) : Calls Tryz.prog 30 #[.agg #[.int .i64 a, .int .i64 b]] w fun e w' => e = .returned (.agg #[.int .i64 a, .int .i64 b]) ∧ Below w.heap.size w w' := by
  go_enter Tryz.func30, Tryz.ntmps30
  go_wp2
  refine bodyPost_ret (v := .agg #[.int .i64 a, .int .i64 b]) (by simp [results, Tryz.results30, go_sem]) rfl ⟨rfl, ?_⟩
  exact (((Below.refl _ _).alloc (Nat.le_refl _) _).alloc (by simp) _).alloc (by simp; omega) _

/-- What a round of the refs' copy leaves. -/
theorem toRf_round {wr w2 : World} {B n k : Nat} {gs : List (Int × Int)} {g1 g2 : Int} (hg : (g1, g2) = gs.getD k G0) (hlt : k < n)
    (h : ∃ xs, wr.ownsRow B 61 2 (.slice (some ⟨B, 0, none⟩) n n) n xs ∧ ∀ j, j < k → xs[j * 2]? = some (.int .i64 (gs.getD j G0).1) ∧ xs[j * 2 + 1]? = some (.int .i64 (gs.getD j G0).2)) (hb : Below wr.heap.size wr w2) :
    ∃ u0 u1, w2.cell? ⟨B, k * 2, none⟩ = some u0 ∧ w2.cell? ⟨B, k * 2 + 1, none⟩ = some u1 ∧ w2.frozen? ⟨B, k * 2, none⟩ = false ∧ w2.frozen? ⟨B, k * 2 + 1, none⟩ = false ∧
      Hid (∃ xs, ((w2.setCell ⟨B, k * 2, none⟩ (.int .i64 g1)).setCell ⟨B, k * 2 + 1, none⟩ (.int .i64 g2)).ownsRow B 61 2 (.slice (some ⟨B, 0, none⟩) n n) n xs ∧ ∀ j, j < k + 1 → xs[j * 2]? = some (.int .i64 (gs.getD j G0).1) ∧ xs[j * 2 + 1]? = some (.int .i64 (gs.getD j G0).2)) := by
  obtain ⟨xs, hown0, hxs⟩ := h
  have hown := hown0.kept (w' := w2) (row := none) ⟨hb.os, hb.tape, hb.output, hb.size, fun k hk _ => hb.block k hk⟩ (by simp [Value.ownBlock])
  have hxl := hown.1
  have r1 := (hown.stored (k * 2) (.int .i64 g1)).1
  have r2 := (r1.stored (k * 2 + 1) (.int .i64 g2)).1
  refine ⟨_, _, (hown.cellAt (k * 2) (by omega)).trans (List.getElem?_eq_getElem (by omega)), (hown.cellAt (k * 2 + 1) (by omega)).trans (List.getElem?_eq_getElem (by omega)), hown.frozenAt _, hown.frozenAt _, _, r2, fun j hj => ?_⟩
  by_cases e : k = j
  · subst e
    rw [← hg]
    constructor
    · rw [List.getElem?_set_ne (by omega), List.getElem?_set_self (by omega)]
    · rw [List.getElem?_set_self (by simp; omega)]
  · have := hxs j (by omega)
    constructor
    · rw [List.getElem?_set_ne (by omega), List.getElem?_set_ne (by omega)]; exact this.1
    · rw [List.getElem?_set_ne (by omega), List.getElem?_set_ne (by omega)]; exact this.2

set_option maxHeartbeats 400000 in
theorem toRf_any (a : Option Addr) (n cap : Nat) (gs : List (Int × Int)) (w : World) (hl : n ≤ 1048576) (hs : GAt w a n gs) :
    Calls Tryz.prog 14 #[.slice a n cap] w fun e w' => ∃ g c, e = .returned (.slice (some ⟨g, 0, none⟩) n c) ∧ w'.ownsRow w.heap.size 61 2 (.slice (some ⟨g, 0, none⟩) n c) n (gcells gs) ∧ Below w.heap.size w w' := by
  have HN : Hid (gs.length = n) := hs.1
  have HSS : Hid (GAt w a n gs) := hs
  clear hs
  obtain ⟨i0, hi, hz0, hz1, hz2⟩ := info_parts Tryz.infoRef
  have hml : n ≤ maxLen := by unfold maxLen; omega
  go_enter Tryz.func14, Tryz.ntmps14
  go_wp2_with (first | (at_make; refine wpList_make_full _ rfl _ _ 30 rfl w.heap.size 61 i0 (.agg #[.int .i64 0, .int .i64 0]) 2 Tryz.underlying30 hi hz0 hz1 _ _ _ _ n rfl rfl (by omega) (by omega) (by rw [hz2]; omega) hml (Nat.le_refl _) ?_; intro w1 ho1 hg1))
  have hb1 : Below w.heap.size w w1 := (Below.refl _ _).grown hg1 (Nat.le_refl _) (fun k h => by cases h)
  go_loopw [4] (fun i wr => ∃ k : Nat, k ≤ n ∧ i = .int .i64 k ∧ Below w.heap.size w wr ∧ Hid (∃ xs, wr.ownsRow w.heap.size 61 2 (.slice (some ⟨w.heap.size, 0, none⟩) n n) n xs ∧ ∀ j, j < k → xs[j * 2]? = some (.int .i64 (gs.getD j G0).1) ∧ xs[j * 2 + 1]? = some (.int .i64 (gs.getD j G0).2))) (fun i _ => n - (intOf i).toNat)
  case atStart => exact ⟨0, Nat.zero_le _, rfl, hb1, _, ho1, fun j hj => by omega⟩
  case round =>
    obtain ⟨k, hk, rfl, hbel, HX⟩ := hrel
    clear ho1 hg1 hb1
    by_cases hlt : k < n
    · rcases HSS.out.2 with h0 | ⟨b, off, ha, hb, hc⟩
      · omega
      subst ha
      obtain ⟨g, hg⟩ : ∃ g, g = gs.getD k G0 := ⟨_, rfl⟩
      have hcx := hc k hlt
      rw [← hg] at hcx
      obtain ⟨g1, g2⟩ := g
      have c0 := (hbel.cell (p := ⟨b, off + k * 2, none⟩) hb).trans hcx.1
      have c1 := (hbel.cell (p := ⟨b, off + k * 2 + 1, none⟩) hb).trans hcx.2
      have HG : Hid ((g1, g2) = gs.getD k G0) := hg
      clear hg hc hcx
      go_wp2_with (first | (go_at_call 30; refine (toRef_any _ _ _).mono ?_; rintro e w2 ⟨rfl, hb2⟩; obtain ⟨u0, u1, cg0, cg1, fg0, fg1, HX2⟩ := toRf_round HG.out hlt HX.out hb2))
      go_roundw
      case rel => exact ⟨k + 1, by omega, by go_num, ((hbel.trans (hb2.mono hbel.size)).setCell (Nat.le_refl _) _).setCell (Nat.le_refl _) _, HX2⟩
      case measure => simp [intOf]; omega
    · go_wp2
      go_ret
      obtain ⟨xs, hown, hxs⟩ := HX.out
      refine ⟨_, _, rfl, ?_, hbel⟩
      rw [← all_signs HN.out hown.1 (fun j hj => hxs j (by omega))]
      exact hown

theorem eqRef_any (a b : Int) (w : World) : Calls Tryz.prog 43 #[.agg #[.int .i64 a, .int .i64 b], .agg #[.int .i64 a, .int .i64 b]] w fun e w' => e = .returned (.bool true) ∧ Below w.heap.size w w' := by
  go_enter Tryz.func43, Tryz.ntmps43
  go_wp2
  go_ret
  exact ⟨rfl, ((Below.refl _ _).alloc (Nat.le_refl _) _).alloc (by simp) _⟩

set_option maxHeartbeats 400000 in
theorem eqRf_any (a b : Option Addr) (n c1 c2 : Nat) (gs : List (Int × Int)) (w : World) (hl : n ≤ 1048576) (ha : GAt w a n gs) (hb : GAt w b n gs) :
    Calls Tryz.prog 19 #[.slice a n c1, .slice b n c2] w fun e w' => e = .returned (.bool true) ∧ Below w.heap.size w w' := by
  have HA : Hid (GAt w a n gs) := ha
  have HB : Hid (GAt w b n gs) := hb
  clear ha hb
  go_enter Tryz.func19, Tryz.ntmps19
  go_wp2
  go_loopw [5] (fun i wr => ∃ k : Nat, k ≤ n ∧ i = .int .i64 k ∧ Below w.heap.size w wr) (fun i _ => n - (intOf i).toNat)
  case atStart => exact ⟨0, Nat.zero_le _, rfl, Below.refl _ _⟩
  case round =>
    obtain ⟨k, hk, rfl, hbel⟩ := hrel
    by_cases hlt : k < n
    · rcases HA.out.2 with h0 | ⟨b0, o0, e0, l0, d0⟩
      · omega
      subst e0
      rcases HB.out.2 with h0 | ⟨b1, o1, e1, l1, d1⟩
      · omega
      subst e1
      obtain ⟨g, hg⟩ : ∃ g, g = gs.getD k G0 := ⟨_, rfl⟩
      have y0 := d0 k hlt
      have y1 := d1 k hlt
      rw [← hg] at y0 y1
      obtain ⟨g1, g2⟩ := g
      have x0 := (hbel.cell (p := ⟨b0, o0 + k * 2, none⟩) l0).trans y0.1
      have x1 := (hbel.cell (p := ⟨b0, o0 + k * 2 + 1, none⟩) l0).trans y0.2
      have x2 := (hbel.cell (p := ⟨b1, o1 + k * 2, none⟩) l1).trans y1.1
      have x3 := (hbel.cell (p := ⟨b1, o1 + k * 2 + 1, none⟩) l1).trans y1.2
      clear hg d0 d1 y0 y1
      have hki : (k : Int) < (n : Int) := by omega
      have hw0 : b0 < wr.heap.size := Nat.lt_of_lt_of_le l0 hbel.size
      have hw1 : b1 < wr.heap.size := Nat.lt_of_lt_of_le l1 hbel.size
      have hcall : ∀ j, Calls Tryz.prog 43 #[.agg #[.int .i64 g1, .int .i64 g2], .agg #[.int .i64 g1, .int .i64 g2]] (wr.drewN j) fun e w' => e = .returned (.bool true) ∧ Below wr.heap.size wr w' := fun j => (eqRef_any g1 g2 _).mono fun e w' h => ⟨h.1, (Joins.below_draws _ wr j).trans h.2⟩
      go_wp2
      go_region_held3 (fun w' => w'.cell? ⟨b0, o0 + k * 2, none⟩ = some (.int .i64 g1) ∧ w'.cell? ⟨b0, o0 + k * 2 + 1, none⟩ = some (.int .i64 g2) ∧ w'.cell? ⟨b1, o1 + k * 2, none⟩ = some (.int .i64 g1) ∧ w'.cell? ⟨b1, o1 + k * 2 + 1, none⟩ = some (.int .i64 g2)) (go_keep)
        (first | (go_at_call 43; refine (hcall 1).mono ?_; rintro e w3 ⟨rfl, hb3⟩; have z0 := (hb3.cell (p := ⟨b0, o0 + k * 2, none⟩) hw0).trans x0; have z1 := (hb3.cell (p := ⟨b0, o0 + k * 2 + 1, none⟩) hw0).trans x1; have z2 := (hb3.cell (p := ⟨b1, o1 + k * 2, none⟩) hw1).trans x2; have z3 := (hb3.cell (p := ⟨b1, o1 + k * 2 + 1, none⟩) hw1).trans x3))
      go_wp2
      go_roundw
      case rel => exact ⟨k + 1, by omega, by go_num, hbel.trans (hb3.mono hbel.size)⟩
      case measure => simp [intOf]; omega
    · go_wp2
      go_ret
      exact ⟨rfl, hbel⟩

end Go.Proofs.YtoahopeegmhlnaaGreatDoor

namespace Go.Proofs.YtoahopeegmhlnaaGreatDoor
open Go.RowKit Go.Maps

structure Ou where
  v : Int
  l : List Int
  x : Int
  y : Int
def O0 : Ou := ⟨0, [], 0, 0⟩

/-- What a slice of outs leads to: four cells each, the keys behind the second. -/
def OAt (w : World) (a : Option Addr) (n : Nat) (os : List Ou) : Prop :=
  os.length = n ∧ (n = 0 ∨ ∃ b off, a = some ⟨b, off, none⟩ ∧ b < w.heap.size ∧ ∀ j, j < n → ∃ ka kn kc, w.cell? ⟨b, off + j * 4, none⟩ = some (.int .i64 (os.getD j O0).v) ∧ w.cell? ⟨b, off + j * 4 + 1, none⟩ = some (.slice ka kn kc) ∧
    w.cell? ⟨b, off + j * 4 + 2, none⟩ = some (.int .i64 (os.getD j O0).x) ∧ w.cell? ⟨b, off + j * 4 + 3, none⟩ = some (.int .i64 (os.getD j O0).y) ∧ kn ≤ maxLen ∧ IAt w ka kn (os.getD j O0).l)

theorem OAt.below {w w' : World} {a : Option Addr} {n : Nat} {os : List Ou} (h : OAt w a n os) {B : Nat} (hb : Below B w w') (hB : w.heap.size ≤ B) : OAt w' a n os := by
  obtain ⟨hn, h | ⟨b, off, rfl, hlt, hc⟩⟩ := h
  · exact ⟨hn, .inl h⟩
  · refine ⟨hn, .inr ⟨b, off, rfl, Nat.lt_of_lt_of_le hlt hb.size, fun j hj => ?_⟩⟩
    obtain ⟨ka, kn, kc, h0, h1, h2, h3, h4, h5⟩ := hc j hj
    have hl := Nat.lt_of_lt_of_le hlt hB
    exact ⟨ka, kn, kc, (hb.cell (p := ⟨b, off + j * 4, none⟩) hl).trans h0, (hb.cell (p := ⟨b, off + j * 4 + 1, none⟩) hl).trans h1, (hb.cell (p := ⟨b, off + j * 4 + 2, none⟩) hl).trans h2, (hb.cell (p := ⟨b, off + j * 4 + 3, none⟩) hl).trans h3, h4, h5.below hb hB⟩

def SzO (n : Nat) (os : List Ou) (left r : Int) : Prop := r = -1 ∨ 0 ≤ r ∧ r ≤ left ∧ (n : Int) ≤ left ∧ ∀ j, j < n → ((os.getD j O0).l.length : Int) ≤ left

theorem szOut_any (v : Int) (a : Option Addr) (n cap : Nat) (x y left : Int) (w : World) (h0 : 0 ≤ left) (h1 : left ≤ 1048576) (hl : n ≤ maxLen) :
    Calls Tryz.prog 21 #[.agg #[.int .i64 v, .slice a n cap, .int .i64 x, .int .i64 y], .int .i64 left] w fun e w' => ∃ r : Int, e = .returned (.int .i64 r) ∧ SzG n left r ∧ Below w.heap.size w w' := by
  have hbx : Below w.heap.size w (w.alloc (.cells #[.int .i64 v, .slice a n cap, .int .i64 x, .int .i64 y] 56)) := below_box _
  have hS := szRu_any a n cap x y left (w.alloc (.cells #[.int .i64 v, .slice a n cap, .int .i64 x, .int .i64 y] 56)) h0 h1 hl
  go_enter Tryz.func21, Tryz.ntmps21
  go_wp2_with (first
    | (go_at_call 45; refine hS.mono ?_; rintro e w2 ⟨r, rfl, hr, hb2⟩; have HB : Hid (Below w.heap.size w w2) := hbx.trans (hb2.mono (by simp)); clear hb2))
  · go_ret
    exact ⟨_, rfl, Or.inl rfl, HB.out⟩
  · go_ret
    exact ⟨_, rfl, hr, HB.out⟩

set_option maxHeartbeats 400000 in
theorem szOs_any (a : Option Addr) (n cap : Nat) (os : List Ou) (left : Int) (w : World) (h0 : 0 ≤ left) (h1 : left ≤ 1048576) (hl : n ≤ maxLen) (hs : OAt w a n os) :
    Calls Tryz.prog 11 #[.slice a n cap, .int .i64 left] w fun e w' => ∃ r : Int, e = .returned (.int .i64 r) ∧ SzO n os left r ∧ Below w.heap.size w w' := by
  have hl' := hl
  unfold maxLen at hl
  have HO : Hid (OAt w a n os) := hs
  clear hs
  by_cases hn : left < n
  · go_enter Tryz.func11, Tryz.ntmps11
    go_wp2
    go_ret
    exact ⟨_, rfl, Or.inl rfl, Below.refl _ _⟩
  · go_enter Tryz.func11, Tryz.ntmps11
    go_wp2
    go_loopw [1, 5] (fun v i wr => ∃ k : Nat, k ≤ n ∧ i = .int .i64 k ∧ ∃ q : Int, v = .int .i64 q ∧ 0 ≤ q ∧ q ≤ left - n ∧ Hid (∀ j, j < k → ((os.getD j O0).l.length : Int) ≤ left) ∧ Below w.heap.size w wr) (fun _ i _ => n - (intOf i).toNat)
    case atStart => exact ⟨0, Nat.zero_le _, rfl, _, rfl, by omega, by omega, fun j hj => by omega, Below.refl _ _⟩
    case round =>
      obtain ⟨k, hk, rfl, q, rfl, hq0, hq1, HJ, hbel⟩ := hrel
      by_cases hlt : k < n
      · rcases HO.out.2 with h00 | ⟨b, off, e0, l0, d0⟩
        · omega
        subst e0
        obtain ⟨o, ho⟩ : ∃ o, o = os.getD k O0 := ⟨_, rfl⟩
        obtain ⟨ka, kn, kc, c0, c1, c2, c3, c4, c5⟩ := d0 k hlt
        rw [← ho] at c0 c2 c3 c5
        have x0 := (hbel.cell (p := ⟨b, off + k * 4, none⟩) l0).trans c0
        have x1 := (hbel.cell (p := ⟨b, off + k * 4 + 1, none⟩) l0).trans c1
        have x2 := (hbel.cell (p := ⟨b, off + k * 4 + 2, none⟩) l0).trans c2
        have x3 := (hbel.cell (p := ⟨b, off + k * 4 + 3, none⟩) l0).trans c3
        have HLEN : Hid (o.l.length = kn) := c5.1
        have HS : Hid (o = os.getD k O0) := ho
        obtain ⟨ov, ol, ox, oy⟩ := o
        have hsz := szOut_any ov ka kn kc ox oy q wr hq0 (by omega) c4
        clear c0 c1 c2 c3 c5 ho d0
        have hki : (k : Int) < (n : Int) := by omega
        go_wp2_with (go_at_call 21; refine hsz.mono ?_; clear hsz; rintro e w2 ⟨r, rfl, hr, hb2⟩)
        · go_ret
          exact ⟨_, rfl, Or.inl rfl, hbel.trans (hb2.mono hbel.size)⟩
        · have hr0 : 0 ≤ r := by assumption
          rcases hr with e | ⟨_, hr1, hr2⟩
          · omega
          go_roundw
          case rel =>
            refine ⟨k + 1, by omega, by go_num, _, rfl, hr0, by omega, fun j hj => ?_, hbel.trans (hb2.mono hbel.size)⟩
            by_cases e : j = k
            · subst e
              rw [← HS.out]
              have : ol.length = kn := HLEN.out
              show (ol.length : Int) ≤ left
              omega
            · exact HJ.out j (by omega)
          case measure => simp [intOf]; omega
      · go_wp2
        go_ret
        exact ⟨_, rfl, Or.inr ⟨hq0, by omega, by omega, fun j h => HJ.out j (by omega)⟩, hbel⟩

end Go.Proofs.YtoahopeegmhlnaaGreatDoor

namespace Go.Proofs.YtoahopeegmhlnaaGreatDoor
open Go.RowKit Go.Maps Go.WideMaps

theorem Tryz.infoOut : (Tryz.prog.info? 66).map (fun i => (i.zero, i.size, i.bytes)) = some (some (.agg #[.int .i64 0, .slice none 0 0, .int .i64 0, .int .i64 0]), 4, 48) := by kernel_rfl

theorem res4 {w w2 : World} {b B : Nat} {c0 c1 c2 c3 : Value} {t : TypeId} (h : w.heap[b]? = some (.cells #[c0, c1, c2, c3] t (0, 0))) (hb : Below B w w2) (hB : b < B) :
    (w2.cell? ⟨b, 0, none⟩ = some c0 ∧ w2.cell? ⟨b, 1, none⟩ = some c1 ∧ w2.cell? ⟨b, 2, none⟩ = some c2 ∧ w2.cell? ⟨b, 3, none⟩ = some c3 ∧ w2.frozen? ⟨b, 0, none⟩ = false ∧ w2.frozen? ⟨b, 1, none⟩ = false ∧ w2.frozen? ⟨b, 2, none⟩ = false ∧ w2.frozen? ⟨b, 3, none⟩ = false) ∧ Hid (w2.heap[b]? = some (.cells #[c0, c1, c2, c3] t (0, 0))) := by
  have h2 := (hb.block b hB).trans h
  exact ⟨cells4 h2, h2⟩

/-- An out's copy: its keys lie in new memory. -/
def OutOu (w w' : World) (e : Ending) (v : Int) (n : Nat) (l : List Int) (x y : Int) : Prop :=
  ∃ g c, e = .returned (.agg #[.int .i64 v, .slice (some ⟨g, 0, none⟩) n c, .int .i64 x, .int .i64 y]) ∧ w'.ownsRow w.heap.size 2 1 (.slice (some ⟨g, 0, none⟩) n c) n (ints l) ∧ Below w.heap.size w w'

set_option maxHeartbeats 1000000 in
theorem toOut_any (v : Int) (a : Option Addr) (n cap : Nat) (l : List Int) (x y : Int) (w : World) (hl : n ≤ 1048576) (h : IAt w a n l) :
    Calls Tryz.prog 31 #[.agg #[.int .i64 v, .slice a n cap, .int .i64 x, .int .i64 y]] w fun e w' => OutOu w w' e v n l x y := by
  obtain ⟨t0, t1, t2, t3⟩ := three_blocks w (.cells #[.int .i64 v, .slice a n cap, .int .i64 x, .int .i64 y] 56) (.cells #[.int .i64 0, .slice none 0 0, .int .i64 0, .int .i64 0] 66) (.cells #[.int .i64 v, .slice none 0 0, .int .i64 0, .int .i64 0] 66)
  have hbs : Below w.heap.size w (((w.alloc (.cells #[.int .i64 v, .slice a n cap, .int .i64 x, .int .i64 y] 56)).alloc (.cells #[.int .i64 0, .slice none 0 0, .int .i64 0, .int .i64 0] 66)).alloc (.cells #[.int .i64 v, .slice none 0 0, .int .i64 0, .int .i64 0] 66)) := below_box3 _ _ _
  have hS := toRu_any a n cap l x y (((w.alloc (.cells #[.int .i64 v, .slice a n cap, .int .i64 x, .int .i64 y] 56)).alloc (.cells #[.int .i64 0, .slice none 0 0, .int .i64 0, .int .i64 0] 66)).alloc (.cells #[.int .i64 v, .slice none 0 0, .int .i64 0, .int .i64 0] 66)) hl (h.below hbs (Nat.le_refl _))
  have U1 := show Hid ((((w.alloc (.cells #[.int .i64 v, .slice a n cap, .int .i64 x, .int .i64 y] 56)).alloc (.cells #[.int .i64 0, .slice none 0 0, .int .i64 0, .int .i64 0] 66)).alloc (.cells #[.int .i64 v, .slice none 0 0, .int .i64 0, .int .i64 0] 66)).heap[w.heap.size + 1]? = some (.cells #[.int .i64 0, .slice none 0 0, .int .i64 0, .int .i64 0] 66 (0, 0))) from t1
  have U2 := show Hid ((((w.alloc (.cells #[.int .i64 v, .slice a n cap, .int .i64 x, .int .i64 y] 56)).alloc (.cells #[.int .i64 0, .slice none 0 0, .int .i64 0, .int .i64 0] 66)).alloc (.cells #[.int .i64 v, .slice none 0 0, .int .i64 0, .int .i64 0] 66)).heap[w.heap.size + 1 + 1]? = some (.cells #[.int .i64 v, .slice none 0 0, .int .i64 0, .int .i64 0] 66 (0, 0))) from t2
  have HBS : Hid (Below w.heap.size w (((w.alloc (.cells #[.int .i64 v, .slice a n cap, .int .i64 x, .int .i64 y] 56)).alloc (.cells #[.int .i64 0, .slice none 0 0, .int .i64 0, .int .i64 0] 66)).alloc (.cells #[.int .i64 v, .slice none 0 0, .int .i64 0, .int .i64 0] 66))) := hbs
  have HSZ : Hid ((((w.alloc (.cells #[.int .i64 v, .slice a n cap, .int .i64 x, .int .i64 y] 56)).alloc (.cells #[.int .i64 0, .slice none 0 0, .int .i64 0, .int .i64 0] 66)).alloc (.cells #[.int .i64 v, .slice none 0 0, .int .i64 0, .int .i64 0] 66)).heap.size = w.heap.size + 1 + 1 + 1) := t3
  obtain ⟨s0, s1, s2, s3, _⟩ := cells4 t0
  clear t0 t1 t2 t3 hbs h
  go_enter Tryz.func31, Tryz.ntmps31
  go_wp2_with (first
    | (go_at_call 47; refine hS.mono ?_; rintro e w2 ⟨g0, k0, rfl, ho0, hb2⟩; rw [HSZ.out] at ho0 hb2; obtain ⟨⟨r0, r1, r2, r3, r4, r5, r6, r7⟩, HR⟩ := res4 U1.out hb2 (by omega); obtain ⟨⟨o0, o1, o2, o3, o4, o5, o6, o7⟩, HO⟩ := res4 U2.out hb2 (by omega); have HROW : Hid (w2.ownsRow (w.heap.size + 1 + 1 + 1) 2 1 (.slice (some ⟨g0, 0, none⟩) n k0) n (ints l)) := ho0; have HBW : Hid (Below w.heap.size w w2) := HBS.out.trans (hb2.mono (by omega)); clear ho0 hb2))
  have hR3 : (((w2.setCell ⟨w.heap.size + 1 + 1, 1, none⟩ (.slice (some ⟨g0, 0, none⟩) n k0)).setCell ⟨w.heap.size + 1 + 1, 2, none⟩ (.int .i64 x)).setCell ⟨w.heap.size + 1 + 1, 3, none⟩ (.int .i64 y)).heap[w.heap.size + 1]? = some (.cells #[.int .i64 0, .slice none 0 0, .int .i64 0, .int .i64 0] 66 (0, 0)) :=
    (Below.heap_setCell _ ⟨w.heap.size + 1 + 1, 3, none⟩ _ (w.heap.size + 1) (show w.heap.size + 1 ≠ w.heap.size + 1 + 1 by omega)).trans ((Below.heap_setCell _ ⟨w.heap.size + 1 + 1, 2, none⟩ _ (w.heap.size + 1) (show w.heap.size + 1 ≠ w.heap.size + 1 + 1 by omega)).trans ((Below.heap_setCell _ ⟨w.heap.size + 1 + 1, 1, none⟩ _ (w.heap.size + 1) (show w.heap.size + 1 ≠ w.heap.size + 1 + 1 by omega)).trans HR.out))
  obtain ⟨j0, j1, j2, j3⟩ := four_set hR3 (.int .i64 v) (.slice (some ⟨g0, 0, none⟩) n k0) (.int .i64 x) (.int .i64 y)
  refine bodyPost_ret (v := .agg #[.int .i64 v, .slice (some ⟨g0, 0, none⟩) n k0, .int .i64 x, .int .i64 y]) (by simp [results, Tryz.results31, go_sem, j0, j1, j2, j3]) rfl ⟨g0, k0, rfl, ?_, ?_⟩
  · exact row_res4 (ownsRow_setCell_below (ownsRow_setCell_below (ownsRow_setCell_below HROW.out (a := ⟨w.heap.size + 1 + 1, 1, none⟩) (show w.heap.size + 1 + 1 < _ by omega) _) (a := ⟨w.heap.size + 1 + 1, 2, none⟩) (show w.heap.size + 1 + 1 < _ by omega) _) (a := ⟨w.heap.size + 1 + 1, 3, none⟩) (show w.heap.size + 1 + 1 < _ by omega) _) (by omega) (by omega) _ _ _ _
  · exact below_res4 (((HBW.out.setCell (p := ⟨w.heap.size + 1 + 1, 1, none⟩) (show w.heap.size ≤ w.heap.size + 1 + 1 by omega) _).setCell (p := ⟨w.heap.size + 1 + 1, 2, none⟩) (show w.heap.size ≤ w.heap.size + 1 + 1 by omega) _).setCell (p := ⟨w.heap.size + 1 + 1, 3, none⟩) (show w.heap.size ≤ w.heap.size + 1 + 1 by omega) _) _ _ _ _

end Go.Proofs.YtoahopeegmhlnaaGreatDoor

namespace Go.Proofs.YtoahopeegmhlnaaGreatDoor
open Go.RowKit Go.Maps Go.WideMaps

theorem IAt.setOther {v : World} {g n B i : Nat} {l : List Int} (h : IAt v (some ⟨g, 0, none⟩) n l) (hne : g ≠ B) (u : Value) : IAt (v.setCell ⟨B, i, none⟩ u) (some ⟨g, 0, none⟩) n l := by
  obtain ⟨hn, h | ⟨b, off, e, hlt, hc⟩⟩ := h
  · exact ⟨hn, .inl h⟩
  · cases e
    exact ⟨hn, .inr ⟨g, 0, rfl, by simpa using hlt, fun j hj => (World.cell?_of_block (Below.heap_setCell _ ⟨B, i, none⟩ u g hne)).trans (hc j hj)⟩⟩

/-- A row of outs under way in block B: k of them are there. -/
def RowO (wr : World) (B n k : Nat) (os : List Ou) : Prop :=
  ∃ xs, wr.ownsRow B 66 4 (.slice (some ⟨B, 0, none⟩) n n) n xs ∧ ∀ j, j < k → ∃ g c, (xs[j * 4]? = some (.int .i64 (os.getD j O0).v) ∧ xs[j * 4 + 1]? = some (.slice (some ⟨g, 0, none⟩) (os.getD j O0).l.length c) ∧ xs[j * 4 + 2]? = some (.int .i64 (os.getD j O0).x) ∧ xs[j * 4 + 3]? = some (.int .i64 (os.getD j O0).y)) ∧
    B < g ∧ (os.getD j O0).l.length ≤ maxLen ∧ IAt wr (some ⟨g, 0, none⟩) (os.getD j O0).l.length (os.getD j O0).l

theorem toO_round {wr w2 : World} {B n k : Nat} {os : List Ou} {v x y : Int} {l : List Int} {g c : Nat} (ho : (⟨v, l, x, y⟩ : Ou) = os.getD k O0) (hlt : k < n) (h : RowO wr B n k os) (hb : Below wr.heap.size wr w2) (hk : w2.ownsRow wr.heap.size 2 1 (.slice (some ⟨g, 0, none⟩) l.length c) l.length (ints l)) (hBl : B < wr.heap.size) (hol : l.length ≤ maxLen) :
    ∃ u0 u1 u2 u3, w2.cell? ⟨B, k * 4, none⟩ = some u0 ∧ w2.cell? ⟨B, k * 4 + 1, none⟩ = some u1 ∧ w2.cell? ⟨B, k * 4 + 2, none⟩ = some u2 ∧ w2.cell? ⟨B, k * 4 + 3, none⟩ = some u3 ∧ w2.frozen? ⟨B, k * 4, none⟩ = false ∧ w2.frozen? ⟨B, k * 4 + 1, none⟩ = false ∧ w2.frozen? ⟨B, k * 4 + 2, none⟩ = false ∧ w2.frozen? ⟨B, k * 4 + 3, none⟩ = false ∧
      Hid (RowO ((((w2.setCell ⟨B, k * 4, none⟩ (.int .i64 v)).setCell ⟨B, k * 4 + 1, none⟩ (.slice (some ⟨g, 0, none⟩) l.length c)).setCell ⟨B, k * 4 + 2, none⟩ (.int .i64 x)).setCell ⟨B, k * 4 + 3, none⟩ (.int .i64 y)) B n (k + 1) os) := by
  obtain ⟨xs, hown0, hxs⟩ := h
  have hown := hown0.kept (w' := w2) (row := none) ⟨hb.os, hb.tape, hb.output, hb.size, fun k hk _ => hb.block k hk⟩ (by simp [Value.ownBlock])
  have hxl := hown.1
  have r1 := (hown.stored (k * 4) (.int .i64 v)).1
  have r2 := (r1.stored (k * 4 + 1) (.slice (some ⟨g, 0, none⟩) l.length c)).1
  have r3 := (r2.stored (k * 4 + 2) (.int .i64 x)).1
  have r4 := (r3.stored (k * 4 + 3) (.int .i64 y)).1
  have hgl : B < g := by have := (hk.lt g rfl).1; omega
  have hgB : g ≠ B := by omega
  have hIk : IAt w2 (some ⟨g, 0, none⟩) l.length l := IAt.owned hk rfl
  refine ⟨_, _, _, _, (hown.cellAt (k * 4) (by omega)).trans (List.getElem?_eq_getElem (by omega)), (hown.cellAt (k * 4 + 1) (by omega)).trans (List.getElem?_eq_getElem (by omega)), (hown.cellAt (k * 4 + 2) (by omega)).trans (List.getElem?_eq_getElem (by omega)), (hown.cellAt (k * 4 + 3) (by omega)).trans (List.getElem?_eq_getElem (by omega)), hown.frozenAt _, hown.frozenAt _, hown.frozenAt _, hown.frozenAt _, _, r4, fun j hj => ?_⟩
  by_cases e : k = j
  · subst e
    rw [← ho]
    refine ⟨g, c, ⟨?_, ?_, ?_, ?_⟩, hgl, hol, (((hIk.setOther hgB _).setOther hgB _).setOther hgB _).setOther hgB _⟩
    · rw [List.getElem?_set_ne (by omega), List.getElem?_set_ne (by omega), List.getElem?_set_ne (by omega), List.getElem?_set_self (by omega)]
    · rw [List.getElem?_set_ne (by omega), List.getElem?_set_ne (by omega), List.getElem?_set_self (by simp; omega)]
    · rw [List.getElem?_set_ne (by omega), List.getElem?_set_self (by simp; omega)]
    · rw [List.getElem?_set_self (by simp; omega)]
  · obtain ⟨g', c', ⟨e0, e1, e2, e3⟩, hgl', hl', hI'⟩ := hxs j (by omega)
    have hg' : g' ≠ B := by omega
    refine ⟨g', c', ⟨?_, ?_, ?_, ?_⟩, hgl', hl', ((((hI'.below hb (Nat.le_refl _)).setOther hg' _).setOther hg' _).setOther hg' _).setOther hg' _⟩
    · rw [List.getElem?_set_ne (by omega), List.getElem?_set_ne (by omega), List.getElem?_set_ne (by omega), List.getElem?_set_ne (by omega)]; exact e0
    · rw [List.getElem?_set_ne (by omega), List.getElem?_set_ne (by omega), List.getElem?_set_ne (by omega), List.getElem?_set_ne (by omega)]; exact e1
    · rw [List.getElem?_set_ne (by omega), List.getElem?_set_ne (by omega), List.getElem?_set_ne (by omega), List.getElem?_set_ne (by omega)]; exact e2
    · rw [List.getElem?_set_ne (by omega), List.getElem?_set_ne (by omega), List.getElem?_set_ne (by omega), List.getElem?_set_ne (by omega)]; exact e3

/-- Outs in new memory: their row and their keys lie in blocks from 'base' on. -/
def OAtN (w : World) (base g n : Nat) (os : List Ou) : Prop :=
  os.length = n ∧ base ≤ g ∧ g < w.heap.size ∧ ∀ j, j < n → ∃ kg kc, w.cell? ⟨g, j * 4, none⟩ = some (.int .i64 (os.getD j O0).v) ∧ w.cell? ⟨g, j * 4 + 1, none⟩ = some (.slice (some ⟨kg, 0, none⟩) (os.getD j O0).l.length kc) ∧
    w.cell? ⟨g, j * 4 + 2, none⟩ = some (.int .i64 (os.getD j O0).x) ∧ w.cell? ⟨g, j * 4 + 3, none⟩ = some (.int .i64 (os.getD j O0).y) ∧ base ≤ kg ∧ (os.getD j O0).l.length ≤ maxLen ∧ IAt w (some ⟨kg, 0, none⟩) (os.getD j O0).l.length (os.getD j O0).l
theorem OAtN.at {w : World} {base g n : Nat} {os : List Ou} (h : OAtN w base g n os) : OAt w (some ⟨g, 0, none⟩) n os := by
  obtain ⟨hn, _, hg, hc⟩ := h
  refine ⟨hn, .inr ⟨g, 0, rfl, hg, fun j hj => ?_⟩⟩
  obtain ⟨kg, kc, h0, h1, h2, h3, _, h5, h6⟩ := hc j hj
  exact ⟨_, _, kc, by rw [Nat.zero_add]; exact h0, by rw [Nat.zero_add]; exact h1, by rw [Nat.zero_add]; exact h2, by rw [Nat.zero_add]; exact h3, h5, h6⟩
theorem OAtN.set {w : World} {base g n B i : Nat} {os : List Ou} (h : OAtN w base g n os) (hB : B < base) (u : Value) : OAtN (w.setCell ⟨B, i, none⟩ u) base g n os := by
  obtain ⟨hn, hb, hg, hc⟩ := h
  have kc : ∀ o, (w.setCell ⟨B, i, none⟩ u).cell? ⟨g, o, none⟩ = w.cell? ⟨g, o, none⟩ := fun o => World.cell?_of_block (Below.heap_setCell _ ⟨B, i, none⟩ u g (show g ≠ B by omega))
  refine ⟨hn, hb, by simpa using hg, fun j hj => ?_⟩
  obtain ⟨kg, kk, h0, h1, h2, h3, h4, h5, h6⟩ := hc j hj
  exact ⟨kg, kk, (kc _).trans h0, (kc _).trans h1, (kc _).trans h2, (kc _).trans h3, h4, h5, h6.setOther (by omega) _⟩
theorem OAtN.below {w w' : World} {base g n : Nat} {os : List Ou} (h : OAtN w base g n os) (hb : Below w.heap.size w w') : OAtN w' base g n os := by
  obtain ⟨hn, h1, hg, hc⟩ := h
  refine ⟨hn, h1, Nat.lt_of_lt_of_le hg hb.size, fun j hj => ?_⟩
  obtain ⟨kg, kk, h0, h1, h2, h3, h4, h5, h6⟩ := hc j hj
  exact ⟨kg, kk, (hb.cell (p := ⟨g, j * 4, none⟩) hg).trans h0, (hb.cell (p := ⟨g, j * 4 + 1, none⟩) hg).trans h1, (hb.cell (p := ⟨g, j * 4 + 2, none⟩) hg).trans h2, (hb.cell (p := ⟨g, j * 4 + 3, none⟩) hg).trans h3, h4, h5, h6.below hb (Nat.le_refl _)⟩
theorem OAtN.mono {w : World} {base base' g n : Nat} {os : List Ou} (h : OAtN w base g n os) (hb : base' ≤ base) : OAtN w base' g n os := by
  obtain ⟨hn, h1, hg, hc⟩ := h
  refine ⟨hn, by omega, hg, fun j hj => ?_⟩
  obtain ⟨kg, kk, h0, h1, h2, h3, h4, h5, h6⟩ := hc j hj
  exact ⟨kg, kk, h0, h1, h2, h3, by omega, h5, h6⟩

theorem RowO.at {w : World} {B n : Nat} {os : List Ou} (hn : os.length = n) (h : RowO w B n n os) : OAtN w B B n os := by
  obtain ⟨xs, hown, hxs⟩ := h
  refine ⟨hn, Nat.le_refl _, (hown.lt B rfl).2, fun j hj => ?_⟩
  obtain ⟨g, c, ⟨e0, e1, e2, e3⟩, hg, hl, hI⟩ := hxs j hj
  have hxl := hown.1
  refine ⟨g, c, ?_, ?_, ?_, ?_, by omega, hl, hI⟩
  · rw [hown.cellAt (j * 4) (by omega), e0]
  · rw [hown.cellAt (j * 4 + 1) (by omega), e1]
  · rw [hown.cellAt (j * 4 + 2) (by omega), e2]
  · rw [hown.cellAt (j * 4 + 3) (by omega), e3]

set_option maxHeartbeats 1000000 in
theorem toOs_any (a : Option Addr) (n cap : Nat) (os : List Ou) (w : World) (hl : n ≤ 1048576) (hk : ∀ j, j < n → (os.getD j O0).l.length ≤ 1048576) (hs : OAt w a n os) :
    Calls Tryz.prog 15 #[.slice a n cap] w fun e w' => ∃ g c, e = .returned (.slice (some ⟨g, 0, none⟩) n c) ∧ OAtN w' w.heap.size g n os ∧ Below w.heap.size w w' := by
  have HN : Hid (os.length = n) := hs.1
  have HSS : Hid (OAt w a n os) := hs
  have HKL : Hid (∀ j, j < n → (os.getD j O0).l.length ≤ 1048576) := hk
  clear hs hk
  obtain ⟨i0, hi, hz0, hz1, hz2⟩ := info_parts Tryz.infoOut
  have hml : n ≤ maxLen := by unfold maxLen; omega
  go_enter Tryz.func15, Tryz.ntmps15
  go_wp2_with (first | (at_make; refine wpList_make_full _ rfl _ _ 31 rfl w.heap.size 66 i0 (.agg #[.int .i64 0, .slice none 0 0, .int .i64 0, .int .i64 0]) 4 Tryz.underlying31 hi hz0 hz1 _ _ _ _ n rfl rfl (by omega) (by omega) (by rw [hz2]; omega) hml (Nat.le_refl _) ?_; intro w1 ho1 hg1))
  have hb1 : Below w.heap.size w w1 := (Below.refl _ _).grown hg1 (Nat.le_refl _) (fun k h => by cases h)
  have hB1 : w.heap.size < w1.heap.size := (ho1.lt _ rfl).2
  go_loopw [4] (fun i wr => ∃ k : Nat, k ≤ n ∧ i = .int .i64 k ∧ Below w.heap.size w wr ∧ w.heap.size < wr.heap.size ∧ Hid (RowO wr w.heap.size n k os)) (fun i _ => n - (intOf i).toNat)
  case atStart => exact ⟨0, Nat.zero_le _, rfl, hb1, hB1, _, ho1, fun j hj => by omega⟩
  case round =>
    obtain ⟨k, hk, rfl, hbel, hBw, HX⟩ := hrel
    clear ho1 hg1 hb1 hB1
    by_cases hlt : k < n
    · rcases HSS.out.2 with h0 | ⟨b, off, ha, hb, hc⟩
      · omega
      subst ha
      obtain ⟨o, ho⟩ : ∃ o, o = os.getD k O0 := ⟨_, rfl⟩
      obtain ⟨ka, kn, kc, c0, c1, c2, c3, c4, c5⟩ := hc k hlt
      have c6 := HKL.out k hlt
      rw [← ho] at c0 c2 c3 c5 c6
      obtain ⟨ov, ol, ox, oy⟩ := o
      have HS : Hid ((⟨ov, ol, ox, oy⟩ : Ou) = os.getD k O0) := ho
      obtain rfl := c5.1
      have x0 := (hbel.cell (p := ⟨b, off + k * 4, none⟩) hb).trans c0
      have x1 := (hbel.cell (p := ⟨b, off + k * 4 + 1, none⟩) hb).trans c1
      have x2 := (hbel.cell (p := ⟨b, off + k * 4 + 2, none⟩) hb).trans c2
      have x3 := (hbel.cell (p := ⟨b, off + k * 4 + 3, none⟩) hb).trans c3
      have hto := toOut_any ov ka ol.length kc ol ox oy wr c6 (c5.below hbel (Nat.le_refl _))
      simp only at x0 x2 x3
      have HC4 : Hid (ol.length ≤ maxLen) := c4
      clear hc ho c0 c1 c2 c3 c4 c5 c6
      go_wp2_with (first | (go_at_call 31; refine hto.mono ?_; rintro e w2 ⟨g, c, rfl, hk2, hb2⟩; obtain ⟨u0, u1, u2, u3, y0, y1, y2, y3, f0, f1, f2, f3, HX2⟩ := toO_round HS.out hlt HX.out hb2 hk2 hBw HC4.out; have HB2 : Hid (Below w.heap.size w w2) := hbel.trans (hb2.mono hbel.size); have hBw2 := Nat.lt_of_lt_of_le hBw hb2.size; clear hk2 hb2))
      go_roundw
      case rel => exact ⟨k + 1, by omega, by go_num, (((HB2.out.setCell (Nat.le_refl _) _).setCell (Nat.le_refl _) _).setCell (Nat.le_refl _) _).setCell (Nat.le_refl _) _, by simpa using hBw2, HX2⟩
      case measure => simp [intOf]; omega
    · obtain rfl : k = n := by omega
      go_wp2
      go_ret
      exact ⟨_, _, rfl, HX.out.at HN.out, hbel⟩

end Go.Proofs.YtoahopeegmhlnaaGreatDoor

namespace Go.Proofs.YtoahopeegmhlnaaGreatDoor
open Go.RowKit Go.Maps Go.WideMaps

set_option maxHeartbeats 400000 in
theorem eqOut_any (v : Int) (a b : Option Addr) (n c1 c2 : Nat) (l : List Int) (x y : Int) (w : World) (hl : n ≤ 1048576) (ha : IAt w a n l) (hb : IAt w b n l) :
    Calls Tryz.prog 44 #[.agg #[.int .i64 v, .slice a n c1, .int .i64 x, .int .i64 y], .agg #[.int .i64 v, .slice b n c2, .int .i64 x, .int .i64 y]] w fun e w' => e = .returned (.bool true) ∧ Below w.heap.size w w' := by
  have hbx : Below w.heap.size w ((w.alloc (.cells #[.int .i64 v, .slice a n c1, .int .i64 x, .int .i64 y] 66)).alloc (.cells #[.int .i64 v, .slice b n c2, .int .i64 x, .int .i64 y] 66)) := below_box2 _ _
  have hS := eqRu_any a b n c1 c2 l x y _ hl (ha.below hbx (Nat.le_refl _)) (hb.below hbx (Nat.le_refl _))
  have HBX : Hid (Below w.heap.size w ((w.alloc (.cells #[.int .i64 v, .slice a n c1, .int .i64 x, .int .i64 y] 66)).alloc (.cells #[.int .i64 v, .slice b n c2, .int .i64 x, .int .i64 y] 66))) := hbx
  clear hbx ha hb
  go_enter Tryz.func44, Tryz.ntmps44
  go_wp2_with (first
    | (go_at_call 61; refine hS.mono ?_; rintro e w2 ⟨rfl, hb2⟩; have HBW : Hid (Below w.heap.size w w2) := HBX.out.trans (hb2.mono (by simp; omega)); clear hb2))
  go_ret
  exact ⟨rfl, HBW.out⟩

set_option maxHeartbeats 1000000 in
theorem eqOs_any (a b : Option Addr) (n c1 c2 : Nat) (os : List Ou) (w : World) (hl : n ≤ 1048576) (hk : ∀ j, j < n → (os.getD j O0).l.length ≤ 1048576) (ha : OAt w a n os) (hb : OAt w b n os) :
    Calls Tryz.prog 20 #[.slice a n c1, .slice b n c2] w fun e w' => e = .returned (.bool true) ∧ Below w.heap.size w w' := by
  have HA : Hid (OAt w a n os) := ha
  have HB : Hid (OAt w b n os) := hb
  have HKL : Hid (∀ j, j < n → (os.getD j O0).l.length ≤ 1048576) := hk
  clear ha hb hk
  go_enter Tryz.func20, Tryz.ntmps20
  go_wp2
  go_loopw [5] (fun i wr => ∃ k : Nat, k ≤ n ∧ i = .int .i64 k ∧ Below w.heap.size w wr) (fun i _ => n - (intOf i).toNat)
  case atStart => exact ⟨0, Nat.zero_le _, rfl, Below.refl _ _⟩
  case round =>
    obtain ⟨k, hk, rfl, hbel⟩ := hrel
    by_cases hlt : k < n
    · rcases HA.out.2 with h0 | ⟨b0, o0, e0, l0, d0⟩
      · omega
      subst e0
      rcases HB.out.2 with h0 | ⟨b1, o1, e1, l1, d1⟩
      · omega
      subst e1
      obtain ⟨o, ho⟩ : ∃ o, o = os.getD k O0 := ⟨_, rfl⟩
      obtain ⟨ka, kn, kc, p0, p1, p2, p3, p4, p5⟩ := d0 k hlt
      obtain ⟨ja, jn, jc, q0, q1, q2, q3, q4, q5⟩ := d1 k hlt
      have hol := HKL.out k hlt
      rw [← ho] at p0 p2 p3 p5 q0 q2 q3 q5 hol
      obtain ⟨ov, ol, ox, oy⟩ := o
      obtain rfl := p5.1
      obtain rfl := q5.1
      simp only at p0 p1 p2 p3 q0 q1 q2 q3 hol p5 q5
      have x0 := (hbel.cell (p := ⟨b0, o0 + k * 4, none⟩) l0).trans p0
      have x1 := (hbel.cell (p := ⟨b0, o0 + k * 4 + 1, none⟩) l0).trans p1
      have x2 := (hbel.cell (p := ⟨b0, o0 + k * 4 + 2, none⟩) l0).trans p2
      have x3 := (hbel.cell (p := ⟨b0, o0 + k * 4 + 3, none⟩) l0).trans p3
      have y0 := (hbel.cell (p := ⟨b1, o1 + k * 4, none⟩) l1).trans q0
      have y1 := (hbel.cell (p := ⟨b1, o1 + k * 4 + 1, none⟩) l1).trans q1
      have y2 := (hbel.cell (p := ⟨b1, o1 + k * 4 + 2, none⟩) l1).trans q2
      have y3 := (hbel.cell (p := ⟨b1, o1 + k * 4 + 3, none⟩) l1).trans q3
      have hki : (k : Int) < (n : Int) := by omega
      have hw0 : b0 < wr.heap.size := Nat.lt_of_lt_of_le l0 hbel.size
      have hw1 : b1 < wr.heap.size := Nat.lt_of_lt_of_le l1 hbel.size
      have hcall : Calls Tryz.prog 44 #[.agg #[.int .i64 ov, .slice ka ol.length kc, .int .i64 ox, .int .i64 oy], .agg #[.int .i64 ov, .slice ja ol.length jc, .int .i64 ox, .int .i64 oy]] wr.drew fun e w' => e = .returned (.bool true) ∧ Below wr.heap.size wr w' :=
        (eqOut_any ov ka ja ol.length kc jc ol ox oy _ hol ((p5.below hbel (Nat.le_refl _)).below (Below.refl _ _).drew (Nat.le_refl _)) ((q5.below hbel (Nat.le_refl _)).below (Below.refl _ _).drew (Nat.le_refl _))).mono fun e w' h => ⟨h.1, (Below.refl _ _).drew.trans h.2⟩
      clear ho d0 d1 p0 p1 p2 p3 p4 p5 q0 q1 q2 q3 q4 q5 hol
      go_wp2
      go_region_held3 (fun w' => (w'.cell? ⟨b0, o0 + k * 4, none⟩ = some (.int .i64 ov) ∧ w'.cell? ⟨b0, o0 + k * 4 + 1, none⟩ = some (.slice ka ol.length kc) ∧ w'.cell? ⟨b0, o0 + k * 4 + 2, none⟩ = some (.int .i64 ox) ∧ w'.cell? ⟨b0, o0 + k * 4 + 3, none⟩ = some (.int .i64 oy)) ∧ w'.cell? ⟨b1, o1 + k * 4, none⟩ = some (.int .i64 ov) ∧ w'.cell? ⟨b1, o1 + k * 4 + 1, none⟩ = some (.slice ja ol.length jc) ∧ w'.cell? ⟨b1, o1 + k * 4 + 2, none⟩ = some (.int .i64 ox) ∧ w'.cell? ⟨b1, o1 + k * 4 + 3, none⟩ = some (.int .i64 oy)) (go_keep)
        (first | (go_at_call 44; refine hcall.mono ?_; rintro e w3 ⟨rfl, hb3⟩; have z0 := (hb3.cell (p := ⟨b0, o0 + k * 4, none⟩) hw0).trans x0; have z1 := (hb3.cell (p := ⟨b0, o0 + k * 4 + 1, none⟩) hw0).trans x1; have z2 := (hb3.cell (p := ⟨b0, o0 + k * 4 + 2, none⟩) hw0).trans x2; have z3 := (hb3.cell (p := ⟨b0, o0 + k * 4 + 3, none⟩) hw0).trans x3; have z4 := (hb3.cell (p := ⟨b1, o1 + k * 4, none⟩) hw1).trans y0; have z5 := (hb3.cell (p := ⟨b1, o1 + k * 4 + 1, none⟩) hw1).trans y1; have z6 := (hb3.cell (p := ⟨b1, o1 + k * 4 + 2, none⟩) hw1).trans y2; have z7 := (hb3.cell (p := ⟨b1, o1 + k * 4 + 3, none⟩) hw1).trans y3))
      go_wp2
      go_roundw
      case rel => exact ⟨k + 1, by omega, by go_num, hbel.trans (hb3.mono hbel.size)⟩
      case measure => simp [intOf]; omega
    · go_wp2
      go_ret
      exact ⟨rfl, hbel⟩

/-- What is known of a transaction: its refs and its outs. -/
structure TxAt (w : World) (ia : Option Addr) (n : Nat) (oa : Option Addr) (m : Nat) (rs : List (Int × Int)) (os : List Ou) : Prop where
  r : GAt w ia n rs
  o : OAt w oa m os
theorem TxAt.below {w w' : World} {ia oa : Option Addr} {n m : Nat} {rs : List (Int × Int)} {os : List Ou} (h : TxAt w ia n oa m rs os) {B : Nat} (hb : Below B w w') (hB : w.heap.size ≤ B) : TxAt w' ia n oa m rs os := ⟨h.r.below hb hB, h.o.below hb hB⟩

set_option maxHeartbeats 400000 in
theorem eqTx_any (k f : Int) (ia ib oa ob : Option Addr) (n m c0 c1 d0 d1 : Nat) (rs : List (Int × Int)) (os : List Ou) (w : World) (hn : n ≤ 1048576) (hm : m ≤ 1048576) (hk : ∀ j, j < m → (os.getD j O0).l.length ≤ 1048576) (ha : TxAt w ia n oa m rs os) (hb : TxAt w ib n ob m rs os) :
    Calls Tryz.prog 9 #[.agg #[.int .i64 k, .int .i64 f, .slice ia n c0, .slice oa m d0], .agg #[.int .i64 k, .int .i64 f, .slice ib n c1, .slice ob m d1]] w fun e w' => e = .returned (.bool true) ∧ Below w.heap.size w w' := by
  have hbx : Below w.heap.size w ((w.alloc (.cells #[.int .i64 k, .int .i64 f, .slice ia n c0, .slice oa m d0] 33)).alloc (.cells #[.int .i64 k, .int .i64 f, .slice ib n c1, .slice ob m d1] 33)) := below_box2 _ _
  have hS := eqRf_any ia ib n c0 c1 rs _ hn (ha.r.below hbx (Nat.le_refl _)) (hb.r.below hbx (Nat.le_refl _))
  have T0 := show Hid (((w.alloc (.cells #[.int .i64 k, .int .i64 f, .slice ia n c0, .slice oa m d0] 33)).alloc (.cells #[.int .i64 k, .int .i64 f, .slice ib n c1, .slice ob m d1] 33)).heap[w.heap.size]? = some (.cells #[.int .i64 k, .int .i64 f, .slice ia n c0, .slice oa m d0] 33 (0, 0))) from block_at2
  have T1 := show Hid (((w.alloc (.cells #[.int .i64 k, .int .i64 f, .slice ia n c0, .slice oa m d0] 33)).alloc (.cells #[.int .i64 k, .int .i64 f, .slice ib n c1, .slice ob m d1] 33)).heap[w.heap.size + 1]? = some (.cells #[.int .i64 k, .int .i64 f, .slice ib n c1, .slice ob m d1] 33 (0, 0))) from heap_alloc_at _ _ _ (by simp)
  have HBX : Hid (Below w.heap.size w ((w.alloc (.cells #[.int .i64 k, .int .i64 f, .slice ia n c0, .slice oa m d0] 33)).alloc (.cells #[.int .i64 k, .int .i64 f, .slice ib n c1, .slice ob m d1] 33))) := hbx
  have HA : Hid (OAt w oa m os) := ha.o
  have HB : Hid (OAt w ob m os) := hb.o
  have HK : Hid (∀ j, j < m → (os.getD j O0).l.length ≤ 1048576) := hk
  clear hbx ha hb hk
  go_enter Tryz.func9, Tryz.ntmps9
  go_wp2_with (first
    | (go_at_call 19; refine hS.mono ?_; rintro e w2 ⟨rfl, hb2⟩; obtain ⟨⟨p0, p1, p2, p3, _⟩, _⟩ := res4 T0.out hb2 (by simp; omega); obtain ⟨⟨q0, q1, q2, q3, _⟩, _⟩ := res4 T1.out hb2 (by simp); have hbw : Below w.heap.size w w2 := HBX.out.trans (hb2.mono (by simp; omega)); have hO := eqOs_any oa ob m d0 d1 os w2 hm HK.out (HA.out.below hbw (Nat.le_refl _)) (HB.out.below hbw (Nat.le_refl _)); clear hb2)
    | (go_at_call 20; refine hO.mono ?_; rintro e w3 ⟨rfl, hb3⟩))
  go_ret
  exact ⟨rfl, hbw.trans (hb3.mono hbw.size)⟩

def SzT (n m : Nat) (os : List Ou) (left r : Int) : Prop := r = -1 ∨ 0 ≤ r ∧ r ≤ left ∧ (n : Int) ≤ left ∧ (m : Int) ≤ left ∧ ∀ j, j < m → ((os.getD j O0).l.length : Int) ≤ left

set_option maxHeartbeats 400000 in
theorem szTx_any (k f : Int) (ia oa : Option Addr) (n m c d : Nat) (os : List Ou) (left : Int) (w : World) (h0 : 0 ≤ left) (h1 : left ≤ 1048576) (hn : n ≤ maxLen) (hm : m ≤ maxLen) (h : OAt w oa m os) :
    Calls Tryz.prog 4 #[.agg #[.int .i64 k, .int .i64 f, .slice ia n c, .slice oa m d], .int .i64 left] w fun e w' => ∃ r : Int, e = .returned (.int .i64 r) ∧ SzT n m os left r ∧ Below w.heap.size w w' := by
  have hbx : Below w.heap.size w (w.alloc (.cells #[.int .i64 k, .int .i64 f, .slice ia n c, .slice oa m d] 25)) := below_box _
  have hS := szRf_any ia n c left (w.alloc (.cells #[.int .i64 k, .int .i64 f, .slice ia n c, .slice oa m d] 25)) h0 h1 hn
  have HO : Hid (OAt (w.alloc (.cells #[.int .i64 k, .int .i64 f, .slice ia n c, .slice oa m d] 25)) oa m os) := h.below hbx (Nat.le_refl _)
  have HBX : Hid (Below w.heap.size w (w.alloc (.cells #[.int .i64 k, .int .i64 f, .slice ia n c, .slice oa m d] 25))) := hbx
  clear h hbx
  go_enter Tryz.func4, Tryz.ntmps4
  go_wp2_with (first
    | (go_at_call 10; refine hS.mono ?_; rintro e w2 ⟨r, rfl, hw, hr⟩; have hw2 := hw.symm; subst hw2)
    | (go_at_call 11; rcases hr with hr | hr; (omega); refine (szOs_any oa m d os r _ hr.1 (by omega) hm HO.out).mono ?_; rintro e w3 ⟨r2, rfl, hr2, hb3⟩; have HB3 : Hid (Below w.heap.size w w3) := HBX.out.trans (hb3.mono (by simp)); clear hb3))
  · go_ret
    exact ⟨_, rfl, Or.inl rfl, HBX.out⟩
  · go_ret
    exact ⟨_, rfl, Or.inl rfl, HB3.out⟩
  · have h2 : 0 ≤ r2 := by assumption
    go_ret
    refine ⟨_, rfl, Or.inr ⟨h2, ?_⟩, HB3.out⟩
    rcases hr2 with e | ⟨_, e1, e2, e3⟩
    · omega
    · exact ⟨by omega, by omega, by omega, fun j hj => by have := e3 j hj; omega⟩

end Go.Proofs.YtoahopeegmhlnaaGreatDoor

namespace Go.Proofs.YtoahopeegmhlnaaGreatDoor
open Go.RowKit Go.Maps Go.WideMaps

/-- Three blocks of four cells: what came in, the result, the copy under way. -/
structure TxB3 (w v : World) (p0 p1 p2 p3 o0 o1 o2 o3 : Value) : Prop where
  p : v.heap[w.heap.size]? = some (.cells #[p0, p1, p2, p3] 25 (0, 0))
  r : v.heap[w.heap.size + 1]? = some (.cells #[.int .i64 0, .int .i64 0, .slice none 0 0, .slice none 0 0] 33 (0, 0))
  o : v.heap[w.heap.size + 1 + 1]? = some (.cells #[o0, o1, o2, o3] 33 (0, 0))
  bel : Below w.heap.size w v
section
variable {w v v' : World} {p0 p1 p2 p3 o0 o1 o2 o3 : Value}
theorem TxB3.step (h : TxB3 w v p0 p1 p2 p3 o0 o1 o2 o3) (hb : Below v.heap.size v v') : TxB3 w v' p0 p1 p2 p3 o0 o1 o2 o3 := ⟨(keepb h.p hb).out, (keepb h.r hb).out, (keepb h.o hb).out, h.bel.trans (hb.mono h.bel.size)⟩
theorem TxB3.set {i : Nat} {u q0 q1 q2 q3 : Value} (h : TxB3 w v p0 p1 p2 p3 o0 o1 o2 o3) (hq : (#[o0, o1, o2, o3] : Array Value).setIfInBounds i u = #[q0, q1, q2, q3]) : TxB3 w (v.setCell ⟨w.heap.size + 1 + 1, i, none⟩ u) p0 p1 p2 p3 q0 q1 q2 q3 := by
  refine ⟨(Below.heap_setCell _ ⟨w.heap.size + 1 + 1, i, none⟩ _ w.heap.size (show w.heap.size ≠ w.heap.size + 1 + 1 by omega)).trans h.p, (Below.heap_setCell _ ⟨w.heap.size + 1 + 1, i, none⟩ _ (w.heap.size + 1) (show w.heap.size + 1 ≠ w.heap.size + 1 + 1 by omega)).trans h.r, ?_, h.bel.setCell (p := ⟨w.heap.size + 1 + 1, i, none⟩) (show w.heap.size ≤ w.heap.size + 1 + 1 by omega) _⟩
  have := Joins.block_setCell (i := i) h.o u
  rw [hq] at this
  exact this
theorem TxB3.lt (h : TxB3 w v p0 p1 p2 p3 o0 o1 o2 o3) : w.heap.size + 1 + 1 < v.heap.size := lt_of_block h.o
end

/-- A transaction's copy: its refs and its outs lie in new memory. -/
def OutTx (w w' : World) (e : Ending) (k f : Int) (n m : Nat) (rs : List (Int × Int)) (os : List Ou) : Prop :=
  ∃ g0 c0 g1 c1, e = .returned (.agg #[.int .i64 k, .int .i64 f, .slice (some ⟨g0, 0, none⟩) n c0, .slice (some ⟨g1, 0, none⟩) m c1]) ∧ w'.ownsRow w.heap.size 61 2 (.slice (some ⟨g0, 0, none⟩) n c0) n (gcells rs) ∧ OAtN w' w.heap.size g1 m os ∧ Below w.heap.size w w'

set_option maxHeartbeats 1000000 in
theorem toTx_any (k f : Int) (ia oa : Option Addr) (n m c d : Nat) (rs : List (Int × Int)) (os : List Ou) (w : World) (hn : n ≤ 1048576) (hm : m ≤ 1048576) (hk : ∀ j, j < m → (os.getD j O0).l.length ≤ 1048576) (h : TxAt w ia n oa m rs os) :
    Calls Tryz.prog 6 #[.agg #[.int .i64 k, .int .i64 f, .slice ia n c, .slice oa m d]] w fun e w' => OutTx w w' e k f n m rs os := by
  obtain ⟨t0, t1, t2, t3⟩ := three_blocks w (.cells #[.int .i64 k, .int .i64 f, .slice ia n c, .slice oa m d] 25) (.cells #[.int .i64 0, .int .i64 0, .slice none 0 0, .slice none 0 0] 33) (.cells #[.int .i64 k, .int .i64 f, .slice none 0 0, .slice none 0 0] 33)
  have hT1 : TxB3 w (((w.alloc (.cells #[.int .i64 k, .int .i64 f, .slice ia n c, .slice oa m d] 25)).alloc (.cells #[.int .i64 0, .int .i64 0, .slice none 0 0, .slice none 0 0] 33)).alloc (.cells #[.int .i64 k, .int .i64 f, .slice none 0 0, .slice none 0 0] 33)) (.int .i64 k) (.int .i64 f) (.slice ia n c) (.slice oa m d) (.int .i64 k) (.int .i64 f) (.slice none 0 0) (.slice none 0 0) := ⟨t0, t1, t2, below_box3 _ _ _⟩
  have hS := toRf_any ia n c rs (((w.alloc (.cells #[.int .i64 k, .int .i64 f, .slice ia n c, .slice oa m d] 25)).alloc (.cells #[.int .i64 0, .int .i64 0, .slice none 0 0, .slice none 0 0] 33)).alloc (.cells #[.int .i64 k, .int .i64 f, .slice none 0 0, .slice none 0 0] 33)) hn (h.r.below hT1.bel (Nat.le_refl _))
  have HT1 := show Hid (TxB3 w (((w.alloc (.cells #[.int .i64 k, .int .i64 f, .slice ia n c, .slice oa m d] 25)).alloc (.cells #[.int .i64 0, .int .i64 0, .slice none 0 0, .slice none 0 0] 33)).alloc (.cells #[.int .i64 k, .int .i64 f, .slice none 0 0, .slice none 0 0] 33)) (.int .i64 k) (.int .i64 f) (.slice ia n c) (.slice oa m d) (.int .i64 k) (.int .i64 f) (.slice none 0 0) (.slice none 0 0)) from hT1
  have HSZ := show Hid ((((w.alloc (.cells #[.int .i64 k, .int .i64 f, .slice ia n c, .slice oa m d] 25)).alloc (.cells #[.int .i64 0, .int .i64 0, .slice none 0 0, .slice none 0 0] 33)).alloc (.cells #[.int .i64 k, .int .i64 f, .slice none 0 0, .slice none 0 0] 33)).heap.size = w.heap.size + 1 + 1 + 1) from t3
  have HO : Hid (OAt w oa m os) := h.o
  have HK : Hid (∀ j, j < m → (os.getD j O0).l.length ≤ 1048576) := hk
  obtain ⟨s0, s1, s2, s3, _⟩ := cells4 hT1.p
  clear t0 t1 t2 t3 hT1 h hk
  go_enter Tryz.func6, Tryz.ntmps6
  go_wp2_with (first
    | (go_at_call 14; refine hS.mono ?_; rintro e w2 ⟨g0, k0, rfl, ho0, hb2⟩; rw [HSZ.out] at ho0; have HT2 : Hid (TxB3 w w2 (.int .i64 k) (.int .i64 f) (.slice ia n c) (.slice oa m d) (.int .i64 k) (.int .i64 f) (.slice none 0 0) (.slice none 0 0)) := HT1.out.step hb2; have HT3 : Hid (TxB3 w (w2.setCell ⟨w.heap.size + 1 + 1, 2, none⟩ (.slice (some ⟨g0, 0, none⟩) n k0)) (.int .i64 k) (.int .i64 f) (.slice ia n c) (.slice oa m d) (.int .i64 k) (.int .i64 f) (.slice (some ⟨g0, 0, none⟩) n k0) (.slice none 0 0)) := HT2.out.set (i := 2) rfl; have HROW : Hid ((w2.setCell ⟨w.heap.size + 1 + 1, 2, none⟩ (.slice (some ⟨g0, 0, none⟩) n k0)).ownsRow (w.heap.size + 1 + 1 + 1) 61 2 (.slice (some ⟨g0, 0, none⟩) n k0) n (gcells rs)) := ownsRow_setCell_below ho0 (a := ⟨w.heap.size + 1 + 1, 2, none⟩) (show w.heap.size + 1 + 1 < _ by omega) _; obtain ⟨u0, u1, u2, u3, _⟩ := cells4 HT2.out.p; obtain ⟨v0, v1, v2, v3, v4, v5, v6, v7⟩ := cells4 HT2.out.o; obtain ⟨x0, x1, x2, x3, _⟩ := cells4 HT3.out.p; have hSO := toOs_any oa m d os _ hm HK.out (HO.out.below HT3.out.bel (Nat.le_refl _)); clear ho0 hb2)
    | (go_at_call 15; refine hSO.mono ?_; rintro e w3 ⟨g1, k1, rfl, hn3, hb3⟩; have HT4 : Hid (TxB3 w w3 (.int .i64 k) (.int .i64 f) (.slice ia n c) (.slice oa m d) (.int .i64 k) (.int .i64 f) (.slice (some ⟨g0, 0, none⟩) n k0) (.slice none 0 0)) := HT3.out.step hb3; have HROW3 : Hid (w3.ownsRow (w.heap.size + 1 + 1 + 1) 61 2 (.slice (some ⟨g0, 0, none⟩) n k0) n (gcells rs)) := HROW.out.kept (grown_of_below hb3) (by simp [Value.ownBlock]); have HON : Hid (OAtN w3 (w.heap.size + 1 + 1 + 1) g1 m os) := hn3.mono (by have := HT3.out.lt; omega); obtain ⟨a0, a1, a2, a3, a4, a5, a6, a7⟩ := cells4 HT4.out.o; obtain ⟨b0, b1, b2, b3, b4, b5, b6, b7⟩ := cells4 HT4.out.r; have HT5 : Hid (TxB3 w (w3.setCell ⟨w.heap.size + 1 + 1, 3, none⟩ (.slice (some ⟨g1, 0, none⟩) m k1)) (.int .i64 k) (.int .i64 f) (.slice ia n c) (.slice oa m d) (.int .i64 k) (.int .i64 f) (.slice (some ⟨g0, 0, none⟩) n k0) (.slice (some ⟨g1, 0, none⟩) m k1)) := HT4.out.set (i := 3) rfl; clear hn3 hb3))
  obtain ⟨j0, j1, j2, j3⟩ := four_set HT5.out.r (.int .i64 k) (.int .i64 f) (.slice (some ⟨g0, 0, none⟩) n k0) (.slice (some ⟨g1, 0, none⟩) m k1)
  refine bodyPost_ret (v := .agg #[.int .i64 k, .int .i64 f, .slice (some ⟨g0, 0, none⟩) n k0, .slice (some ⟨g1, 0, none⟩) m k1]) (by simp [results, Tryz.results6, go_sem, j0, j1, j2, j3]) rfl ⟨g0, k0, g1, k1, rfl, ?_, ?_, ?_⟩
  · exact row_res4 (ownsRow_setCell_below HROW3.out (a := ⟨w.heap.size + 1 + 1, 3, none⟩) (show w.heap.size + 1 + 1 < _ by omega) _) (by omega) (by omega) _ _ _ _
  · exact (((((HON.out.set (by omega) _).set (by omega) _).set (by omega) _).set (by omega) _).set (by omega) _).mono (by omega)
  · exact below_res4 HT5.out.bel _ _ _ _

end Go.Proofs.YtoahopeegmhlnaaGreatDoor
